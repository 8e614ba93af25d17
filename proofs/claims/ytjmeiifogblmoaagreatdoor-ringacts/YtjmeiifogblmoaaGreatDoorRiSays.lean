/- What is asked of the program's own package ring. -/
import Derived.Test.YtjmeiifogblmoaaGreatDoorMR13
import Derived.Test.YtjmeiifogblmoaaGreatDoorRiKit
import Derived.Test.YtjmeiifogblmoaaGreatDoorRecSays
import Derived.Test.YtjmeiifogblmoaaGreatDoorMDrvC
namespace Go.Proofs.YtjmeiifogblmoaaGreatDoor
open Go.RowKit

/-- what the program's Open answers, RAt telling its rings -/
def POpenAns (RAt : World → Nat → Nat → Nat → Nat → (Nat → Prop) → Prop) (w : World) (dp : Nat) (D : Dr) (e : Ending) (w' : World) : Prop :=
  ((Ri.openE D ≠ 0 ∧ ∃ a cap, e = .returned (.tuple #[.pointer none, .slice a 0 cap, .int .i64 (Ri.openE D : Nat)])) ∨
   (Ri.openE D = 0 ∧ ∃ rp a cap, e = .returned (.tuple #[.pointer (some ⟨rp, 0, none⟩), .slice a (Ri.openC D) cap, .int .i64 0]) ∧ RAt w' rp dp (Ri.openT D) (Ri.openC D) (fun k => w.heap.size ≤ k) ∧ RecsR w' a (Ri.openC D) (fun j => Ri.recT D (Ri.nth (Ri.openT D) (j + 1))))) ∧ Below w.heap.size w w'
structure RingSays where
  /-- a ring behind rp, over the drive behind dp, with c numbers behind t: its own blocks lie in H -/
  RAt : World → Nat → Nat → Nat → Nat → (Nat → Prop) → Prop
  only : ∀ {w w' : World} {rp dp t c : Nat} {H F : Nat → Prop}, RAt w rp dp t c H → Only F w w' → (∀ k, k < w.heap.size → H k → ¬ F k) → RAt w' rp dp t c H
  mono : ∀ {w : World} {rp dp t c : Nat} {H F : Nat → Prop}, RAt w rp dp t c H → (∀ k, H k → F k) → RAt w rp dp t c F
  tight : ∀ {w : World} {rp dp t c : Nat} {H : Nat → Prop}, RAt w rp dp t c H → RAt w rp dp t c (fun k => H k ∧ k < w.heap.size)
  slots : ∀ (n : Nat) (w : World), n ≤ 65535 → Calls Tryz.prog 14 #[.int .i64 (n : Nat)] w fun e w' => e = .returned (.int .i64 (Ri.slots n : Nat)) ∧ Below w.heap.size w w'
  format : ∀ {w : World} {dp : Nat} {D : Dr} {F : Nat → Prop}, DriveAt w dp D F → D.goes = false → D.Few 900000 → Calls Tryz.prog 12 #[.pointer (some ⟨dp, 0, none⟩)] w fun e w' => e = .returned (.int .i64 ((Ri.formatS D).1 : Nat)) ∧ DriveAt w' dp (Ri.formatS D).2 (Plus F w.heap.size) ∧ Only F w w'
  opens : ∀ {w : World} {dp : Nat} {D : Dr} {F : Nat → Prop}, DriveAt w dp D F → D.goes = false → Calls Tryz.prog 16 #[.pointer (some ⟨dp, 0, none⟩)] w (POpenAns RAt w dp D)
  append : ∀ {w : World} {rp dp t c : Nat} {D : Dr} {F H : Nat → Prop} (row : Int) (a : Option Addr) (n cap : Nat) (f : Nat → Prt), DriveAt w dp D F → RAt w rp dp t c H → (∀ k, F k → ¬ H k) → D.goes = false → D.Few 900000 → t < 18446744073709551616 → c ≤ 1000 → RecIn row n f → RecLight n f → PartsR w a n f → (0 < n → ∀ x, a = some x → ¬ F x.block ∧ ¬ H x.block) →
    Calls Tryz.prog 28 #[.pointer (some ⟨rp, 0, none⟩), .int .i64 row, .slice a n cap] w fun e w' => e = .returned (.tuple #[.int .u64 (Ri.appV D t c row n f : Nat), .int .i64 ((Ri.appS D t c row n f).1 : Nat)]) ∧ DriveAt w' dp (Ri.appS D t c row n f).2 (Plus F w.heap.size) ∧ RAt w' rp dp t (Ri.appC D t c row n f) H ∧ Only (fun k => F k ∨ H k) w w'
  trim : ∀ {w : World} {rp dp t c : Nat} {D : Dr} {F H : Nat → Prop} (q : Nat), DriveAt w dp D F → RAt w rp dp t c H → (∀ k, F k → ¬ H k) → D.goes = false → D.Few 900000 → 0 < Ri.slots D.safe.length → t < 18446744073709551616 → c ≤ 1000 → q < 18446744073709551616 →
    Calls Tryz.prog 31 #[.pointer (some ⟨rp, 0, none⟩), .int .u64 (q : Int)] w fun e w' => e = .returned (.int .i64 ((Ri.trimS D t c q).1 : Nat)) ∧ DriveAt w' dp (Ri.trimS D t c q).2 (Plus F w.heap.size) ∧ RAt w' rp dp (Ri.trimT D t c q).1 (Ri.trimT D t c q).2 H ∧ Only (fun k => F k ∨ H k) w w'
  left : ∀ {w : World} {rp dp t c : Nat} {D : Dr} {F H : Nat → Prop}, DriveAt w dp D F → RAt w rp dp t c H → t < 18446744073709551616 → c ≤ 1000 → Calls Tryz.prog 33 #[.pointer (some ⟨rp, 0, none⟩)] w fun e w' => e = .returned (.int .i64 ((Ri.slots D.safe.length : Nat) - (c : Nat))) ∧ Below w.heap.size w w'
  next : ∀ {w : World} {rp dp t c : Nat} {H : Nat → Prop}, RAt w rp dp t c H → Calls Tryz.prog 35 #[.pointer (some ⟨rp, 0, none⟩)] w fun e w' => e = .returned (.int .u64 (Ri.nth t (c + 1) : Nat)) ∧ Below w.heap.size w w'
/-- a drive and a ring over it, both of the call's own: all their blocks lie from B on -/
def RMine (X : RingSays) (w : World) (B rp dp : Nat) (D : Dr) (t c : Nat) : Prop :=
  B ≤ w.heap.size ∧ ∃ F H : Nat → Prop, DriveAt w dp D F ∧ X.RAt w rp dp t c H ∧ (∀ k, F k → ¬ H k) ∧ (∀ k, F k → B ≤ k ∧ k < w.heap.size) ∧ (∀ k, H k → B ≤ k ∧ k < w.heap.size)
section
variable {X : RingSays} {w w' : World} {B rp dp t c n cap : Nat} {D : Dr} {a : Option Addr} {row : Int} {f : Nat → Prt}
theorem RMine.below (h : RMine X w B rp dp D t c) (hb : Below w.heap.size w w') : RMine X w' B rp dp D t c := by
  obtain ⟨hB, F, H, hd, hr, h1, h2, h3⟩ := h
  exact ⟨Nat.le_trans hB hb.size, F, H, hd.below hb, X.only hr (Only.of_below hb (fun _ => False)) (fun _ _ _ e => e), h1, fun k hk => ⟨(h2 k hk).1, Nat.lt_of_lt_of_le (h2 k hk).2 hb.size⟩, fun k hk => ⟨(h3 k hk).1, Nat.lt_of_lt_of_le (h3 k hk).2 hb.size⟩⟩
theorem RMine.drive (h : RMine X w B rp dp D t c) : Mine w B dp D := by
  obtain ⟨hB, F, H, hd, _, _, h2, _⟩ := h
  exact ⟨hd.mono fun k hk => (h2 k hk).1, hB⟩
theorem RMine.le (h : RMine X w B rp dp D t c) : B ≤ w.heap.size := h.1
/-- Format, of a drive of the call's own -/
theorem format_mine (h : Mine w B dp D) (hg : D.goes = false) (hf : D.Few 900000) (X : RingSays) :
    Calls Tryz.prog 12 #[.pointer (some ⟨dp, 0, none⟩)] w fun e w' => e = .returned (.int .i64 ((Ri.formatS D).1 : Nat)) ∧ Mine w' B dp (Ri.formatS D).2 ∧ Below B w w' :=
  (X.format h.1 hg hf).mono fun _ _ ⟨he, hd, ho⟩ => ⟨he, ⟨based hd h.2, Nat.le_trans h.2 ho.size⟩, turned ho h.2⟩
/-- Open, of a drive of the call's own, where it is a journal -/
theorem opens_mine (h : Mine w B dp D) (hg : D.goes = false) (he : Ri.openE D = 0) (X : RingSays) :
    Calls Tryz.prog 16 #[.pointer (some ⟨dp, 0, none⟩)] w fun e w' => ∃ rp a cap, e = .returned (.tuple #[.pointer (some ⟨rp, 0, none⟩), .slice a (Ri.openC D) cap, .int .i64 0]) ∧ RMine X w' B rp dp D (Ri.openT D) (Ri.openC D) ∧ RecsR w' a (Ri.openC D) (fun j => Ri.recT D (Ri.nth (Ri.openT D) (j + 1))) ∧ Below B w w' := by
  refine (X.opens h.1 hg).mono ?_
  rintro e w' ⟨h1 | ⟨_, rp, a, cap, h1, h2, h3⟩, hb⟩
  · exact absurd he h1.1
  · refine ⟨rp, a, cap, h1, ⟨Nat.le_trans h.2 hb.size, fun k => B ≤ k ∧ k < w.heap.size, fun k => w.heap.size ≤ k ∧ k < w'.heap.size, h.1.tight.below hb, X.tight h2, fun k hk e => by omega, fun k hk => ⟨hk.1, Nat.lt_of_lt_of_le hk.2 hb.size⟩, fun k hk => ⟨Nat.le_trans h.2 hk.1, hk.2⟩⟩, h3, hb.mono h.2⟩
theorem RMine.step {E : Dr} {t' c' : Nat} {F H : Nat → Prop} (hB : B ≤ w.heap.size) (h1 : ∀ k, F k → ¬ H k) (h2 : ∀ k, F k → B ≤ k ∧ k < w.heap.size) (h3 : ∀ k, H k → B ≤ k ∧ k < w.heap.size)
    (hd : DriveAt w' dp E (Plus F w.heap.size)) (hr : X.RAt w' rp dp t' c' H) (ho : Only (fun k => F k ∨ H k) w w') : RMine X w' B rp dp E t' c' ∧ Below B w w' :=
  ⟨⟨Nat.le_trans hB ho.size, fun k => Plus F w.heap.size k ∧ k < w'.heap.size, H, hd.tight, hr, fun k hk e => hk.1.elim (fun x => h1 k x e) (fun x => by have := h3 k e; omega), fun k hk => ⟨hk.1.elim (fun x => (h2 k x).1) (fun x => Nat.le_trans hB x), hk.2⟩, fun k hk => ⟨(h3 k hk).1, Nat.lt_of_lt_of_le (h3 k hk).2 ho.size⟩⟩,
    ho.below (fun k hk => hk.elim (fun x => (h2 k x).1) (fun x => (h3 k x).1)) hB⟩
/-- Append, by a row of parts that came in, or that was made behind the ring -/
theorem append_mine {w0 : World} (h : RMine X w0 B rp dp D t c) (hb : Below w0.heap.size w0 w) (hg : D.goes = false) (hf : D.Few 900000) (ht : t < 18446744073709551616) (hc : c ≤ 1000) (hin : RecIn row n f) (hl : RecLight n f) (hp : PartsR w a n f) (ha : ∀ x, a = some x → x.block < B ∨ w0.heap.size ≤ x.block) :
    Calls Tryz.prog 28 #[.pointer (some ⟨rp, 0, none⟩), .int .i64 row, .slice a n cap] w fun e w' => e = .returned (.tuple #[.int .u64 (Ri.appV D t c row n f : Nat), .int .i64 ((Ri.appS D t c row n f).1 : Nat)]) ∧ RMine X w' B rp dp (Ri.appS D t c row n f).2 t (Ri.appC D t c row n f) ∧ Below B w w' := by
  obtain ⟨hB, F, H, hd, hr, h1, h2, h3⟩ := h
  have hap : ∀ x, a = some x → ¬ F x.block ∧ ¬ H x.block := fun x hx => ⟨fun e => by have := h2 _ e; have := ha x hx; omega, fun e => by have := h3 _ e; have := ha x hx; omega⟩
  refine (X.append row a n cap f (hd.below hb) (X.only hr (Only.of_below hb (fun _ => False)) (fun _ _ _ e => e)) h1 hg hf ht hc hin hl hp fun _ => hap).mono ?_
  rintro e w' ⟨he, hd', hr', ho⟩
  obtain ⟨r1, r2⟩ := RMine.step (Nat.le_trans hB hb.size) h1 (fun k hk => ⟨(h2 k hk).1, Nat.lt_of_lt_of_le (h2 k hk).2 hb.size⟩) (fun k hk => ⟨(h3 k hk).1, Nat.lt_of_lt_of_le (h3 k hk).2 hb.size⟩) hd' hr' ho
  exact ⟨he, r1, r2⟩
theorem trim_mine (h : RMine X w B rp dp D t c) (hg : D.goes = false) (hf : D.Few 900000) (hs : 0 < Ri.slots D.safe.length) (ht : t < 18446744073709551616) (hc : c ≤ 1000) (q : Nat) (hq : q < 18446744073709551616) :
    Calls Tryz.prog 31 #[.pointer (some ⟨rp, 0, none⟩), .int .u64 (q : Int)] w fun e w' => e = .returned (.int .i64 ((Ri.trimS D t c q).1 : Nat)) ∧ RMine X w' B rp dp (Ri.trimS D t c q).2 (Ri.trimT D t c q).1 (Ri.trimT D t c q).2 ∧ Below B w w' := by
  obtain ⟨hB, F, H, hd, hr, h1, h2, h3⟩ := h
  refine (X.trim q hd hr h1 hg hf hs ht hc hq).mono ?_
  rintro e w' ⟨he, hd', hr', ho⟩
  obtain ⟨r1, r2⟩ := RMine.step hB h1 h2 h3 hd' hr' ho
  exact ⟨he, r1, r2⟩
theorem left_mine (h : RMine X w B rp dp D t c) (ht : t < 18446744073709551616) (hc : c ≤ 1000) :
    Calls Tryz.prog 33 #[.pointer (some ⟨rp, 0, none⟩)] w fun e w' => e = .returned (.int .i64 ((Ri.slots D.safe.length : Nat) - (c : Nat))) ∧ RMine X w' B rp dp D t c ∧ Below B w w' := by
  have hh := h
  obtain ⟨hB, F, H, hd, hr, h1, h2, h3⟩ := h
  exact (X.left hd hr ht hc).mono fun e w' ⟨he, hb⟩ => ⟨he, hh.below hb, hb.mono hB⟩
theorem next_mine (h : RMine X w B rp dp D t c) :
    Calls Tryz.prog 35 #[.pointer (some ⟨rp, 0, none⟩)] w fun e w' => e = .returned (.int .u64 (Ri.nth t (c + 1) : Nat)) ∧ RMine X w' B rp dp D t c ∧ Below B w w' := by
  have hh := h
  obtain ⟨hB, F, H, hd, hr, h1, h2, h3⟩ := h
  exact (X.next hr).mono fun e w' ⟨he, hb⟩ => ⟨he, hh.below hb, hb.mono hB⟩
end
end Go.Proofs.YtjmeiifogblmoaaGreatDoor
