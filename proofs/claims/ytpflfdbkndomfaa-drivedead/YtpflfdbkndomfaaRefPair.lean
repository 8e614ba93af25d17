/- Both drives, from New on, till both are dead: each call of one leaves the other one as it is. -/
import Derived.Test.YtpflfdbkndomfaaRefDoes
import Derived.Deep.Onto
namespace Go.Proofs.Ytpflfdbkndomfaa
open Go.RowKit Go.Maps

theorem RefIn.lower {w : World} {B B' rp : Nat} {vS vW vP : Value} {S : List ByteArray} {Wl : List Value} {Pl : List Bool} {gone cut : Bool} {left : Int} (h : RefIn w B rp vS vW vP S Wl Pl gone cut left) (hb : B' ≤ B) : RefIn w B' rp vS vW vP S Wl Pl gone cut left :=
  ⟨h.self, Nat.le_trans hb h.lo, h.safes.mono hb, h.writes.mono hb, h.spoilt.mono hb⟩
/-- Both drives, apart from one another. -/
structure Pair (w : World) (B p rp : Nat) (vS vW vP : Value) (D : Dr) (F : Nat → Prop) (S : List ByteArray) (Wl : List Value) : Prop where
  d : DriveAt w p D F
  lo : ∀ k, F k → B ≤ k
  r : RefIn w B rp vS vW vP S Wl (List.replicate 5 false) false false 0
  apart : ∀ k, F k → ¬ RFoot rp vS vW vP k
section
variable {w : World} {B p rp : Nat} {vS vW vP : Value} {D : Dr} {F : Nat → Prop} {S : List ByteArray} {Wl : List Value}
theorem Pair.size (h : Pair w B p rp vS vW vP D F S Wl) : B ≤ w.heap.size := Nat.le_trans h.r.lo (Nat.le_of_lt (h.r.lt rp (.inl rfl)).2)
theorem Pair.of_d (h : Pair w B p rp vS vW vP D F S Wl) {w' : World} {D' : Dr} {F' : Nat → Prop} (hd : DriveAt w' p D' F') (hF : ∀ k, F' k → F k ∨ w.heap.size ≤ k) (ho : Only F w w') : Pair w' B p rp vS vW vP D' F' S Wl ∧ Below B w w' := by
  refine ⟨⟨hd, fun k hk => ?_, h.r.only ho (fun k hk hf => h.apart k hf hk), fun k hk hr => ?_⟩, ho.below h.lo h.size⟩
  · rcases hF k hk with h1 | h1
    · exact h.lo k h1
    · exact Nat.le_trans h.size h1
  · rcases hF k hk with h1 | h1
    · exact h.apart k h1 hr
    · have := (h.r.lt k hr).2; omega
theorem Pair.of_r (h : Pair w B p rp vS vW vP D F S Wl) {w' : World} {S' : List ByteArray} {Wl' : List Value} (hr : RefIn w' B rp vS vW vP S' Wl' (List.replicate 5 false) false false 0) (ho : Only (RFoot rp vS vW vP) w w') : Pair w' B p rp vS vW vP D F S' Wl' ∧ Below B w w' :=
  ⟨⟨h.d.only ho (fun k _ hf hk => h.apart k hf hk), h.lo, hr, h.apart⟩, ho.below (fun k hk => (h.r.lt k hk).1) h.size⟩
theorem pair_new {w : World} {B p : Nat} {D : Dr} (hd : DriveAt w p D (fun k => B ≤ k)) (hB : B ≤ w.heap.size) : Calls Try.prog 19 #[.int .i64 5] w fun e w' => ∃ rp vS vW vP F, e = .returned (.pointer (some ⟨rp, 0, none⟩)) ∧
    Pair w' B p rp vS vW vP D F (List.replicate 5 blankB) (List.replicate 5 nilS) ∧ Below B w w' := by
  refine (refNew5 w).mono ?_
  rintro e w' ⟨rp, vS, vW, vP, he, hr, hb⟩
  refine ⟨rp, vS, vW, vP, fun k => B ≤ k ∧ k < w.heap.size, he, ⟨hd.tight.below hb, fun k hk => hk.1, hr.lower hB, fun k hk hf => ?_⟩, hb.mono hB⟩
  have := (hr.lt k hf).1; omega
theorem pair_write (h : Pair w B p rp vS vW vP D F S Wl) (hv : D.Live 5) (s : ByteArray) (hs : s.size = 64) (hlen : (D.writes 2).length ≤ 1000000) :
    Calls Try.prog 10 #[.pointer (some ⟨p, 0, none⟩), .int .i64 2, .string s] w fun e w' => e = .returned (.int .i64 0) ∧ ∃ F', Pair w' B p rp vS vW vP (D.put 2 s.data.toList) F' S Wl ∧ Below B w w' :=
  (write_live h.d hv 2 (by decide) s hs hlen).mono fun _ _ ⟨he, hd, ho⟩ => ⟨he, _, h.of_d hd (fun _ hk => hk) ho⟩
theorem pair_flush (h : Pair w B p rp vS vW vP D F S Wl) (hv : D.Live 5) (hlen : ∀ i, (D.writes i).length ≤ 1000000) :
    Calls Try.prog 12 #[.pointer (some ⟨p, 0, none⟩)] w fun e w' => e = .returned (.int .i64 0) ∧ Pair w' B p rp vS vW vP (D.settle fun _ c => c) F S Wl ∧ Below B w w' :=
  (flush_live h.d hv hlen).mono fun _ _ ⟨he, hd, ho⟩ => ⟨he, h.of_d hd (fun _ hk => .inl hk) ho⟩
theorem pair_die (h : Pair w B p rp vS vW vP D F S Wl) :
    Calls Try.prog 22 #[.pointer (some ⟨p, 0, none⟩)] w fun e w' => e = .returned (.tuple #[]) ∧ Pair w' B p rp vS vW vP D.die F S Wl ∧ Below B w w' :=
  (die_any h.d).mono fun _ _ ⟨he, hd, ho⟩ => ⟨he, h.of_d hd (fun _ hk => .inl hk) ho⟩
/-- the document's own drive has written the sector 2 -/
def Wrote (w : World) (rp : Nat) (vS vW vP : Value) (s : ByteArray) (g cp : Nat) : Prop := 1 ≤ cp ∧ cp ≤ maxLen ∧ w.cell? ⟨g, 0, none⟩ = some (.string s) ∧ ¬ RFoot rp vS vW vP g ∧ g < w.heap.size
theorem pair_rwrite (h : Pair w B p rp vS vW vP D F S (List.replicate 5 nilS)) (hS : S.length = 5) (s : ByteArray) (hs : s.size = 64) :
    Calls Try.prog 20 #[.pointer (some ⟨rp, 0, none⟩), .int .i64 2, .string s] w fun e w' => e = .returned (.int .i64 0) ∧ ∃ g cp, Pair w' B p rp vS vW vP D F S (oneW (.slice (some ⟨g, 0, none⟩) 1 cp)) ∧ Wrote w' rp vS vW vP s g cp ∧ Below B w w' :=
  (refWrite2 h.r hS s hs).mono fun _ _ ⟨he, g, cp, hr, h1, h2, h3, h4, h5, ho⟩ => by
    obtain ⟨hp, hb⟩ := h.of_r hr ho
    exact ⟨he, g, cp, hp, ⟨h1, h2, h3, fun hf => by have := (h.r.lt g hf).2; omega, h5⟩, hb⟩
theorem pair_rflush {s : ByteArray} {g cp : Nat} (h : Pair w B p rp vS vW vP D F S (oneW (.slice (some ⟨g, 0, none⟩) 1 cp))) (hS : S.length = 5) (hw : Wrote w rp vS vW vP s g cp) :
    Calls Try.prog 21 #[.pointer (some ⟨rp, 0, none⟩)] w fun e w' => e = .returned (.int .i64 0) ∧ Pair w' B p rp vS vW vP D F (S.set 2 s) (List.replicate 5 nilS) ∧ Below B w w' :=
  (refFlush2 h.r hS hw.1 hw.2.1 hw.2.2.1 hw.2.2.2.1 hw.2.2.2.2).mono fun _ _ ⟨he, hr, ho⟩ => ⟨he, h.of_r hr ho⟩
theorem Pair.cells (h : Pair w B p rp vS vW vP D F S Wl) : (∃ v, w.cell? ⟨rp, 3, none⟩ = some (.bool v)) ∧ w.frozen? ⟨rp, 3, none⟩ = false := by
  obtain ⟨_, _, _, c3, _, _, cf⟩ := h.r.cell
  exact ⟨⟨_, c3⟩, cf 3⟩
/-- behind Gone = true both are dead -/
theorem Pair.gone {s : ByteArray} (h : Pair w B p rp vS vW vP D F (S5 s) (List.replicate 5 nilS)) (hD : DeadD D s) :
    Dead2 (w.setCell ⟨rp, 3, none⟩ (.bool true)) B w.heap.size p rp s ∧ Below B w (w.setCell ⟨rp, 3, none⟩ (.bool true)) := by
  obtain ⟨g1, g2⟩ := turn1 (j := 3) (v := .bool true) h.r.self
  have hd := h.d.tight.only g1 (fun k _ hf e => h.apart k hf.1 (.inl e))
  exact ⟨⟨D, _, vS, vW, vP, false, 0, hd, fun k hk => ⟨h.lo k hk.1, hk.2⟩, h.r.turn g1 (by rw [g2]; rfl), fun k hk => h.apart k hk.1, hD, (h.r.lt rp (.inl rfl)).2, g1.size⟩, g1.below (fun k hk => by rw [show k = rp from hk]; exact h.r.lo) h.size⟩
end
/-- what both have when they die -/
def DD (s : ByteArray) : Dr := (((Dr.fresh 5).put 2 s.data.toList).settle fun _ c => c).die
theorem dd_dead (s : ByteArray) : DeadD (DD s) s := by
  refine ⟨rfl, fun _ => rfl, ?_⟩
  have hl : ((Dr.fresh 5).put 2 s.data.toList).Live 5 := (Dr.Live.fresh 5).put _ _
  have hlen : (DD s).safe.length = 5 := (hl.settle fun _ c => c).len
  have at_ : ∀ i, i < 5 → (DD s).safe.getD i [] = ((S5 s).map (·.data.toList)).getD i [] := by
    intro i hi
    have h1 : (DD s).safe.getD i [] = ((Dr.fresh 5).put 2 s.data.toList).last i := Dr.flush_one hl hi
    rw [h1]
    have : i = 0 ∨ i = 1 ∨ i = 2 ∨ i = 3 ∨ i = 4 := by omega
    rcases this with rfl | rfl | rfl | rfl | rfl
    · rfl
    · rfl
    · rw [Dr.put_last]; rfl
    · rfl
    · rfl
  refine List.ext_getElem (by rw [hlen]; simp [S5]) fun i h1 h2 => ?_
  have := at_ i (by omega)
  rwa [List.getD_eq_getElem?_getD, List.getElem?_eq_getElem h1, List.getD_eq_getElem?_getD, List.getElem?_eq_getElem h2] at this
theorem S5_of (s : ByteArray) : (List.replicate 5 blankB).set 2 s = S5 s := rfl

/-- does, of any call -/
theorem does_any {w : World} {B C p rp : Nat} {s : ByteArray} (h : Dead2 w B C p rp s) (kind i : Int) (t : ByteArray) (a : Option Addr) (n cap : Nat) (hi : i ≤ 9223372036854775807) (ht : t.size ≤ 100) (l : List Nat) (hl : l.length = n) (hI : RowI .u8 w a l.length (fun j => ((l.getD j 0 : Nat) : Int))) (h8 : ∀ j, l.getD j 0 < 256) (hB : 0 < l.length → ∀ x, a = some x → x.block < B) (hn : n ≤ 1000) :
    Done B C p rp s w kind i t a n cap := by
  by_cases hk : 0 ≤ kind ∧ kind ≤ 9
  · obtain ⟨m, rfl⟩ := Int.eq_ofNat_of_zero_le hk.1
    have hm : m = 0 ∨ m = 1 ∨ m = 2 ∨ m = 3 ∨ m = 4 ∨ m = 5 ∨ m = 6 ∨ m = 7 ∨ m = 8 ∨ m = 9 := by omega
    rcases hm with rfl | rfl | rfl | rfl | rfl | rfl | rfl | rfl | rfl | rfl
    · exact does_0 h i t ht a n cap
    · exact does_1 h i t a n cap
    · exact does_2 h i t a n cap
    · exact does_3 h i t a n cap
    · subst hl; exact does_4 h i t l a cap hI (by unfold maxLen; omega) h8 hB
    · exact does_5 h i t a n cap
    · exact does_6 h i t ht a n cap
    · exact does_7 h i t a n cap
    · exact does_8 h i t a n cap
    · exact does_9 h i hi t a n cap
  · exact does_else h kind (fun j h0 h9 e => hk (by omega)) i t a n cap
end Go.Proofs.Ytpflfdbkndomfaa
