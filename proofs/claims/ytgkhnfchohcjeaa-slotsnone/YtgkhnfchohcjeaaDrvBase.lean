/- A drive of the call's own: all its blocks lie from B on; so nothing older turns. -/
import Derived.Test.YtgkhnfchohcjeaaDrvLive
namespace Go.Proofs.Ytgkhnfchohcjeaa
open Go.RowKit Go.Maps

/-- A drive whose blocks lie from B on. -/
def Mine (w : World) (B p : Nat) (D : Dr) : Prop := DriveAt w p D (fun k => B ≤ k) ∧ B ≤ w.heap.size
theorem Mine.below {w w' : World} {B p : Nat} {D : Dr} (h : Mine w B p D) (hb : Below w.heap.size w w') : Mine w' B p D := ⟨h.1.below hb, Nat.le_trans h.2 hb.size⟩
theorem Mine.le {w : World} {B p : Nat} {D : Dr} (h : Mine w B p D) : B ≤ w.heap.size := h.2
theorem turned {w w' : World} {B : Nat} (h : Only (fun k => B ≤ k) w w') (hB : B ≤ w.heap.size) : Below B w w' := h.below (fun _ hk => hk) hB
theorem based {w w' : World} {B p : Nat} {D : Dr} (h : DriveAt w' p D (Plus (fun k => B ≤ k) w.heap.size)) (hB : B ≤ w.heap.size) : DriveAt w' p D (fun k => B ≤ k) := h.mono fun _ hk => hk.elim id (fun h1 => Nat.le_trans hB h1)

theorem new_mine (n B : Nat) (h1 : 1 ≤ n) (h2 : n ≤ 4096) (w : World) (hB : B ≤ w.heap.size) : Calls Try.prog 7 #[.int .i64 (n : Nat)] w fun e w' => ∃ p, e = .returned (.pointer (some ⟨p, 0, none⟩)) ∧ Mine w' B p (Dr.fresh n) ∧ Below B w w' :=
  (new_yes n h1 h2 w).mono fun _ _ ⟨p, he, hd, hb⟩ => ⟨p, he, ⟨hd.mono fun _ hk => Nat.le_trans hB hk, Nat.le_trans hB hb.size⟩, hb.mono hB⟩
theorem write_mine {w : World} {B p n : Nat} {D : Dr} (h : Mine w B p D) (hv : D.Live n) (i : Nat) (hi : i < n) (s : ByteArray) (hs : s.size = 64) (hlen : (D.writes i).length ≤ 1000000) :
    Calls Try.prog 15 #[.pointer (some ⟨p, 0, none⟩), .int .i64 (i : Nat), .string s] w fun e w' => e = .returned (.int .i64 0) ∧ Mine w' B p (D.put i s.data.toList) ∧ Below B w w' :=
  (write_live h.1 hv i hi s hs hlen).mono fun _ _ ⟨he, hd, ho⟩ => ⟨he, ⟨based hd h.2, Nat.le_trans h.2 ho.size⟩, turned ho h.2⟩
theorem flush_mine {w : World} {B p n : Nat} {D : Dr} (h : Mine w B p D) (hv : D.Live n) (hlen : ∀ i, (D.writes i).length ≤ 1000000) :
    Calls Try.prog 23 #[.pointer (some ⟨p, 0, none⟩)] w fun e w' => e = .returned (.int .i64 0) ∧ Mine w' B p (D.settle fun _ c => c) ∧ Below B w w' :=
  (flush_live h.1 hv hlen).mono fun _ _ ⟨he, hd, ho⟩ => ⟨he, ⟨hd, Nat.le_trans h.2 ho.size⟩, turned ho h.2⟩
theorem read_mine {w : World} {B p n : Nat} {D : Dr} (h : Mine w B p D) (hv : D.Live n) (i : Nat) (hi : i < n) (hs : D.spoilt.getD i false = false) (t : ByteArray) (ht : D.last i = t.data.toList) :
    Calls Try.prog 33 #[.pointer (some ⟨p, 0, none⟩), .int .i64 (i : Nat)] w fun e w' => e = .returned (.tuple #[.string t, .int .i64 0]) ∧ Mine w' B p D ∧ Below B w w' :=
  (read_live h.1 hv i hi hs t ht).mono fun _ _ ⟨he, hb⟩ => ⟨he, h.below hb, hb.mono h.2⟩
theorem read_mine_bad {w : World} {B p n : Nat} {D : Dr} (h : Mine w B p D) (hv : D.Live n) (i : Nat) (hi : i < n) (hs : D.spoilt.getD i false = true) :
    Calls Try.prog 33 #[.pointer (some ⟨p, 0, none⟩), .int .i64 (i : Nat)] w fun e w' => e = .returned (.tuple #[.string ⟨#[]⟩, .int .i64 41]) ∧ Mine w' B p D ∧ Below B w w' :=
  (read_bad h.1 hv i hi hs).mono fun _ _ ⟨he, hb⟩ => ⟨he, h.below hb, hb.mono h.2⟩
theorem read_mine_any {w : World} {B p : Nat} {D : Dr} (h : Mine w B p D) (i : Int) :
    Calls Try.prog 33 #[.pointer (some ⟨p, 0, none⟩), .int .i64 i] w fun e w' => e = .returned (.tuple #[.string (txt (D.readS i)), .int .i64 (D.readE i : Nat)]) ∧ Mine w' B p D ∧ Below B w w' :=
  (read_any h.1 i).mono fun _ _ ⟨he, hb⟩ => ⟨he, h.below hb, hb.mono h.2⟩
theorem spoil_mine {w : World} {B p n : Nat} {D : Dr} (h : Mine w B p D) (hv : D.Live n) (i : Nat) (hi : i < n) :
    Calls Try.prog 12 #[.pointer (some ⟨p, 0, none⟩), .int .i64 (i : Nat)] w fun e w' => e = .returned (.int .i64 0) ∧ Mine w' B p (D.spoil i) ∧ Below B w w' :=
  (spoil_yes h.1 i hv.run (by rw [hv.len]; exact hi)).mono fun _ _ ⟨he, hd, ho⟩ => ⟨he, ⟨hd, Nat.le_trans h.2 ho.size⟩, turned ho h.2⟩
theorem spoil_mine_out {w : World} {B p n : Nat} {D : Dr} (h : Mine w B p D) (hv : D.Live n) (i : Nat) (hi : n ≤ i) :
    Calls Try.prog 12 #[.pointer (some ⟨p, 0, none⟩), .int .i64 (i : Nat)] w fun e w' => e = .returned (.int .i64 70) ∧ w' = w := by
  have := spoil_no h.1 i (by rw [hv.out hi]; omega)
  rw [hv.out hi] at this
  exact this
theorem crash_mine {w : World} {B p : Nat} {D : Dr} (h : Mine w B p D) (hl : ∀ i, (D.writes i).length ≤ 1000000) (keep : List Nat) (a : Option Addr) (cap : Nat) (hI : RowI .u8 w a keep.length (fun j => ((keep.getD j 0 : Nat) : Int))) (hlen : keep.length ≤ maxLen) (hb : ∀ j, keep.getD j 0 < 256)
    (hna : 0 < keep.length → ∀ x, a = some x → x.block < B) :
    Calls Try.prog 16 #[.pointer (some ⟨p, 0, none⟩), .slice a keep.length cap] w fun e w' => e = .returned (.tuple #[]) ∧ Mine w' B p (D.crash keep) ∧ Below B w w' :=
  (crash_any h.1 hl keep a cap hI hlen hb (fun h0 x hx hB => by have := hna h0 x hx; omega)).mono fun _ _ ⟨he, hd, ho⟩ => ⟨he, ⟨hd, Nat.le_trans h.2 ho.size⟩, turned ho h.2⟩
/-- a crash by a list that was made behind the drive -/
theorem crash_mine_own {wr w : World} {B p : Nat} {D : Dr} (h : Mine wr B p D) (hw : Below wr.heap.size wr w) (hl : ∀ i, (D.writes i).length ≤ 1000000) (keep : List Nat) (a : Option Addr) (cap : Nat) (hI : RowI .u8 w a keep.length (fun j => ((keep.getD j 0 : Nat) : Int))) (hlen : keep.length ≤ maxLen) (hb : ∀ j, keep.getD j 0 < 256)
    (hna : ∀ x, a = some x → wr.heap.size ≤ x.block) :
    Calls Try.prog 16 #[.pointer (some ⟨p, 0, none⟩), .slice a keep.length cap] w fun e w' => e = .returned (.tuple #[]) ∧ Mine w' B p (D.crash keep) ∧ Below B w w' :=
  (crash_any (h.1.tight.below hw) hl keep a cap hI hlen hb (fun _ x hx hB => by have := hna x hx; omega)).mono fun _ _ ⟨he, hd, ho⟩ => ⟨he, ⟨hd.mono fun _ hk => hk.1, Nat.le_trans h.2 (Nat.le_trans hw.size ho.size)⟩, turned (ho.mono fun _ hk => hk.1) (Nat.le_trans h.2 hw.size)⟩
end Go.Proofs.Ytgkhnfchohcjeaa
