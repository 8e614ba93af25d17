/- A list of the call's own: all its blocks lie from B on. What the statements show first: that the one that was not wanted goes. -/
import Derived.Test.YtmmhfkohfijlaaaLrAny
import Derived.Test.YtmmhfkohfijlaaaKitSame
namespace Go.Proofs.Ytmmhfkohfijlaaa
open Go.RowKit Lr
attribute [local go_sem] Oper.semAt_some

namespace Lr
/-- a list whose blocks lie from B on -/
def Mine (w : World) (B p room : Nat) (l : L) : Prop := LruAt w p room l (fun k => B ≤ k) ∧ B ≤ w.heap.size
variable {w w' : World} {B p room : Nat} {l : L}
theorem Mine.below (h : Mine w B p room l) (hb : Below w.heap.size w w') : Mine w' B p room l := ⟨h.1.below hb, Nat.le_trans h.2 hb.size⟩
theorem Mine.le (h : Mine w B p room l) : B ≤ w.heap.size := h.2
theorem Mine.ok (h : Mine w B p room l) : LOk room l := h.1.ok
theorem turned {F : Nat → Prop} (h : Only F w w') (hF : ∀ k, F k → B ≤ k) (hB : B ≤ w.heap.size) : Below B w w' := h.below hF hB
theorem based {l' : L} (h : LruAt w' p room l' (Plus (fun k => B ≤ k) w.heap.size)) (hB : B ≤ w.heap.size) : LruAt w' p room l' (fun k => B ≤ k) := h.mono fun _ hk => hk.elim id (fun h1 => Nat.le_trans hB h1)
theorem ok_nat (n : Nat) (h : n ≤ 1000000) : Ok (n : Int) := ⟨by omega, by omega⟩
end Lr

theorem New_mine (r B : Nat) (h1 : 1 ≤ r) (h2 : r ≤ 64) (w : World) (hB : B ≤ w.heap.size) : Calls Try.prog 9 #[.int .i64 (r : Nat)] w fun e w' => ∃ p, e = .returned (.pointer (some ⟨p, 0, none⟩)) ∧ Lr.Mine w' B p r [] ∧ Below B w w' :=
  (New_lru r h1 h2 w).mono fun _ _ ⟨p, he, hl, hb⟩ => ⟨p, he, ⟨hl.mono fun _ hk => Nat.le_trans hB hk, Nat.le_trans hB hb.size⟩, hb.mono hB⟩
theorem Get_mine {w : World} {B p room : Nat} {l : L} (h : Lr.Mine w B p room l) {k : Int} (hk : Ok k) :
    Calls Try.prog 20 #[.pointer (some ⟨p, 0, none⟩), .int .i64 k] w fun r w' => r = .returned (.bool (Lr.has l k)) ∧ Lr.Mine w' B p room (Lr.get l k) ∧ Below B w w' :=
  (Get_any h.1 hk).mono fun _ _ ⟨he, hl, ho⟩ => ⟨he, ⟨Lr.based hl h.2, Nat.le_trans h.2 ho.size⟩, ho.below (fun _ h => h) h.2⟩
theorem Put_mine {w : World} {B p room : Nat} {l : L} (h : Lr.Mine w B p room l) {k : Int} (hk : Ok k) :
    Calls Try.prog 16 #[.pointer (some ⟨p, 0, none⟩), .int .i64 k] w fun r w' => r = .returned (.tuple #[.int .i64 (putG room l k), .bool (putW room l k), .int .i64 (putE room l k : Nat)]) ∧ Lr.Mine w' B p room (put room l k) ∧ Below B w w' :=
  (Put_any h.1 hk).mono fun _ _ ⟨he, hl, ho⟩ => ⟨he, ⟨Lr.based hl h.2, Nat.le_trans h.2 ho.size⟩, ho.below (fun _ h => h) h.2⟩
theorem Pin_mine {w : World} {B p room : Nat} {l : L} (h : Lr.Mine w B p room l) {k : Int} (hk : Ok k) (hn : pins l k < 1000000000) :
    Calls Try.prog 17 #[.pointer (some ⟨p, 0, none⟩), .int .i64 k] w fun r w' => r = .returned (.int .i64 (pinE l k : Nat)) ∧ Lr.Mine w' B p room (pin l k) ∧ Below B w w' :=
  (Pin_any h.1 hk hn).mono fun _ _ ⟨he, hl, ho⟩ => ⟨he, ⟨hl, Nat.le_trans h.2 ho.size⟩, ho.below (fun _ h => h) h.2⟩
theorem Unpin_mine {w : World} {B p room : Nat} {l : L} (h : Lr.Mine w B p room l) {k : Int} (hk : Ok k) (hn : pins l k < 4000000000) :
    Calls Try.prog 19 #[.pointer (some ⟨p, 0, none⟩), .int .i64 k] w fun r w' => r = .returned (.int .i64 (unpinE l k : Nat)) ∧ Lr.Mine w' B p room (unpin l k) ∧ Below B w w' :=
  (Unpin_any h.1 hk hn).mono fun _ _ ⟨he, hl, ho⟩ => ⟨he, ⟨hl, Nat.le_trans h.2 ho.size⟩, ho.below (fun _ h => h) h.2⟩
theorem Drop_mine {w : World} {B p room : Nat} {l : L} (h : Lr.Mine w B p room l) {k : Int} (hk : Ok k) :
    Calls Try.prog 18 #[.pointer (some ⟨p, 0, none⟩), .int .i64 k] w fun r w' => r = .returned (.int .i64 (dropE l k : Nat)) ∧ Lr.Mine w' B p room (drop l k) ∧ Below B w w' :=
  (Drop_any h.1 hk).mono fun _ _ ⟨he, hl, ho⟩ => ⟨he, ⟨hl, Nat.le_trans h.2 ho.size⟩, ho.below (fun _ h => h) h.2⟩
theorem Pinned_mine {w : World} {B p room : Nat} {l : L} (h : Lr.Mine w B p room l) {k : Int} (hk : Ok k) :
    Calls Try.prog 14 #[.pointer (some ⟨p, 0, none⟩), .int .i64 k] w fun r w' => r = .returned (.int .i64 (pins l k : Nat)) ∧ w' = w := Pinned_any h.1 hk
theorem Keys_mine {w : World} {B p room : Nat} {l : L} (h : Lr.Mine w B p room l) :
    Calls Try.prog 13 #[.pointer (some ⟨p, 0, none⟩)] w fun r w' => (∃ a cap, r = .returned (.slice a l.length cap) ∧ RowI .i64 w' a l.length (fun j => (keys l).getD j 0) ∧ ∀ x, a = some x → w.heap.size ≤ x.block) ∧ Lr.Mine w' B p room l ∧ Below w.heap.size w w' :=
  (Keys_all h.1).mono fun _ _ ⟨⟨v, he, ho⟩, hb⟩ => by
    obtain ⟨a, cap, rfl, hR, hx⟩ := RowI.of_owns (k := .i64) ho
    exact ⟨⟨a, cap, he, hR, hx⟩, h.below hb, hb⟩

set_option maxRecDepth 100000 in
set_option maxHeartbeats 2000000 in
theorem shown14_any (w : World) : Calls Try.prog 8 #[] w fun e w' => e = .returned (.bool true) ∧ Below w.heap.size w w' := by
  go_enter Try.func8, Try.ntmps8
  go_wp2_with fail
  refine (New_mine 1 w.heap.size (by decide) (by decide) w (Nat.le_refl _)).mono ?_
  rintro e w1 ⟨p, rfl, m1, b1⟩
  have M1 : Hid (Lr.Mine w1 w.heap.size p 1 []) := m1
  have B1 : Hid (Below w.heap.size w w1) := b1
  clear m1 b1
  go_wp2_with fail
  refine (Put_mine M1.out (k := 1) ⟨by decide, by decide⟩).mono ?_
  rw [show put 1 [] 1 = [(1, 0)] from rfl]
  rintro e w2 ⟨rfl, m2, b2⟩
  have M2 : Hid (Lr.Mine w2 w.heap.size p 1 [(1, 0)]) := m2
  have B2 : Hid (Below w.heap.size w w2) := B1.out.trans b2
  clear m2 b2
  go_wp2_with fail
  refine (Put_mine M2.out (k := 2) ⟨by decide, by decide⟩).mono ?_
  rw [show put 1 [(1, 0)] 2 = [(2, 0)] from rfl, show putG 1 [(1, 0)] 2 = 1 from rfl, show putW 1 [(1, 0)] 2 = true from rfl, show putE 1 [(1, 0)] 2 = 0 from rfl]
  rintro e w3 ⟨rfl, m3, b3⟩
  have M3 : Hid (Lr.Mine w3 w.heap.size p 1 [(2, 0)]) := m3
  have B3 : Hid (Below w.heap.size w w3) := B2.out.trans b3
  clear m3 b3
  go_wp2_with fail
  refine (Keys_mine M3.out).mono ?_
  rintro e w4 ⟨⟨a, cap, rfl, hR, _⟩, _, b4⟩
  have HR : Hid (RowI .i64 w4 a 1 (fun j => [(2 : Int)].getD j 0)) := hR
  have B4 : Hid (Below w.heap.size w w4) := B3.out.trans (b4.mono B3.out.size)
  clear hR b4
  simp only [List.length_cons, List.length_nil, Nat.zero_add]
  go_wp2_with fail
  refine (same_rows a _ 1 cap _ (fun j => [(2 : Int)].getD j 0) (by decide) _ (HR.out.below ((Below.refl _ w4).alloc (Nat.le_refl _) _)) (RowI.new .i64 w4 [2] _ _ rfl)).mono ?_
  rintro e w5 ⟨rfl, b5⟩
  have B5 : Hid (Below w.heap.size w w5) := (B4.out.trans ((Below.refl _ w4).alloc B4.out.size _)).trans (b5.mono (by have := B4.out.size; simp; omega))
  clear b5
  go_wp2
  go_ret
  exact ⟨rfl, B5.out⟩
end Go.Proofs.Ytmmhfkohfijlaaa
