/- Several texts in one. The walk of a shape's sector: which sector stands at a place. The walks of layout's own functions. -/
import Derived.Test.YtgkhnfchohcjeaaMLayA
import Derived.Laws.StructEq
import Derived.Laws.Cover2
namespace Go.Proofs.Ytgkhnfchohcjeaa
open Go.RowKit

/-- two blocks of three cells, under 'what lay below is as it was' -/
theorem det_shapes {P : Program} {f : FuncId} {args : Array Value} {v : Value} {wr W : World} {b b' B : Nat} {c k r x y z : Int} (hB : B ≤ wr.heap.size) (h : Calls P f args W fun e w' => e = .returned v ∧ Below W.heap.size W w')
    (hW : (W.cell? ⟨b, 0, none⟩ = some (.int .i64 c) ∧ W.cell? ⟨b, 1, none⟩ = some (.int .i64 k) ∧ W.cell? ⟨b, 2, none⟩ = some (.int .i64 r)) ∧ (W.cell? ⟨b', 0, none⟩ = some (.int .i64 x) ∧ W.cell? ⟨b', 1, none⟩ = some (.int .i64 y) ∧ W.cell? ⟨b', 2, none⟩ = some (.int .i64 z)) ∧ Below B wr W) :
    Calls P f args W fun e w' => e = .returned v ∧ (w'.cell? ⟨b, 0, none⟩ = some (.int .i64 c) ∧ w'.cell? ⟨b, 1, none⟩ = some (.int .i64 k) ∧ w'.cell? ⟨b, 2, none⟩ = some (.int .i64 r)) ∧ (w'.cell? ⟨b', 0, none⟩ = some (.int .i64 x) ∧ w'.cell? ⟨b', 1, none⟩ = some (.int .i64 y) ∧ w'.cell? ⟨b', 2, none⟩ = some (.int .i64 z)) ∧ Below B wr w' :=
  h.mono fun _ _ ⟨e, hb⟩ => ⟨e, ShpAt.below (show ShpAt W b c k r from hW.1) hb (ShpAt.lt (show ShpAt W b c k r from hW.1)), ShpAt.below (show ShpAt W b' x y z from hW.2.1) hb (ShpAt.lt (show ShpAt W b' x y z from hW.2.1)), hW.2.2.trans (hb.mono (Nat.le_trans hB hW.2.2.size))⟩
theorem det_still {P : Program} {f : FuncId} {args : Array Value} {v : Value} {W : World} {S : World → Prop} (h : Calls P f args W fun e w' => e = .returned v ∧ w' = W) (hW : S W) :
    Calls P f args W fun e w' => e = .returned v ∧ S w' := h.mono fun _ _ ⟨e, hb⟩ => ⟨e, by rw [hb]; exact hW⟩
end Go.Proofs.Ytgkhnfchohcjeaa

namespace Go.Proofs.Ytgkhnfchohcjeaa
open Go.RowKit

theorem ret_ii {a b c d : Int} (h : a = b) (g : c = d) : Ending.returned (.tuple #[.int .i64 a, .int .i64 c]) = .returned (.tuple #[.int .i64 b, .int .i64 d]) := by rw [h, g]
/-- a shape's cells, and what lay below w's end is as it was -/
def Shp (w W : World) (b : Nat) (c k r : Int) : Prop := ShpAt W b c k r ∧ Below w.heap.size w W
/-- two blocks of one and the same three cells, freshly laid -/
theorem two_start (w : World) (c k r : Int) (t u : TypeId) :
    Shp w ((w.alloc (.cells #[.int .i64 c, .int .i64 k, .int .i64 r] t)).alloc (.cells #[.int .i64 c, .int .i64 k, .int .i64 r] u)) (w.heap.size + 1) c k r := by
  refine ⟨?_, ((Below.refl _ _).alloc (Nat.le_refl _) _).alloc (by simp) _⟩
  have := ShpAt.new (w.alloc (.cells #[.int .i64 c, .int .i64 k, .int .i64 r] t)) c k r u
  simpa using this
/-- what a call leaves of a shape -/
theorem Shp.kept {w W W' : World} {b : Nat} {c k r : Int} (h : Shp w W b c k r) (hb : Below W.heap.size W W') : Shp w W' b c k r :=
  ⟨h.1.below hb h.1.lt, below2 h.2 hb⟩

set_option maxRecDepth 100000 in
set_option maxHeartbeats 2000000 in
theorem Check_any (c k r : Int) (w : World) :
    Calls Try.prog 39 #[geoV c k r] w fun e w' => e = .returned (.int .i64 (Lay.checkI c k r)) ∧ Below w.heap.size w w' := by
  by_cases h : Lay.ok c k r
  · have hM := fun W => may_yes c k r h W
    have E : Hid (Lay.checkI c k r = 0) := if_pos h
    clear h
    unfold geoV at *
    go_enter Try.func39, Try.ntmps39
    go_wp2_with fail
    refine (hM _).mono ?_
    rintro e w1 ⟨rfl, b1⟩
    go_wp2
    go_ret
    exact ⟨ret_int E.out.symm, below2 ((Below.refl _ _).alloc (Nat.le_refl _) _) b1⟩
  · have hM := fun W => may_no c k r h W
    have E : Hid (Lay.checkI c k r = 1) := if_neg h
    clear h
    unfold geoV at *
    go_enter Try.func39, Try.ntmps39
    go_wp2_with fail
    refine (hM _).mono ?_
    rintro e w1 ⟨rfl, b1⟩
    go_wp2
    go_ret
    exact ⟨ret_int E.out.symm, below2 ((Below.refl _ _).alloc (Nat.le_refl _) _) b1⟩

end Go.Proofs.Ytgkhnfchohcjeaa
