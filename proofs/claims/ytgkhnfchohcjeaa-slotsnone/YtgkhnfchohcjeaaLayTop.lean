/- The walks of layout's own functions. -/
import Derived.Test.YtgkhnfchohcjeaaLayMath
import Derived.Test.YtgkhnfchohcjeaaLaySect
namespace Go.Proofs.Ytgkhnfchohcjeaa
open Go.RowKit

theorem ret_ii {a b c d : Int} (h : a = b) (g : c = d) : Ending.returned (.tuple #[.int .i64 a, .int .i64 c]) = .returned (.tuple #[.int .i64 b, .int .i64 d]) := by rw [h, g]
/-- a shape's cells, and what lay below w's end is as it was -/
def Shp (w W : World) (b : Nat) (c k r : Int) : Prop := ShpAt W b c k r ∧ Below w.heap.size w W
/-- two blocks of one and the same three cells, freshly laid -/
theorem two_start (w : World) (c k r : Int) (t u : TypeId) :
    Shp w ((w.alloc (.cells #[.int .i64 c, .int .i64 k, .int .i64 r] t)).alloc (.cells #[.int .i64 c, .int .i64 k, .int .i64 r] u)) (w.heap.size + 1) c k r := by
  refine ⟨?_, ((Below.refl _ _).alloc (Nat.le_refl _) _).alloc (by simp) _⟩
  have := ShpAt.new (w.alloc (.cells #[.int .i64 c, .int .i64 k, .int .i64 r] t)) c k r u
  simpa using this
/-- what a call leaves of a shape -/
theorem Shp.kept {w W W' : World} {b : Nat} {c k r : Int} (h : Shp w W b c k r) (hb : Below W.heap.size W W') : Shp w W' b c k r :=
  ⟨h.1.below hb h.1.lt, below2 h.2 hb⟩

set_option maxRecDepth 100000 in
set_option maxHeartbeats 2000000 in
theorem Check_any (c k r : Int) (w : World) :
    Calls Try.prog 39 #[geoV c k r] w fun e w' => e = .returned (.int .i64 (Lay.checkI c k r)) ∧ Below w.heap.size w w' := by
  by_cases h : Lay.ok c k r
  · have hM := fun W => may_yes c k r h W
    have E : Hid (Lay.checkI c k r = 0) := if_pos h
    clear h
    unfold geoV at *
    go_enter Try.func39, Try.ntmps39
    go_wp2_with fail
    refine (hM _).mono ?_
    rintro e w1 ⟨rfl, b1⟩
    go_wp2
    go_ret
    exact ⟨ret_int E.out.symm, below2 ((Below.refl _ _).alloc (Nat.le_refl _) _) b1⟩
  · have hM := fun W => may_no c k r h W
    have E : Hid (Lay.checkI c k r = 1) := if_neg h
    clear h
    unfold geoV at *
    go_enter Try.func39, Try.ntmps39
    go_wp2_with fail
    refine (hM _).mono ?_
    rintro e w1 ⟨rfl, b1⟩
    go_wp2
    go_ret
    exact ⟨ret_int E.out.symm, below2 ((Below.refl _ _).alloc (Nat.le_refl _) _) b1⟩

end Go.Proofs.Ytgkhnfchohcjeaa
