/- The walks of the document's own layout: Check, Size, Need, Rows, right, Parity, Column, Find, Back, Sector. -/
import Derived.Test.YtinegeacpohlcaaLayTop2
namespace Go.Proofs.Ytinegeacpohlcaa
open Go.RowKit

theorem one_start (w : World) (c k r : Int) (t : TypeId) : Shp w (w.alloc (.cells #[.int .i64 c, .int .i64 k, .int .i64 r] t)) w.heap.size c k r :=
  ⟨ShpAt.new w c k r t, (Below.refl _ _).alloc (Nat.le_refl _) _⟩

set_option maxRecDepth 100000 in
set_option maxHeartbeats 2000000 in
theorem rCheck_yes (c k r : Int) (h : Lay.ok c k r) (w : World) :
    Calls Try.prog 32 #[geoV c k r] w fun e w' => e = .returned (.int .i64 0) ∧ Below w.heap.size w w' := by
  obtain ⟨⟨c1, c2⟩, ⟨k1, k2⟩, r1, r2⟩ := h
  unfold geoV at *
  go_enter Try.func32, Try.ntmps32
  go_wp2
  go_ret
  exact ⟨rfl, (Below.refl _ _).alloc (Nat.le_refl _) _⟩
set_option maxRecDepth 100000 in
set_option maxHeartbeats 2000000 in
theorem rCheck_no (c k r : Int) (h : ¬ Lay.ok c k r) (w : World) :
    Calls Try.prog 32 #[geoV c k r] w fun e w' => e = .returned (.int .i64 1) ∧ Below w.heap.size w w' := by
  unfold geoV at *
  by_cases c1 : c < 4
  · clear h
    go_enter Try.func32, Try.ntmps32
    go_wp2
    go_ret
    exact ⟨rfl, (Below.refl _ _).alloc (Nat.le_refl _) _⟩
  · by_cases c2 : 10 < c
    · clear h
      go_enter Try.func32, Try.ntmps32
      go_wp2
      go_ret
      exact ⟨rfl, (Below.refl _ _).alloc (Nat.le_refl _) _⟩
    · by_cases k1 : k < 1
      · clear h
        go_enter Try.func32, Try.ntmps32
        go_wp2
        go_ret
        exact ⟨rfl, (Below.refl _ _).alloc (Nat.le_refl _) _⟩
      · by_cases k2 : 4 < k
        · clear h
          go_enter Try.func32, Try.ntmps32
          go_wp2
          go_ret
          exact ⟨rfl, (Below.refl _ _).alloc (Nat.le_refl _) _⟩
        · by_cases r1 : r < 1
          · clear h
            go_enter Try.func32, Try.ntmps32
            go_wp2
            go_ret
            exact ⟨rfl, (Below.refl _ _).alloc (Nat.le_refl _) _⟩
          · have r2 : 256 < r := by
              apply Int.lt_of_not_ge
              intro x
              exact h ⟨⟨by omega, by omega⟩, ⟨by omega, by omega⟩, by omega, by omega⟩
            clear h
            go_enter Try.func32, Try.ntmps32
            go_wp2
            go_ret
            exact ⟨rfl, (Below.refl _ _).alloc (Nat.le_refl _) _⟩
theorem rCheck_any (c k r : Int) (w : World) :
    Calls Try.prog 32 #[geoV c k r] w fun e w' => e = .returned (.int .i64 (Lay.checkI c k r)) ∧ Below w.heap.size w w' := by
  by_cases h : Lay.ok c k r
  · rw [show Lay.checkI c k r = 0 from if_pos h]; exact rCheck_yes c k r h w
  · rw [show Lay.checkI c k r = 1 from if_neg h]; exact rCheck_no c k r h w

end Go.Proofs.Ytinegeacpohlcaa
