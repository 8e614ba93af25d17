/- What the statements of layout have in common: what they show, a geometry that may be. -/
import Derived.Test.YtfnafoahcllakaaRef07c
namespace Go.Proofs.Ytfnafoahcllakaa
open Go.RowKit

set_option maxRecDepth 100000 in
set_option maxHeartbeats 2000000 in
theorem shown7_any (w : World) : Calls Try.prog 29 #[] w fun e w' => e = .returned (.bool true) ∧ Below w.heap.size w w' := by
  have ho : Lay.ok 4 1 5 := by unfold Lay.ok; omega
  have hh : Lay.hasRow 4 1 5 0 := ⟨ho, by omega, by omega⟩
  have hP := fun W => Parity_any 4 1 5 0 W
  have hS := fun W => Size_any 4 1 5 W
  rw [show Lay.parP 4 1 5 0 = 3 from if_pos hh, show Lay.parQ 4 1 5 0 = 0 from if_pos hh] at hP
  rw [show Lay.sizeI 4 1 5 = 10 from if_pos ho] at hS
  clear ho hh
  unfold geoV at *
  go_enter Try.func29, Try.ntmps29
  go_wp2_with fail
  refine (hP _).mono ?_
  rintro e w1 ⟨rfl, b1⟩
  go_wp2_with fail
  refine (hS _).mono ?_
  rintro e w2 ⟨rfl, b2⟩
  go_wp2
  go_ret
  exact ⟨rfl, below2 b1 b2⟩
end Go.Proofs.Ytfnafoahcllakaa
