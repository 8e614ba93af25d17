/- Plans: that one column is modified. -/
import Derived.Test.YtlkbdhejfmljlaaDoorPlSays
import Derived.Test.YtlkbdhejfmljlaaDoorKitSame
namespace Go.Proofs.YtlkbdhejfmljlaaDoor
open Go.RowKit
attribute [local go_sem] Oper.semAt_some

def one15 (j : Nat) : Bool := decide (j = 0)
theorem one15_row (w : World) : RowB (w.alloc (.cells #[.bool true, .bool false, .bool false, .bool false] 4)) (some ⟨w.heap.size, 0, none⟩) 4 one15 := fun j hj => by
  refine ⟨w.heap.size, 0, rfl, ?_⟩
  have : j = 0 ∨ j = 1 ∨ j = 2 ∨ j = 3 := by omega
  rcases this with rfl | rfl | rfl | rfl
  · exact World.cell?_alloc_mark w _ 4 (0, 0) 0
  · exact World.cell?_alloc_mark w _ 4 (0, 0) 1
  · exact World.cell?_alloc_mark w _ 4 (0, 0) 2
  · exact World.cell?_alloc_mark w _ 4 (0, 0) 3
theorem one15_goes : Pl.chooseW 4 4 one15 [] = 2 ∧ Pl.chooseR 4 4 one15 [] = [0, 4, 5] ∧ Pl.chooseE 4 4 [] = 0 := by decide

set_option maxRecDepth 100000 in
set_option maxHeartbeats 2000000 in
theorem shown15_any {w0 : World} (PS : PlanSays w0) (w : World) (hW : Below w0.heap.size w0 w) : Calls Tryd.prog 8 #[] w fun e w' => e = .returned (.bool true) ∧ Below w.heap.size w w' := by
  have B0 : Hid (Below w.heap.size w (w.alloc (.cells #[.bool true, .bool false, .bool false, .bool false] 4))) := (Below.refl _ w).alloc (Nat.le_refl _) _
  have hc := PS.choose _ (below2 hW B0.out) 4 _ 4 4 one15 ⟨by decide, by decide⟩ (by decide) (Nat.le_refl _) (one15_row w) none 0 [] (Nat.le_refl _) (by decide) (RowI.nil _ _ _ _)
  rw [List.length_nil] at hc
  have HC : Hid (Calls Tryd.prog 9 #[.int .i64 4, .slice (some ⟨w.heap.size, 0, none⟩) 4 4, .slice none 0 0] (w.alloc (.cells #[.bool true, .bool false, .bool false, .bool false] 4)) (ChooseSays (w.alloc (.cells #[.bool true, .bool false, .bool false, .bool false] 4)) 4 4 one15 [])) := hc
  clear hc
  go_enter Tryd.func8, Tryd.ntmps8
  go_wp2_with fail
  refine HC.out.mono ?_
  rintro e w1 ⟨⟨vr, vw, rfl, hr, hw⟩, hb⟩
  rw [one15_goes.1, one15_goes.2.2]
  rw [one15_goes.2.1] at hr
  obtain ⟨a, cap, rfl, hR⟩ := hr
  obtain ⟨a2, cap2, rfl, _⟩ := hw
  have B1 : Hid (Below w.heap.size w w1) := below2 B0.out hb
  have HR : Hid (RowI .i64 w1 a 3 (fun j => [(0 : Int), 4, 5].getD j 0)) := hR
  generalize (Pl.chooseP 4 4 one15 []).length = n2
  clear hR hb B0 HC
  simp only [List.length_cons, List.length_nil, Nat.zero_add]
  have hsz := B1.out.size
  have h2 := RowI.new .i64 (w1.alloc (.cells #[.int .i64 2, .slice a 3 cap, .slice a2 n2 cap2] 26)) [0, 4, 5] #[.int .i64 0, .int .i64 4, .int .i64 5] 3 rfl
  rw [World.size_alloc] at h2
  have HR2 : Hid (RowI .i64 ((w1.alloc (.cells #[.int .i64 2, .slice a 3 cap, .slice a2 n2 cap2] 26)).alloc (.cells #[.int .i64 0, .int .i64 4, .int .i64 5] 3)) (some ⟨w1.heap.size + 1, 0, none⟩) 3 (fun j => [(0 : Int), 4, 5].getD j 0)) := h2
  have B2 : Hid (Below w1.heap.size w1 ((w1.alloc (.cells #[.int .i64 2, .slice a 3 cap, .slice a2 n2 cap2] 26)).alloc (.cells #[.int .i64 0, .int .i64 4, .int .i64 5] 3))) := ((Below.refl _ w1).alloc (Nat.le_refl _) _).alloc (by simp) _
  clear h2
  go_wp2_with fail
  refine (same_rows a (some ⟨w1.heap.size + 1, 0, none⟩) 3 cap 3 (fun j => [(0 : Int), 4, 5].getD j 0) (by decide) _ (HR.out.below B2.out) HR2.out).mono ?_
  rintro e w5 ⟨rfl, b5⟩
  have B5 : Hid (Below w.heap.size w w5) := below2 B1.out (below2 B2.out b5)
  clear b5
  go_wp2
  go_ret
  exact ⟨rfl, B5.out⟩
end Go.Proofs.YtlkbdhejfmljlaaDoor
