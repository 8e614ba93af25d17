/- Several texts in one. The walks of layout's Rows, Find and Back. The walks of the document's own layout: Check, Size, Need, Rows, right, Parity, Column, Find, Back, Sector. -/
import Derived.Test.YtgkhnfchohcjeaaGreatMLayB
namespace Go.Proofs.YtgkhnfchohcjeaaGreat
open Go.RowKit

theorem results_tmp4 {fn : Func} {t u v x : Tmp} (h : fn.results = #[.tmp t, .tmp u, .tmp v, .tmp x]) (tmps : Array Value) (P : Program) (w : World) :
    (results fn tmps).run P w = .ok (.tuple #[tmps.getD t undef, tmps.getD u undef, tmps.getD v undef, tmps.getD x undef]) w := by
  simp [results, h]
theorem ret_iiii {a b c d a' b' c' d' : Int} (h1 : a = a') (h2 : b = b') (h3 : c = c') (h4 : d = d') :
    Ending.returned (.tuple #[.int .i64 a, .int .i64 b, .int .i64 c, .int .i64 d]) = .returned (.tuple #[.int .i64 a', .int .i64 b', .int .i64 c', .int .i64 d']) := by rw [h1, h2, h3, h4]

/-- an array has at most 8192 sectors -/
theorem Lay.size_le {c k r : Int} (h : Lay.ok c k r) : 0 ≤ r * (c - 2) * k ∧ r * (c - 2) * k ≤ 8192 := by
  obtain ⟨⟨c1, c2⟩, ⟨k1, k2⟩, r1, r2⟩ := h
  have q1 : 0 ≤ r * (c - 2) := Int.mul_nonneg (by omega) (by omega)
  have q2 : r * (c - 2) ≤ 256 * 8 := Int.mul_le_mul (by omega) (by omega) (by omega) (by omega)
  have q3 : 0 ≤ r * (c - 2) * k := Int.mul_nonneg q1 (by omega)
  have q4 : r * (c - 2) * k ≤ 256 * 8 * 4 := Int.mul_le_mul q2 (by omega) (by omega) (by omega)
  omega

theorem wrap_id {x : Int} (h1 : -1000000 ≤ x) (h2 : x ≤ 1000000) : IntKind.i64.wrap x = x := by rw [IntKind.wrap_i64]; omega
end Go.Proofs.YtgkhnfchohcjeaaGreat

namespace Go.Proofs.YtgkhnfchohcjeaaGreat
open Go.RowKit

theorem one_start (w : World) (c k r : Int) (t : TypeId) : Shp w (w.alloc (.cells #[.int .i64 c, .int .i64 k, .int .i64 r] t)) w.heap.size c k r :=
  ⟨ShpAt.new w c k r t, (Below.refl _ _).alloc (Nat.le_refl _) _⟩

set_option maxRecDepth 100000 in
set_option maxHeartbeats 2000000 in
theorem rCheck_yes (c k r : Int) (h : Lay.ok c k r) (w : World) :
    Calls Tryz.prog 67 #[geoV c k r] w fun e w' => e = .returned (.int .i64 0) ∧ Below w.heap.size w w' := by
  obtain ⟨⟨c1, c2⟩, ⟨k1, k2⟩, r1, r2⟩ := h
  unfold geoV at *
  go_enter Tryz.func67, Tryz.ntmps67
  go_wp2
  go_ret
  exact ⟨rfl, (Below.refl _ _).alloc (Nat.le_refl _) _⟩
set_option maxRecDepth 100000 in
set_option maxHeartbeats 2000000 in
theorem rCheck_no (c k r : Int) (h : ¬ Lay.ok c k r) (w : World) :
    Calls Tryz.prog 67 #[geoV c k r] w fun e w' => e = .returned (.int .i64 1) ∧ Below w.heap.size w w' := by
  unfold geoV at *
  by_cases c1 : c < 4
  · clear h
    go_enter Tryz.func67, Tryz.ntmps67
    go_wp2
    go_ret
    exact ⟨rfl, (Below.refl _ _).alloc (Nat.le_refl _) _⟩
  · by_cases c2 : 10 < c
    · clear h
      go_enter Tryz.func67, Tryz.ntmps67
      go_wp2
      go_ret
      exact ⟨rfl, (Below.refl _ _).alloc (Nat.le_refl _) _⟩
    · by_cases k1 : k < 1
      · clear h
        go_enter Tryz.func67, Tryz.ntmps67
        go_wp2
        go_ret
        exact ⟨rfl, (Below.refl _ _).alloc (Nat.le_refl _) _⟩
      · by_cases k2 : 4 < k
        · clear h
          go_enter Tryz.func67, Tryz.ntmps67
          go_wp2
          go_ret
          exact ⟨rfl, (Below.refl _ _).alloc (Nat.le_refl _) _⟩
        · by_cases r1 : r < 1
          · clear h
            go_enter Tryz.func67, Tryz.ntmps67
            go_wp2
            go_ret
            exact ⟨rfl, (Below.refl _ _).alloc (Nat.le_refl _) _⟩
          · have r2 : 256 < r := by
              apply Int.lt_of_not_ge
              intro x
              exact h ⟨⟨by omega, by omega⟩, ⟨by omega, by omega⟩, by omega, by omega⟩
            clear h
            go_enter Tryz.func67, Tryz.ntmps67
            go_wp2
            go_ret
            exact ⟨rfl, (Below.refl _ _).alloc (Nat.le_refl _) _⟩
theorem rCheck_any (c k r : Int) (w : World) :
    Calls Tryz.prog 67 #[geoV c k r] w fun e w' => e = .returned (.int .i64 (Lay.checkI c k r)) ∧ Below w.heap.size w w' := by
  by_cases h : Lay.ok c k r
  · rw [show Lay.checkI c k r = 0 from if_pos h]; exact rCheck_yes c k r h w
  · rw [show Lay.checkI c k r = 1 from if_neg h]; exact rCheck_no c k r h w

end Go.Proofs.YtgkhnfchohcjeaaGreat
