/- The walks of layout's Rows, Find and Back. -/
import Derived.Test.YtinegeacpohlcaaLayTop
namespace Go.Proofs.Ytinegeacpohlcaa
open Go.RowKit

theorem results_tmp4 {fn : Func} {t u v x : Tmp} (h : fn.results = #[.tmp t, .tmp u, .tmp v, .tmp x]) (tmps : Array Value) (P : Program) (w : World) :
    (results fn tmps).run P w = .ok (.tuple #[tmps.getD t undef, tmps.getD u undef, tmps.getD v undef, tmps.getD x undef]) w := by
  simp [results, h]
theorem ret_iiii {a b c d a' b' c' d' : Int} (h1 : a = a') (h2 : b = b') (h3 : c = c') (h4 : d = d') :
    Ending.returned (.tuple #[.int .i64 a, .int .i64 b, .int .i64 c, .int .i64 d]) = .returned (.tuple #[.int .i64 a', .int .i64 b', .int .i64 c', .int .i64 d']) := by rw [h1, h2, h3, h4]

/-- an array has at most 8192 sectors -/
theorem Lay.size_le {c k r : Int} (h : Lay.ok c k r) : 0 ≤ r * (c - 2) * k ∧ r * (c - 2) * k ≤ 8192 := by
  obtain ⟨⟨c1, c2⟩, ⟨k1, k2⟩, r1, r2⟩ := h
  have q1 : 0 ≤ r * (c - 2) := Int.mul_nonneg (by omega) (by omega)
  have q2 : r * (c - 2) ≤ 256 * 8 := Int.mul_le_mul (by omega) (by omega) (by omega) (by omega)
  have q3 : 0 ≤ r * (c - 2) * k := Int.mul_nonneg q1 (by omega)
  have q4 : r * (c - 2) * k ≤ 256 * 8 * 4 := Int.mul_le_mul q2 (by omega) (by omega) (by omega)
  omega

theorem wrap_id {x : Int} (h1 : -1000000 ≤ x) (h2 : x ≤ 1000000) : IntKind.i64.wrap x = x := by rw [IntKind.wrap_i64]; omega
end Go.Proofs.Ytinegeacpohlcaa
