/- Several texts in one. The walks of layout's Rows, Find and Back. The walks of the document's own layout: Check, Size, Need, Rows, right, Parity, Column, Find, Back, Sector. -/
import Derived.Test.YtdgkhjgnjfgnlaaGreatMLayB
namespace Go.Proofs.YtdgkhjgnjfgnlaaGreat
open Go.RowKit

/-- an array has at most 8192 sectors -/
theorem Lay.size_le {c k r : Int} (h : Lay.ok c k r) : 0 ≤ r * (c - 2) * k ∧ r * (c - 2) * k ≤ 8192 := by
  obtain ⟨⟨c1, c2⟩, ⟨k1, k2⟩, r1, r2⟩ := h
  have q1 : 0 ≤ r * (c - 2) := Int.mul_nonneg (by omega) (by omega)
  have q2 : r * (c - 2) ≤ 256 * 8 := Int.mul_le_mul (by omega) (by omega) (by omega) (by omega)
  have q3 : 0 ≤ r * (c - 2) * k := Int.mul_nonneg q1 (by omega)
  have q4 : r * (c - 2) * k ≤ 256 * 8 * 4 := Int.mul_le_mul q2 (by omega) (by omega) (by omega)
  omega

end Go.Proofs.YtdgkhjgnjfgnlaaGreat

namespace Go.Proofs.YtdgkhjgnjfgnlaaGreat
open Go.RowKit

end Go.Proofs.YtdgkhjgnjfgnlaaGreat
