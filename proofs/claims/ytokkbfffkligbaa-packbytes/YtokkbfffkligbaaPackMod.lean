/- Widths that are made of bytes, and numbers that are made to fit them. -/
import Derived.Test.YtokkbfffkligbaaRef03Dec
namespace Go.Proofs.Ytokkbfffkligbaa
open Go.RowKit
namespace Pk
/-- the width that a byte stands for -/
def wOf (c : Nat) : Nat := c % 8 + 1
theorem wOf_le (c : Nat) : 1 ≤ wOf c ∧ wOf c ≤ 8 := by unfold wOf; omega
/-- the first k widths -/
def wsOf (bs : List Nat) (k : Nat) : List Int := (List.range k).map fun i => ((wOf (bs.getD i 0) : Nat) : Int)
/-- the first k numbers -/
def xsOf (l bs : List Nat) (k : Nat) : List Nat := (List.range k).map fun i => l.getD i 0 % 256 ^ wOf (bs.getD i 0)
theorem wsOf_length (bs : List Nat) (k : Nat) : (wsOf bs k).length = k := by simp [wsOf]
theorem xsOf_length (l bs : List Nat) (k : Nat) : (xsOf l bs k).length = k := by simp [xsOf]
theorem wsOf_succ (bs : List Nat) (k : Nat) : wsOf bs (k + 1) = wsOf bs k ++ [((wOf (bs.getD k 0) : Nat) : Int)] := by simp [wsOf, List.range_succ]
theorem xsOf_succ (l bs : List Nat) (k : Nat) : xsOf l bs (k + 1) = xsOf l bs k ++ [l.getD k 0 % 256 ^ wOf (bs.getD k 0)] := by simp [xsOf, List.range_succ]
theorem wsOf_at (bs : List Nat) {k j : Nat} (h : j < k) : (wsOf bs k).getD j 0 = ((wOf (bs.getD j 0) : Nat) : Int) := by simp [wsOf, h]
theorem xsOf_at (l bs : List Nat) {k j : Nat} (h : j < k) : (xsOf l bs k).getD j 0 = l.getD j 0 % 256 ^ wOf (bs.getD j 0) := by simp [xsOf, h]
theorem wsOf_wd (bs : List Nat) {k j : Nat} (h : j < k) : wd (wsOf bs k) j = wOf (bs.getD j 0) := by unfold wd; rw [wsOf_at bs h]; rfl
theorem wsOf_ok (bs : List Nat) {k : Nat} (h : k ≤ 64) : okW (wsOf bs k) = true := okW_of (by rw [wsOf_length]; exact h) fun j hj => by
  rw [wsOf_length] at hj
  rw [wsOf_at bs hj]
  have := wOf_le (bs.getD j 0)
  omega
theorem xsOf_fit (l bs : List Nat) (k : Nat) : fitAll (xsOf l bs k) (wsOf bs k) = true := (fitAll_iff _ _).2 fun j hj => by
  rw [wsOf_length] at hj
  rw [wsOf_at bs hj, xsOf_at l bs hj, fits_iff]
  have := wOf_le (bs.getD j 0)
  exact ⟨⟨by omega, by omega⟩, Nat.mod_lt _ (Nat.pow_pos (by decide))⟩
theorem xsOf_lt (l bs : List Nat) (k j : Nat) : (xsOf l bs k).getD j 0 < 18446744073709551616 := by
  by_cases h : j < k
  · rw [xsOf_at l bs h]
    exact Nat.lt_of_lt_of_le (Nat.mod_lt _ (Nat.pow_pos (by decide))) (pow256_le (wOf_le _).2)
  · rw [List.getD_eq_getElem?_getD, List.getElem?_eq_none (by rw [xsOf_length]; omega)]; decide
/-- how many bytes stand ahead, whichever the last widths are -/
def sumOf (bs : List Nat) : Nat → Nat
  | 0 => 0
  | k + 1 => sumOf bs k + wOf (bs.getD k 0)
theorem sumOf_le (bs : List Nat) (k : Nat) : sumOf bs k ≤ 8 * k := by
  induction k with
  | zero => exact Nat.le_refl _
  | succ k ih => have := (wOf_le (bs.getD k 0)).2; show sumOf bs k + _ ≤ _; omega
theorem offs_sum (bs : List Nat) (n i : Nat) (h : i ≤ n) : offs (wsOf bs n) i = sumOf bs i := by
  induction i with
  | zero => rfl
  | succ i ih =>
    show offs (wsOf bs n) i + wd (wsOf bs n) i = sumOf bs i + wOf (bs.getD i 0)
    rw [ih (by omega), wsOf_wd bs (by omega)]
end Pk
end Go.Proofs.Ytokkbfffkligbaa
