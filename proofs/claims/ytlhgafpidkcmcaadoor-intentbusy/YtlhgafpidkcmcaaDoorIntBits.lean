/- Plain: which bits of a number are 1, the lowest one first, as the program goes through them. -/
import Derived.Lib.TrailingZeros
import Derived.Test.YtlhgafpidkcmcaaDoorRows
namespace Go.Proofs.YtlhgafpidkcmcaaDoor

namespace In
/-- the number without its lowest bit is smaller -/
theorem less (x : Nat) (h : ¬ x = 0) : x &&& (x - 1) < x := Nat.lt_of_le_of_lt Nat.and_le_right (by omega)
/-- the places of a number's bits, rising -/
def bits (x : Nat) : List Nat := if h : x = 0 then [] else Lib.ctz 64 x :: bits (x &&& (x - 1))
termination_by x
decreasing_by exact less x h
theorem bits_zero : bits 0 = [] := by rw [bits]; rfl
theorem bits_pos {x : Nat} (h : x ≠ 0) : bits x = Lib.ctz 64 x :: bits (x &&& (x - 1)) := by
  rw [bits, dif_neg h]
theorem and_pred (k m : Nat) : (2 ^ k * (2 * m + 1)) &&& (2 ^ k * (2 * m + 1) - 1) = 2 ^ (k + 1) * m := by
  have h1 := Nat.two_pow_pos k
  have e1 : 2 ^ k * (2 * m + 1) - 1 = 2 ^ k * (2 * m) + (2 ^ k - 1) := by
    rw [Nat.mul_add, Nat.mul_one]; omega
  have e2 : 2 ^ (k + 1) * m = 2 ^ k * (2 * m) + 0 := by rw [Nat.pow_succ, Nat.mul_assoc, Nat.add_zero]
  have e3 : 2 ^ k * (2 * m + 1) = 2 ^ k * (2 * m + 1) + 0 := rfl
  rw [e1, e2]
  apply Nat.eq_of_testBit_eq
  intro i
  rw [Nat.testBit_and, e3, Nat.testBit_two_pow_mul_add _ (by omega), Nat.testBit_two_pow_mul_add _ (by omega), Nat.testBit_two_pow_mul_add _ (by omega)]
  by_cases hik : i < k
  · simp [hik]
  · simp only [hik, if_false]
    cases hj : i - k with
    | zero => simp [Nat.testBit_zero]
    | succ j =>
      rw [Nat.testBit_succ, Nat.testBit_succ, show (2 * m + 1) / 2 = m by omega, show 2 * m / 2 = m by omega, Bool.and_self]
theorem bits_len : ∀ (f c m : Nat), f + c = 64 → 2 ^ c * m < 2 ^ 64 → (bits (2 ^ c * m)).length ≤ f := by
  intro f
  induction f with
  | zero =>
    intro c m hc h
    have hc' : c = 64 := by omega
    subst hc'
    have : m = 0 := by
      rcases Nat.eq_zero_or_pos m with e | e
      · exact e
      · have := Nat.mul_le_mul_left (2 ^ 64) e; omega
    subst this
    rw [Nat.mul_zero, bits_zero]; exact Nat.le_refl _
  | succ f ih =>
    intro c m hc h
    by_cases hm : m % 2 = 0
    · have e : 2 ^ c * m = 2 ^ (c + 1) * (m / 2) := by
        rw [Nat.pow_succ, Nat.mul_assoc]; congr 1; omega
      rw [e] at h ⊢
      exact Nat.le_succ_of_le (ih (c + 1) (m / 2) (by omega) h)
    · have e : 2 ^ c * m = 2 ^ c * (2 * (m / 2) + 1) := by congr 1; omega
      rw [e] at h ⊢
      have h0 : 2 ^ c * (2 * (m / 2) + 1) ≠ 0 := Nat.mul_ne_zero (Nat.pos_iff_ne_zero.1 (Nat.two_pow_pos c)) (by omega)
      rw [bits_pos h0, and_pred, List.length_cons]
      refine Nat.succ_le_succ (ih (c + 1) (m / 2) (by omega) (Nat.lt_of_le_of_lt ?_ h))
      rw [Nat.pow_succ, Nat.mul_assoc]
      exact Nat.mul_le_mul_left _ (by omega)
theorem bits_le (d : Nat) (h : d < 18446744073709551616) : (bits d).length ≤ 64 := by
  have := bits_len 64 0 d rfl (by rw [Nat.pow_zero, Nat.one_mul]; exact h)
  rwa [Nat.pow_zero, Nat.one_mul] at this
theorem bits_two : bits 2 = [1] := by
  rw [bits_pos (by decide), show (2 &&& (2 - 1) : Nat) = 0 by decide, bits_zero, show Lib.ctz 64 2 = 1 by decide +kernel]
/-- .. as ints -/
def ints (d : Nat) : List Int := (bits d).map fun (k : Nat) => (k : Int)
theorem ints_length (d : Nat) : (ints d).length = (bits d).length := by simp [ints]
/-- ints as a slice's cells -/
def iVals (l : List Int) : List Value := l.map (Value.int .i64)
theorem iVals_snoc (l : List Int) (x : Int) : iVals l ++ [.int .i64 x] = iVals (l ++ [x]) := by simp [iVals]
theorem iVals_length (l : List Int) : (iVals l).length = l.length := by simp [iVals]
end In
end Go.Proofs.YtlhgafpidkcmcaaDoor
