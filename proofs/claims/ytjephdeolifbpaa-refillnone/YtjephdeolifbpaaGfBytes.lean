/- Bytes added, and multiplied, in plain lists. Nothing of the program stands here. -/
import Derived.Test.YtjephdeolifbpaaGfMath
namespace Go.Proofs.Ytjephdeolifbpaa.Gfm
/-- byte by byte, of the longer one -/
def xorL : List UInt8 → List UInt8 → List UInt8
  | [], b => b
  | a, [] => a
  | x :: a, y :: b => (x ^^^ y) :: xorL a b
theorem xorL_nil (a : List UInt8) : xorL a [] = a := by cases a <;> rfl
theorem nil_xorL (b : List UInt8) : xorL [] b = b := rfl
theorem xorL_cons (x y : UInt8) (a b : List UInt8) : xorL (x :: a) (y :: b) = (x ^^^ y) :: xorL a b := rfl
theorem xorL_comm (a b : List UInt8) : xorL a b = xorL b a := by
  induction a generalizing b with
  | nil => rw [nil_xorL, xorL_nil]
  | cons x a ih =>
    cases b with
    | nil => rfl
    | cons y b => rw [xorL_cons, xorL_cons, ih, UInt8.xor_comm]
theorem xorL_length (a b : List UInt8) : (xorL a b).length = max a.length b.length := by
  induction a generalizing b with
  | nil => rw [nil_xorL]; simp
  | cons x a ih =>
    cases b with
    | nil => rw [xorL_nil]; simp
    | cons y b => rw [xorL_cons]; simp only [List.length_cons, ih]; omega
/-- what stands at place j: what a list lacks are bytes 0 -/
theorem xorL_getD (a b : List UInt8) (j : Nat) : (xorL a b).getD j 0 = a.getD j 0 ^^^ b.getD j 0 := by
  induction a generalizing b j with
  | nil => rw [nil_xorL]; simp
  | cons x a ih =>
    cases b with
    | nil => rw [xorL_nil]; simp
    | cons y b =>
      rw [xorL_cons]
      cases j with
      | zero => rfl
      | succ j => simpa using ih b j
def xorB (a b : ByteArray) : ByteArray := ⟨(xorL a.data.toList b.data.toList).toArray⟩
theorem xorB_size (a b : ByteArray) : (xorB a b).size = max a.size b.size := by
  show (xorL _ _).toArray.size = _
  rw [List.size_toArray, xorL_length]; simp
/-- two lists of one length are one if they are so place by place -/
theorem list_ext {a b : List UInt8} (h : a.length = b.length) (hj : ∀ j, j < a.length → a.getD j 0 = b.getD j 0) : a = b := by
  apply List.ext_getElem h
  intro i h1 h2
  have := hj i h1
  rw [List.getD_eq_getElem?_getD, List.getD_eq_getElem?_getD, List.getElem?_eq_getElem h1, List.getElem?_eq_getElem h2] at this
  exact this
/-- one place more -/
theorem xorL_step (a b : List UInt8) (k : Nat) (hb : k < b.length) (ha : b.length ≤ a.length) :
    (xorL a (b.take k)).set k (a.getD k 0 ^^^ b.getD k 0) = xorL a (b.take (k + 1)) := by
  apply list_ext
  · rw [List.length_set, xorL_length, xorL_length]; simp; omega
  · intro j hj
    rw [List.length_set, xorL_length] at hj
    have hj : j < a.length := by simp at hj; omega
    by_cases e : j = k
    · subst e
      rw [xorL_getD, List.getD_eq_getElem?_getD, List.getElem?_set]
      have hl : (xorL a (b.take j)).length = a.length := by rw [xorL_length]; simp; omega
      simp [hl]
      rw [if_pos (by omega)]; rfl
    · rw [xorL_getD, List.getD_eq_getElem?_getD, List.getElem?_set, if_neg (Ne.symm e), ← List.getD_eq_getElem?_getD, xorL_getD]
      congr 1
      rw [List.getD_eq_getElem?_getD, List.getD_eq_getElem?_getD, List.getElem?_take, List.getElem?_take]
      by_cases h : j < k
      · rw [if_pos h, if_pos (by omega)]
      · rw [if_neg h, if_neg (by omega)]
theorem xorL_at (a b : List UInt8) (k : Nat) : (xorL a (b.take k)).getD k 0 = a.getD k 0 := by
  rw [xorL_getD, List.getD_eq_getElem?_getD (l := b.take k), List.getElem?_take, if_neg (by omega)]
  simp
/-- times a number -/
def mulU (x : UInt8) (n : Nat) : UInt8 := UInt8.ofNat (mul x.toNat n)
theorem mulU_toNat (x : UInt8) (n : Nat) : (mulU x n).toNat = mul x.toNat n := by
  have h : mul x.toNat n < 256 := mul_lt x.toNat_lt
  unfold mulU
  rw [UInt8.toNat_ofNat']; omega
def timesL (a : List UInt8) (n : Nat) : List UInt8 := a.map fun x => mulU x n
def timesB (a : ByteArray) (n : Nat) : ByteArray := ⟨(timesL a.data.toList n).toArray⟩
theorem timesB_size (a : ByteArray) (n : Nat) : (timesB a n).size = a.size := by
  show (timesL _ _).toArray.size = _
  rw [List.size_toArray]; unfold timesL; simp
end Go.Proofs.Ytjephdeolifbpaa.Gfm
