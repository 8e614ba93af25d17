/- Plans, plainly: roles as a number's bits, as the program keeps them. -/
import Derived.Lib.TrailingZeros
import Derived.Test.YtlkbdhejfmljlaaDoorPlMath
namespace Go.Proofs.YtlkbdhejfmljlaaDoor
namespace Rs

/-- the roles that a number's bits are, rising; and how many -/
def ints (x : Nat) : List Int := ((List.range 10).filter x.testBit).map fun i => ((i : Nat) : Int)
def cnt (x : Nat) : Nat := (ints x).length
/-- the one's roles without the other's -/
def diff (x y : Nat) : Nat := x &&& (2 ^ 64 - (y + 1))
/-- those are the roles -/
structure Is (x : Nat) (p : Nat → Bool) : Prop where
  lt : x < 1024
  has : ∀ i, i < 10 → x.testBit i = p i
theorem high {x i : Nat} (h : x < 1024) (hi : 10 ≤ i) : x.testBit i = false :=
  Nat.testBit_lt_two_pow (Nat.lt_of_lt_of_le h (by have := Nat.pow_le_pow_right (n := 2) (by decide) hi; omega))
variable {x y : Nat} {p q : Nat → Bool}
theorem Is.eq_iff (hx : Is x p) (hy : Is y q) : x = y ↔ ∀ i, i < 10 → p i = q i := by
  constructor
  · rintro rfl i hi
    rw [← hx.has i hi, ← hy.has i hi]
  · intro h
    apply Nat.eq_of_testBit_eq
    intro i
    by_cases hi : i < 10
    · rw [hx.has i hi, hy.has i hi, h i hi]
    · rw [high hx.lt (by omega), high hy.lt (by omega)]
theorem Is.as (hx : Is x p) (h : ∀ i, i < 10 → p i = q i) : Is x q := ⟨hx.lt, fun i hi => (hx.has i hi).trans (h i hi)⟩
theorem Is.zero : Is 0 (fun _ => false) := ⟨by decide, fun i _ => Nat.zero_testBit i⟩
theorem Is.or (hx : Is x p) (hy : Is y q) : Is (x ||| y) (fun i => p i || q i) :=
  ⟨Nat.or_lt_two_pow (n := 10) hx.lt hy.lt, fun i hi => by rw [Nat.testBit_or, hx.has i hi, hy.has i hi]⟩
theorem Is.and (hx : Is x p) (hy : Is y q) : Is (x &&& y) (fun i => p i && q i) :=
  ⟨Nat.lt_of_le_of_lt Nat.and_le_left hx.lt, fun i hi => by rw [Nat.testBit_and, hx.has i hi, hy.has i hi]⟩
theorem Is.diff (hx : Is x p) (hy : Is y q) : Is (Rs.diff x y) (fun i => p i && !q i) := by
  have h := hy.lt
  refine ⟨Nat.lt_of_le_of_lt Nat.and_le_left hx.lt, fun i hi => ?_⟩
  unfold Rs.diff
  rw [Nat.testBit_and, Nat.testBit_two_pow_sub_succ (by omega), hx.has i hi, hy.has i hi, decide_eq_true (show i < 64 by omega), Bool.true_and]
theorem Is.one {k : Nat} (hk : k < 10) : Is (2 ^ k) (fun i => decide (i = k)) := by
  refine ⟨Nat.lt_of_lt_of_le (Nat.pow_lt_pow_right (n := 10) (by decide) hk) (by decide), fun i _ => ?_⟩
  rw [Nat.testBit_two_pow]
  by_cases h : i = k
  · rw [decide_eq_true h, decide_eq_true h.symm]
  · rw [decide_eq_false h, decide_eq_false (fun e => h e.symm)]
theorem Is.first {N : Nat} (hN : N ≤ 10) : Is (2 ^ N - 1) (fun i => decide (i < N)) := by
  have h1 : 2 ^ N ≤ 1024 := Nat.le_trans (Nat.pow_le_pow_right (by decide) hN) (by decide)
  have h2 := Nat.two_pow_pos N
  exact ⟨by omega, fun i _ => Nat.testBit_two_pow_sub_one N i⟩
theorem filter_same (h : ∀ i, i < 10 → p i = q i) : (List.range 10).filter p = (List.range 10).filter q :=
  List.filter_congr fun i hi => h i (List.mem_range.1 hi)
theorem filter_upto {M : Nat} (hM : M ≤ 10) (h : ∀ i, M ≤ i → p i = false) : (List.range 10).filter p = (List.range M).filter p := by
  obtain ⟨d, hd⟩ : ∃ d, 10 = M + d := ⟨10 - M, by omega⟩
  rw [hd, List.range_add, List.filter_append]
  have : (List.map (fun i => M + i) (List.range d)).filter p = [] := by
    rw [List.filter_eq_nil_iff]
    intro a ha
    obtain ⟨b, _, rfl⟩ := List.mem_map.1 ha
    rw [h _ (by omega)]; decide
  rw [this, List.append_nil]
theorem Is.ints (hx : Is x p) {M : Nat} (hM : M ≤ 10) (hq : ∀ i, i < 10 → p i = q i) (h : ∀ i, M ≤ i → q i = false) : Rs.ints x = ((List.range M).filter q).map fun i => ((i : Nat) : Int) := by
  unfold Rs.ints
  rw [filter_same (fun i hi => (hx.has i hi).trans (hq i hi)), filter_upto hM h]
/-! ### by trying all -/
theorem step_all : ∀ x : Fin 1024, x.val ≠ 0 → ints x.val = ((Lib.ctz 64 x.val : Nat) : Int) :: ints (x.val &&& (x.val - 1)) := by decide +kernel
theorem step {x : Nat} (h : x < 1024) (h0 : x ≠ 0) : ints x = ((Lib.ctz 64 x : Nat) : Int) :: ints (x &&& (x - 1)) := step_all ⟨x, h⟩ h0
theorem ints_zero : ints 0 = [] := by decide +kernel
theorem cnt_all : ∀ x : Fin 1024, ∀ k : Fin 10, x.val.testBit k.val = false → cnt (x.val ||| 2 ^ k.val) = cnt x.val + 1 := by decide +kernel
theorem cnt_one {x k : Nat} (h : x < 1024) (hk : k < 10) (h0 : x.testBit k = false) : cnt (x ||| 2 ^ k) = cnt x + 1 := cnt_all ⟨x, h⟩ ⟨k, hk⟩ h0
theorem cnt_zero : cnt 0 = 0 := by decide +kernel
theorem cnt_le (x : Nat) : cnt x ≤ 10 := by
  unfold cnt ints
  rw [List.length_map]
  have := List.length_filter_le x.testBit (List.range 10)
  rwa [List.length_range] at this
theorem less {x : Nat} (h0 : x ≠ 0) : x &&& (x - 1) < x := Nat.lt_of_le_of_lt Nat.and_le_right (by omega)
end Rs
end Go.Proofs.YtlkbdhejfmljlaaDoor
