/- Which places have been told: a row of bools. -/
import Derived.Test.YtjephdeolifbpaaRfMore
import Derived.Test.YtjephdeolifbpaaKitRound
namespace Go.Proofs.Ytjephdeolifbpaa
open Go.RowKit
namespace Rf
def seenV (M : Nat → Nat) (i N : Nat) : List Value := (List.range N).map fun j => Value.bool (decide (j ∈ plL M i))
theorem seenV_at (M : Nat → Nat) (i : Nat) {N j : Nat} (h : j < N) : (seenV M i N)[j]? = some (.bool (decide (j ∈ plL M i))) := by
  unfold seenV; simp [h]
theorem seenV_new {M : Nat → Nat} (i N : Nat) : (seenV M i N).set (M i) (.bool true) = seenV M (i + 1) N := by
  refine List.ext_getElem? fun j => ?_
  rw [List.getElem?_set]
  by_cases hj : j < N
  · rw [seenV_at _ _ hj, seenV_at _ _ hj]
    by_cases h : M i = j
    · have : j ∈ plL M (i + 1) := mem_plL.2 (.inr h.symm)
      rw [if_pos h, if_pos (by unfold seenV; simp; omega), decide_eq_true this]
    · have : (j ∈ plL M (i + 1)) = (j ∈ plL M i) := propext (mem_plL.trans ⟨fun e => e.elim id fun e => absurd e.symm h, .inl⟩)
      rw [if_neg h]; simp only [this]
  · have e : ∀ i, (seenV M i N)[j]? = none := fun i => by rw [List.getElem?_eq_none_iff]; unfold seenV; simp; omega
    rw [e, e]
    have : ¬ M i < (seenV M i N).length ∨ M i ≠ j := by unfold seenV; simp; omega
    by_cases h : M i = j
    · rw [if_pos h, if_neg (by unfold seenV; simp; omega)]
    · rw [if_neg h]
theorem seenV_zero (M : Nat → Nat) (N : Nat) : (madeCells #[Value.bool false] N).toList = seenV M 0 N := by
  refine List.ext_getElem? fun j => ?_
  by_cases hj : j < N
  · rw [seenV_at _ _ hj]
    simp [madeCells, hj, Nat.mod_one, plL]
  · have h1 : (seenV M 0 N)[j]? = none := by rw [List.getElem?_eq_none_iff]; unfold seenV; simp; omega
    rw [h1, List.getElem?_eq_none_iff]
    simp [madeCells]; omega
/-- the places as a row of ints -/
def placeV (M : Nat → Nat) (i : Nat) : List Value := ((plL M i).map fun n : Nat => (n : Int)).map (Value.int .i64)
theorem placeV_old {M : Nat → Nat} {i : Nat} (h : M i ∈ plL M i) : placeV M (i + 1) = placeV M i := by unfold placeV; rw [plL_old h]
theorem placeV_new {M : Nat → Nat} {i : Nat} (h : ¬ M i ∈ plL M i) : placeV M i ++ [.int .i64 ((M i : Nat) : Int)] = placeV M (i + 1) := by unfold placeV; rw [plL_new h]; simp
end Rf
end Go.Proofs.Ytjephdeolifbpaa
