/- Which columns are lost, and whether they may be: in plain functions of a column's place. Nothing of the program stands here. -/
import Derived.Test.YtjephdeolifbpaaSynMath
namespace Go.Proofs.Ytjephdeolifbpaa.Rf
/-- is x among the first n of L -/
def hasF : Nat → (Nat → Int) → Int → Bool
  | 0, _, _ => false
  | n + 1, L, x => hasF n L x || L n == x
theorem hasF_zero (L : Nat → Int) (x : Int) : hasF 0 L x = false := rfl
theorem hasF_succ (n : Nat) (L : Nat → Int) (x : Int) : hasF (n + 1) L x = (hasF n L x || L n == x) := rfl
theorem hasF_iff {n : Nat} {L : Nat → Int} {x : Int} : hasF n L x = true ↔ ∃ i, i < n ∧ L i = x := by
  induction n with
  | zero => exact ⟨fun h => (by cases h), fun ⟨i, hi, _⟩ => absurd hi (Nat.not_lt_zero _)⟩
  | succ n ih =>
    rw [hasF_succ, Bool.or_eq_true, ih, beq_iff_eq]
    constructor
    · rintro (⟨i, hi, e⟩ | e)
      · exact ⟨i, by omega, e⟩
      · exact ⟨n, by omega, e⟩
    · rintro ⟨i, hi, e⟩
      by_cases h : i = n
      · subst h; exact .inr e
      · exact .inl ⟨i, by omega, e⟩
theorem hasF_no {n : Nat} {L : Nat → Int} {x : Int} (h : ∀ i, i < n → L i ≠ x) : hasF n L x = false := by
  cases e : hasF n L x with
  | false => rfl
  | true => obtain ⟨i, hi, e⟩ := hasF_iff.1 e; exact absurd e (h i hi)
theorem hasF_yes {n i : Nat} {L : Nat → Int} {x : Int} (hi : i < n) (e : L i = x) : hasF n L x = true := hasF_iff.2 ⟨i, hi, e⟩
theorem hasF_mono {n m : Nat} {L : Nat → Int} {x : Int} (h : hasF n L x = true) (hm : n ≤ m) : hasF m L x = true := by
  obtain ⟨i, hi, e⟩ := hasF_iff.1 h
  exact hasF_yes (by omega) e
/-- the length that the columns 0 to n - 1 have that are not lost: -1 where there is none, 'none' where there are two -/
def szO (f : Nat → ByteArray) (ln : Nat) (L : Nat → Int) : Nat → Option Int
  | 0 => some (-1)
  | n + 1 => match szO f ln L n with
    | none => none
    | some s => if hasF ln L (n : Int) then some s else if 0 ≤ s ∧ ((f n).size : Int) ≠ s then none else some ((f n).size : Int)
def szF (f : Nat → ByteArray) (ln : Nat) (L : Nat → Int) (n : Nat) : Int := (szO f ln L n).getD (-1)
theorem szO_lost {f : Nat → ByteArray} {ln n : Nat} {L : Nat → Int} {s : Int} (h : szO f ln L n = some s) (hl : hasF ln L (n : Int) = true) : szO f ln L (n + 1) = some s := by
  simp only [szO, h, hl, if_true]
theorem szO_two {f : Nat → ByteArray} {ln n : Nat} {L : Nat → Int} {s : Int} (h : szO f ln L n = some s) (hl : hasF ln L (n : Int) = false) (h0 : 0 ≤ s) (h1 : ((f n).size : Int) ≠ s) : szO f ln L (n + 1) = none := by
  simp only [szO, h, hl]; rw [if_neg (by decide), if_pos ⟨h0, h1⟩]
theorem szO_next {f : Nat → ByteArray} {ln n : Nat} {L : Nat → Int} {s : Int} (h : szO f ln L n = some s) (hl : hasF ln L (n : Int) = false) (h1 : ¬ (0 ≤ s ∧ ((f n).size : Int) ≠ s)) : szO f ln L (n + 1) = some ((f n).size : Int) := by
  simp only [szO, h, hl]; rw [if_neg (by decide), if_neg h1]
theorem szO_stays {f : Nat → ByteArray} {ln n : Nat} {L : Nat → Int} (h : szO f ln L n = none) (k : Nat) : szO f ln L (n + k) = none := by
  induction k with
  | zero => exact h
  | succ k ih => rw [← Nat.add_assoc]; simp only [szO, ih]
theorem szO_ge {f : Nat → ByteArray} {ln n : Nat} {L : Nat → Int} {s : Int} (h : szO f ln L n = some s) : -1 ≤ s := by
  induction n generalizing s with
  | zero => simp only [szO, Option.some.injEq] at h; omega
  | succ n ih =>
    cases e : szO f ln L n with
    | none => simp only [szO, e] at h; cases h
    | some s' =>
      have := ih e
      simp only [szO, e] at h
      split at h
      · cases h; exact this
      · split at h
        · cases h
        · cases h; omega
/-- what is told of all that are not lost -/
theorem szO_all {f : Nat → ByteArray} {ln n : Nat} {L : Nat → Int} {s : Int} (h : szO f ln L n = some s) : (∀ i, i < n → hasF ln L (i : Int) = false → ((f i).size : Int) = s) ∧ ((∃ i, i < n ∧ hasF ln L (i : Int) = false) ∨ s = -1) := by
  induction n generalizing s with
  | zero => simp only [szO, Option.some.injEq] at h; exact ⟨fun i hi => absurd hi (Nat.not_lt_zero _), .inr h.symm⟩
  | succ n ih =>
    cases e : szO f ln L n with
    | none => simp only [szO, e] at h; cases h
    | some s' =>
      obtain ⟨h1, h2⟩ := ih e
      cases hl : hasF ln L (n : Int) with
      | true =>
        rw [szO_lost e hl] at h
        cases h
        refine ⟨fun i hi hn => ?_, h2.imp (fun ⟨i, hi, hn⟩ => ⟨i, by omega, hn⟩) id⟩
        by_cases hin : i = n
        · subst hin; rw [hl] at hn; cases hn
        · exact h1 i (by omega) hn
      | false =>
        by_cases hc : 0 ≤ s' ∧ ((f n).size : Int) ≠ s'
        · rw [szO_two e hl hc.1 hc.2] at h; cases h
        · rw [szO_next e hl hc] at h
          cases h
          refine ⟨fun i hi hn => ?_, .inl ⟨n, by omega, hl⟩⟩
          by_cases hin : i = n
          · subst hin; rfl
          · have h3 := h1 i (by omega) hn
            rcases h2 with _ | h2
            · have : 0 ≤ s' := by omega
              have : ((f n).size : Int) = s' := Decidable.byContradiction fun hne => hc ⟨this, hne⟩
              omega
            · omega
/-- each of them is a place, and no place twice -/
def okL (n ln : Nat) (L : Nat → Int) : Bool := (List.range ln).all fun i => decide (0 ≤ L i) && decide (L i < (n : Int)) && !hasF i L (L i)
theorem okL_at {n ln : Nat} {L : Nat → Int} (h : okL n ln L = true) {i : Nat} (hi : i < ln) : 0 ≤ L i ∧ L i < (n : Int) ∧ hasF i L (L i) = false := by
  unfold okL at h
  rw [List.all_eq_true] at h
  have := h i (List.mem_range.2 hi)
  simpa [and_assoc] using this
theorem okL_of {n ln : Nat} {L : Nat → Int} (h : ∀ i, i < ln → 0 ≤ L i ∧ L i < (n : Int) ∧ hasF i L (L i) = false) : okL n ln L = true := by
  unfold okL
  rw [List.all_eq_true]
  intro i hi
  have := h i (List.mem_range.1 hi)
  simpa [and_assoc] using this
theorem okL_no {n ln : Nat} {L : Nat → Int} {i : Nat} (hi : i < ln) (h : ¬ (0 ≤ L i ∧ L i < (n : Int) ∧ hasF i L (L i) = false)) : okL n ln L = false := by
  cases e : okL n ln L with
  | false => rfl
  | true => exact absurd (okL_at e hi) h
/-- the error that the document names -/
def mayF (n : Nat) (f : Nat → ByteArray) (ln : Nat) (L : Nat → Int) : Int :=
  if n < 4 ∨ 10 < n then 1 else if okL n ln L = false then 1 else if ln < n ∧ (szF f ln L n < 0 ∨ 4096 < szF f ln L n) then 1 else if 2 < ln then 60 else 0
theorem mayF_cols {n ln : Nat} {f : Nat → ByteArray} {L : Nat → Int} (h : n < 4 ∨ 10 < n) : mayF n f ln L = 1 := if_pos h
theorem mayF_lost {n ln : Nat} {f : Nat → ByteArray} {L : Nat → Int} (h : ¬ (n < 4 ∨ 10 < n)) (h1 : okL n ln L = false) : mayF n f ln L = 1 := by unfold mayF; rw [if_neg h, if_pos h1]
theorem mayF_size {n ln : Nat} {f : Nat → ByteArray} {L : Nat → Int} (h : ¬ (n < 4 ∨ 10 < n)) (h1 : okL n ln L = true) (h2 : ln < n ∧ (szF f ln L n < 0 ∨ 4096 < szF f ln L n)) : mayF n f ln L = 1 := by
  unfold mayF; rw [if_neg h, if_neg (by rw [h1]; decide), if_pos h2]
theorem mayF_more {n ln : Nat} {f : Nat → ByteArray} {L : Nat → Int} (h : ¬ (n < 4 ∨ 10 < n)) (h1 : okL n ln L = true) (h2 : ¬ (ln < n ∧ (szF f ln L n < 0 ∨ 4096 < szF f ln L n))) (h3 : 2 < ln) : mayF n f ln L = 60 := by
  unfold mayF; rw [if_neg h, if_neg (by rw [h1]; decide), if_neg h2, if_pos h3]
theorem mayF_ok {n ln : Nat} {f : Nat → ByteArray} {L : Nat → Int} (h : ¬ (n < 4 ∨ 10 < n)) (h1 : okL n ln L = true) (h2 : ¬ (ln < n ∧ (szF f ln L n < 0 ∨ 4096 < szF f ln L n))) (h3 : ¬ 2 < ln) : mayF n f ln L = 0 := by
  unfold mayF; rw [if_neg h, if_neg (by rw [h1]; decide), if_neg h2, if_neg h3]
/-- what an answer OK tells -/
theorem mayF_tells {n ln : Nat} {f : Nat → ByteArray} {L : Nat → Int} (h : mayF n f ln L = 0) : 4 ≤ n ∧ n ≤ 10 ∧ ln ≤ 2 ∧ okL n ln L = true ∧ ∃ s : Nat, s ≤ 4096 ∧ szF f ln L n = (s : Int) ∧ ∀ i, i < n → hasF ln L (i : Int) = false → (f i).size = s := by
  by_cases h1 : n < 4 ∨ 10 < n
  · rw [mayF_cols h1] at h; omega
  · cases h2 : okL n ln L with
    | false => rw [mayF_lost h1 h2] at h; omega
    | true =>
      by_cases h3 : ln < n ∧ (szF f ln L n < 0 ∨ 4096 < szF f ln L n)
      · rw [mayF_size h1 h2 h3] at h; omega
      · by_cases h4 : 2 < ln
        · rw [mayF_more h1 h2 h3 h4] at h; omega
        · have h5 : 0 ≤ szF f ln L n ∧ szF f ln L n ≤ 4096 := by
            by_cases a : szF f ln L n < 0
            · exact absurd ⟨by omega, .inl a⟩ h3
            · by_cases b : 4096 < szF f ln L n
              · exact absurd ⟨by omega, .inr b⟩ h3
              · omega
          obtain ⟨s, hs⟩ := Int.eq_ofNat_of_zero_le h5.1
          refine ⟨by omega, by omega, by omega, rfl, s, by omega, hs, fun i hi hn => ?_⟩
          cases e : szO f ln L n with
          | none => unfold szF at hs; rw [e] at hs; simp at hs
          | some t =>
            have := (szO_all e).1 i hi hn
            unfold szF at hs; rw [e] at hs; simp at hs; omega
end Go.Proofs.Ytjephdeolifbpaa.Rf
