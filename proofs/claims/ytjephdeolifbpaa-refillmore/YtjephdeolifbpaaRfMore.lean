/- Places told one after another, each laid once: what they are, how many, and what error a row has whose columns at them are lost. -/
import Derived.Test.YtjephdeolifbpaaRfRows
namespace Go.Proofs.Ytjephdeolifbpaa
namespace Rf

/-- the places of the first i, each laid where it comes first -/
def plL (M : Nat → Nat) : Nat → List Nat
  | 0 => []
  | i + 1 => if M i ∈ plL M i then plL M i else plL M i ++ [M i]
theorem plL_old {M : Nat → Nat} {i : Nat} (h : M i ∈ plL M i) : plL M (i + 1) = plL M i := if_pos h
theorem plL_new {M : Nat → Nat} {i : Nat} (h : ¬ M i ∈ plL M i) : plL M (i + 1) = plL M i ++ [M i] := if_neg h
theorem mem_plL {M : Nat → Nat} {i x : Nat} : x ∈ plL M (i + 1) ↔ x ∈ plL M i ∨ x = M i := by
  by_cases h : M i ∈ plL M i
  · rw [plL_old h]
    exact ⟨.inl, fun e => e.elim id fun e => e ▸ h⟩
  · rw [plL_new h]; simp
theorem plL_lt {M : Nat → Nat} {N : Nat} (h : ∀ i, M i < N) (i : Nat) : ∀ x ∈ plL M i, x < N := by
  induction i with
  | zero => intro x hx; cases hx
  | succ i ih =>
    intro x hx
    rcases mem_plL.1 hx with hx | rfl
    · exact ih x hx
    · exact h i
theorem plL_once (M : Nat → Nat) (i : Nat) : (plL M i).Nodup := by
  induction i with
  | zero => exact List.nodup_nil
  | succ i ih =>
    by_cases h : M i ∈ plL M i
    · rw [plL_old h]; exact ih
    · rw [plL_new h, List.nodup_append]
      refine ⟨ih, by simp, fun a ha b hb => ?_⟩
      rw [List.mem_singleton] at hb
      subst hb
      exact fun e => h (e ▸ ha)
theorem plL_len (M : Nat → Nat) (i : Nat) : (plL M i).length ≤ i := by
  induction i with
  | zero => exact Nat.le_refl _
  | succ i ih =>
    by_cases h : M i ∈ plL M i
    · rw [plL_old h]; omega
    · rw [plL_new h]; simp; omega
/-- whoever holds all places below N is as long as N -/
theorem all_len : ∀ (N : Nat) (l : List Nat), (∀ i, i < N → i ∈ l) → N ≤ l.length
  | 0, _, _ => Nat.zero_le _
  | N + 1, l, h => by
    have hm := h N (Nat.lt_succ_self N)
    have := all_len N (l.erase N) fun i hi => (List.mem_erase_of_ne (by omega)).2 (h i (by omega))
    rw [List.length_erase_of_mem hm] at this
    have hp := List.length_pos_of_mem hm
    omega
/-- the list as numbers of a row -/
def numL (l : List Nat) (j : Nat) : Int := (l.map fun n : Nat => (n : Int)).getD j 0
theorem numL_at {l : List Nat} {j : Nat} (h : j < l.length) : numL l j = ((l[j] : Nat) : Int) := by
  unfold numL
  rw [List.getD_eq_getElem?_getD, List.getElem?_map, List.getElem?_eq_getElem h]
  rfl
theorem hasF_numL {l : List Nat} {x : Nat} : hasF l.length (numL l) (x : Int) = true ↔ x ∈ l := by
  rw [hasF_iff]
  constructor
  · rintro ⟨i, hi, e⟩
    rw [numL_at hi] at e
    have : l[i] = x := by omega
    exact this ▸ List.getElem_mem hi
  · intro h
    obtain ⟨i, hi, e⟩ := List.getElem_of_mem h
    exact ⟨i, hi, by rw [numL_at hi, e]⟩
theorem okL_numL {l : List Nat} {N : Nat} (h : ∀ x ∈ l, x < N) (h1 : l.Nodup) : okL N l.length (numL l) = true := by
  refine okL_of fun i hi => ?_
  rw [numL_at hi]
  have := h _ (List.getElem_mem hi)
  refine ⟨by omega, by omega, hasF_no fun j hj => ?_⟩
  rw [numL_at (by omega)]
  have hne : l[j] ≠ l[i] := List.pairwise_iff_getElem.1 h1 j i (by omega) hi hj
  omega
/-- the error of columns of one length, some of them lost, each told once -/
theorem mayF_numL {l : List Nat} {N s : Nat} {f : Nat → ByteArray} (h4 : 4 ≤ N) (h10 : N ≤ 10) (hs : ∀ i, i < N → (f i).size = s) (hs4 : s ≤ 4096) (h : ∀ x ∈ l, x < N) (h1 : l.Nodup) :
    (2 < l.length → mayF N f l.length (numL l) = 60) ∧ (¬ 2 < l.length → mayF N f l.length (numL l) = 0) := by
  have hc : ¬ (N < 4 ∨ 10 < N) := by omega
  have ho := okL_numL h h1
  have hz : ¬ (l.length < N ∧ (szF f l.length (numL l) N < 0 ∨ 4096 < szF f l.length (numL l) N)) := by
    rintro ⟨hl, hb⟩
    rcases szO_same (f := f) (ln := l.length) (n := N) (s := s) (L := numL l) (fun i hi _ => hs i hi) with ⟨_, ha⟩ | e
    · have := all_len N l fun i hi => hasF_numL.1 (ha i hi)
      omega
    · unfold szF at hb
      rw [e] at hb
      simp at hb
      omega
  exact ⟨fun h3 => mayF_more hc ho hz h3, fun h3 => mayF_ok hc ho hz h3⟩
end Rf
end Go.Proofs.Ytjephdeolifbpaa
