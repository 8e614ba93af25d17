/- Plans, plainly: what is read and written is not lost; nothing that can be gone reads fewer. -/
import Derived.Test.YtlkbdhejfmljlaaDoorPlBool
namespace Go.Proofs.YtlkbdhejfmljlaaDoor
namespace Pl
variable {N : Nat} {B : Nat → Bool} {L : List Int}
theorem mem_range {p : Nat → Bool} {t : Nat} {x : Int} (h : x ∈ ((List.range t).filter p).map fun i => ((i : Nat) : Int)) : ∃ i : Nat, i < t ∧ p i = true ∧ x = (i : Int) := by
  obtain ⟨i, hi, e⟩ := List.mem_map.1 h
  obtain ⟨h1, h2⟩ := List.mem_filter.1 hi
  exact ⟨i, List.mem_range.1 h1, h2, e.symm⟩
theorem asc_range (p : Nat → Bool) (t : Nat) : (((List.range t).filter p).map fun i => ((i : Nat) : Int)).Pairwise (· < ·) := by
  refine List.Pairwise.map _ (fun a b (h : a < b) => by omega) (List.Pairwise.filter _ List.pairwise_lt_range)
theorem asc_at {l : List Int} (h : l.Pairwise (· < ·)) {j : Nat} (h0 : 0 < j) (hj : j < l.length) : l.getD (j - 1) 0 < l.getD j 0 := by
  rw [List.getD_eq_getElem?_getD, List.getD_eq_getElem?_getD, List.getElem?_eq_getElem hj, List.getElem?_eq_getElem (show j - 1 < l.length by omega)]
  exact List.pairwise_iff_getElem.1 h (j - 1) j (by omega) hj (by omega)
theorem mem_at {l : List Int} {j : Nat} (hj : j < l.length) : l.getD j 0 ∈ l := by
  rw [List.getD_eq_getElem?_getD, List.getElem?_eq_getElem hj]
  exact List.getElem_mem hj
theorem canB_st {way : Int} (h : canB N B L way = true) : (1 ≤ way ∧ way ≤ 4) ∧ ∀ i, i < N + 2 → stR N B L way i = true := by
  unfold canB isT at h
  simp only [Bool.and_eq_true, decide_eq_true_eq, List.all_eq_true, List.mem_range] at h
  exact ⟨⟨h.1, h.2.1⟩, h.2.2⟩
/-- what a way reads is not lost -/
theorem ansL_not {way : Int} {x : Int} (hx : x ∈ ansL N B L way) : hasB L x = false ∧ ∃ i : Nat, i < N + 2 ∧ x = (i : Int) := by
  unfold ansL at hx
  cases hc : canB N B L way with
  | false => rw [hc] at hx; simp at hx
  | true =>
    rw [hc, if_pos rfl] at hx
    obtain ⟨i, hi, hp, rfl⟩ := mem_range hx
    obtain ⟨hw, hst⟩ := canB_st hc
    have hs := hst i hi
    refine ⟨?_, i, hi, rfl⟩
    show gone L i = false
    have : way = 1 ∨ way = 2 ∨ way = 3 ∨ way = 4 := by omega
    rcases this with rfl | rfl | rfl | rfl
    · cases hp
    · rw [inR_2 rfl rfl rfl] at hp
      cases hg : gone L i with
      | false => rfl
      | true => rw [hg] at hp; simp at hp
    · rw [inR_3 rfl] at hp
      rw [stR_3 rfl rfl rfl] at hs
      cases hg : gone L i with
      | false => rfl
      | true => rw [hg] at hs; simp only [Bool.and_true] at hs; rw [hp] at hs; exact absurd hs (by decide)
    · rw [inR_4 rfl] at hp
      cases hg : gone L i with
      | false => rfl
      | true => rw [hg] at hp; exact absurd hp (by decide)
theorem ansL_asc (way : Int) : (ansL N B L way).Pairwise (· < ·) := by
  unfold ansL
  cases canB N B L way with
  | false => exact List.Pairwise.nil
  | true => exact asc_range _ _
/-- what is gone reads what its way reads, or nothing -/
theorem bestT_is : ∀ t : Nat, (bestT N B L t = (0, [])) ∨ ∃ s : Nat, s < t ∧ canB N B L ((s : Int) + 1) = true ∧ bestT N B L t = ((s : Int) + 1, ansL N B L ((s : Int) + 1))
  | 0 => .inl rfl
  | t + 1 => by
    have ih := bestT_is t
    have old : bestT N B L (t + 1) = bestT N B L t → (bestT N B L (t + 1) = (0, [])) ∨ ∃ s : Nat, s < t + 1 ∧ canB N B L ((s : Int) + 1) = true ∧ bestT N B L (t + 1) = ((s : Int) + 1, ansL N B L ((s : Int) + 1)) := fun e => by
      rw [e]
      rcases ih with h | ⟨s, hs, h⟩
      · exact .inl h
      · exact .inr ⟨s, by omega, h⟩
    cases hc : canB N B L ((t : Int) + 1) with
    | false => exact old (bestT_no (.inl hc))
    | true =>
      by_cases h : (bestT N B L t).1 = 0 ∨ (ansL N B L ((t : Int) + 1)).length < (bestT N B L t).2.length
      · exact .inr ⟨t, by omega, hc, bestT_yes hc h⟩
      · exact old (bestT_no (.inr ⟨fun e => h (.inl e), fun e => h (.inr e)⟩))
theorem bestT_le (t : Nat) : 0 ≤ (bestT N B L t).1 ∧ (bestT N B L t).1 ≤ t := by
  rcases bestT_is (N := N) (B := B) (L := L) t with h | ⟨s, hs, _, h⟩ <;> rw [h] <;> dsimp only <;> omega
/-- nothing that can be gone reads fewer; the first of those that read as many is gone -/
theorem bestT_best : ∀ t s : Nat, s < t → canB N B L ((s : Int) + 1) = true → (bestT N B L t).1 ≠ 0 ∧ (bestT N B L t).2.length ≤ (ansL N B L ((s : Int) + 1)).length ∧ ((ansL N B L ((s : Int) + 1)).length = (bestT N B L t).2.length → (bestT N B L t).1 ≤ (s : Int) + 1)
  | 0, _, h, _ => absurd h (Nat.not_lt_zero _)
  | t + 1, s, hs, hcs => by
    have ih := bestT_best t s
    have le := bestT_le (N := N) (B := B) (L := L) t
    by_cases h : canB N B L ((t : Int) + 1) = true ∧ ((bestT N B L t).1 = 0 ∨ (ansL N B L ((t : Int) + 1)).length < (bestT N B L t).2.length)
    · rw [bestT_yes h.1 h.2]
      dsimp only
      by_cases e : s = t
      · subst e; exact ⟨by omega, Nat.le_refl _, fun _ => Int.le_refl _⟩
      · obtain ⟨i1, i2, _⟩ := ih (by omega) hcs
        have := h.2.resolve_left i1
        exact ⟨by omega, by omega, fun _ => by omega⟩
    · have e1 : bestT N B L (t + 1) = bestT N B L t := by
        cases hc : canB N B L ((t : Int) + 1) with
        | false => exact bestT_no (.inl hc)
        | true => exact bestT_no (.inr ⟨fun e => h ⟨hc, .inl e⟩, fun e => h ⟨hc, .inr e⟩⟩)
      rw [e1]
      by_cases e : s = t
      · subst e
        have h1 : (bestT N B L s).1 ≠ 0 := fun x => h ⟨hcs, .inl x⟩
        have h2 : ¬ (ansL N B L ((s : Int) + 1)).length < (bestT N B L s).2.length := fun x => h ⟨hcs, .inr x⟩
        exact ⟨h1, by omega, fun _ => by omega⟩
      · exact ih (by omega) hcs
/-- what is written is not lost, and was asked for -/
theorem writes_not {x : Int} (hx : x ∈ writesT N B L (N + 2)) : hasB L x = false ∧ ∃ i : Nat, i < N + 2 ∧ x = (i : Int) ∧ (i < N → B i = true) := by
  obtain ⟨i, hi, hp, rfl⟩ := mem_range hx
  unfold inW at hp
  simp only [Bool.and_eq_true, Bool.not_eq_true', Bool.or_eq_true, decide_eq_true_eq] at hp
  exact ⟨hp.1, i, hi, rfl, fun h => hp.2.resolve_left (by omega)⟩
/-- the answers where it may be asked -/
structure Asked (N : Nat) (B : Nat → Bool) (L : List Int) : Prop where
  err : chooseE (N : Int) N L = 0
  rnot : ∀ j, j < (chooseR (N : Int) N B L).length → hasB L ((chooseR (N : Int) N B L).getD j 0) = false
  asc : ∀ j, 0 < j → j < (chooseR (N : Int) N B L).length → (chooseR (N : Int) N B L).getD (j - 1) 0 < (chooseR (N : Int) N B L).getD j 0
  wnot : ∀ j, j < (chooseP (N : Int) N B L).length → hasB L ((chooseP (N : Int) N B L).getD j 0) = false ∧ ∃ i : Nat, (chooseP (N : Int) N B L).getD j 0 = (i : Int) ∧ (i < N → B i = true)
  best : ∀ s : Nat, s < 4 → costB (N : Int) N B L ((s : Int) + 1) = true → chooseW (N : Int) N B L ≠ 0 → (chooseR (N : Int) N B L).length ≤ costN (N : Int) N B L ((s : Int) + 1) ∧ (costN (N : Int) N B L ((s : Int) + 1) = (chooseR (N : Int) N B L).length → chooseW (N : Int) N B L ≤ (s : Int) + 1)
  whole : costB (N : Int) N B L 4 = true
theorem asked (h : rolesB (N : Int) L = true) (hl : L.length ≤ 2) : Asked N B L := by
  have ha : argsOk (N : Int) N L = true := by unfold argsOk; rw [h]; simp
  have hc : costOk (N : Int) N L = true := by unfold costOk; rw [ha, decide_eq_true hl]; rfl
  have hW : chooseW (N : Int) N B L = if goes (N : Int) N B L then (bestT N B L 4).1 else 0 := rfl
  have hR : chooseR (N : Int) N B L = if goes (N : Int) N B L then (bestT N B L 4).2 else [] := rfl
  have hP : chooseP (N : Int) N B L = if goes (N : Int) N B L then writesT N B L (N + 2) else [] := rfl
  have hB : ∀ way, costB (N : Int) N B L way = canB N B L way := fun way => by unfold costB; rw [hc]; rfl
  have hN : ∀ way, costN (N : Int) N B L way = (ansL N B L way).length := fun way => by unfold costN; rw [if_pos hc]; rfl
  refine ⟨by unfold chooseE; rw [if_pos ha, if_pos hl], ?_, ?_, ?_, ?_, ?_⟩
  · rw [hR]
    cases hg : goes (N : Int) N B L with
    | false => intro j hj; exact absurd hj (Nat.not_lt_zero _)
    | true =>
      rw [if_pos rfl]
      intro j hj
      have hm := mem_at hj
      rcases bestT_is (N := N) (B := B) (L := L) 4 with e | ⟨s, _, _, e⟩
      · rw [e] at hj; exact absurd hj (Nat.not_lt_zero _)
      · rw [e] at hm ⊢; exact (ansL_not hm).1
  · rw [hR]
    cases hg : goes (N : Int) N B L with
    | false => intro j _ hj; exact absurd hj (Nat.not_lt_zero _)
    | true =>
      rw [if_pos rfl]
      intro j h0 hj
      rcases bestT_is (N := N) (B := B) (L := L) 4 with e | ⟨s, _, _, e⟩
      · rw [e] at hj; exact absurd hj (Nat.not_lt_zero _)
      · rw [e] at hj ⊢; exact asc_at (ansL_asc _) h0 hj
  · rw [hP]
    cases hg : goes (N : Int) N B L with
    | false => intro j hj; exact absurd hj (Nat.not_lt_zero _)
    | true =>
      rw [if_pos rfl]
      intro j hj
      obtain ⟨h1, i, _, h2, h3⟩ := writes_not (mem_at hj)
      exact ⟨h1, i, h2, h3⟩
  · intro s hs hb
    rw [hB] at hb
    rw [hW, hR, hN]
    cases hg : goes (N : Int) N B L with
    | false => intro h0; exact absurd rfl h0
    | true =>
      intro _
      rw [if_pos rfl, if_pos rfl]
      obtain ⟨_, h2, h3⟩ := bestT_best 4 s hs hb
      exact ⟨h2, h3⟩
  · rw [hB]
    unfold canB isT
    simp only [decide_eq_true (show (1 : Int) ≤ 4 by decide), decide_eq_true (show (4 : Int) ≤ 4 by decide), Bool.true_and, List.all_eq_true]
    exact fun i _ => stR_4 i
end Pl
end Go.Proofs.YtlkbdhejfmljlaaDoor
