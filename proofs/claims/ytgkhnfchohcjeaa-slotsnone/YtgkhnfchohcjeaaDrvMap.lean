/- A drive's map of writes, turned: one write more of a sector, a sector without writes, none at all. -/
import Derived.Test.YtgkhnfchohcjeaaDrvPend
namespace Go.Proofs.Ytgkhnfchohcjeaa
open Go.RowKit Go.Maps

theorem ownsMap_tight {P : Program} {k b n : Nat} {R : Value → Option (DataW Unit × List MemPlace)} {D : DataW Unit} {w : World} (h : w.ownsMap P k R b n D) : w.ownsMap P k R b (Maps.size D) D := by
  obtain ⟨es, cl, hb, F, _, rfl⟩ := h
  exact ⟨es, cl, hb, F, by rw [Maps.size_eq, length_sorted]; simp, rfl⟩
theorem nodup_le {α : Type} [DecidableEq α] : ∀ {l r : List α}, l.Nodup → (∀ x ∈ l, x ∈ r) → l.length ≤ r.length
  | [], _, _, _ => Nat.zero_le _
  | a :: l, r, hn, hs => by
    rw [List.nodup_cons] at hn
    have ha : a ∈ r := hs a (by simp)
    have ih := nodup_le (l := l) (r := r.erase a) hn.2 (fun x hx => (List.mem_erase_of_ne (fun e => hn.1 (by rw [← e]; exact hx))).2 (hs x (by simp [hx])))
    rw [List.length_erase_of_mem ha] at ih
    have := List.length_pos_of_mem ha
    rw [List.length_cons]; omega
/-- no more keys than sectors -/
theorem MapIn.size_le {w : World} {mb : Nat} {hd : Nat → Value} {D : Dr} {M : DataW Unit} (h : MapIn w mb hd D M) : Maps.size M ≤ D.safe.length := by
  obtain ⟨es, rfl, hp, hk⟩ := h.owns.entries (int_keyed Try.underlying3)
  rw [Maps.size_eq]
  have hmem : ∀ p ∈ es, ∃ i, i < D.safe.length ∧ p.1 = keyL i := fun p hp' => h.keys p.1 (by
    rw [Maps.has_eq, List.any_eq_true]
    exact ⟨p, hp', WideAt.sameKey_self (hk p hp')⟩)
  have hn : (es.map fun p => p.1).Nodup := List.pairwise_map.2 hp
  have hsub : (es.map fun p => p.1) ⊆ (List.range D.safe.length).map keyL := by
    intro l hl
    obtain ⟨p, hp', rfl⟩ := List.mem_map.1 hl
    obtain ⟨i, hi, e⟩ := hmem p hp'
    exact List.mem_map.2 ⟨i, List.mem_range.2 hi, e.symm⟩
  have : (es.map fun p => p.1).length ≤ ((List.range D.safe.length).map keyL).length := by classical exact nodup_le hn hsub
  simpa using this

/-- one write more -/
theorem MapIn.put {w w' : World} {mb : Nat} {hd : Nat → Value} {D D' : Dr} {M : DataW Unit} (h : MapIn w mb hd D M) (ok : D.Ok) {i m : Nat} (hi : i < D.safe.length) {v : Value} {d : DataW Unit} (hv : hdrD v = some (d, []))
    (ho : w'.ownsMap Try.prog 3 hdrD mb m (M.put (keyL i) d)) (e1 : D'.safe = D.safe) (e2 : D'.writes i ≠ []) (e3 : ∀ j, j ≠ i → D'.writes j = D.writes j) : MapIn w' mb (fun j => if j = i then v else hd j) D' (M.put (keyL i) d) := by
  have hle := ok.le
  have hk := isKeyL i (by omega)
  have hm := h.owns.isMap
  refine ⟨ownsMap_tight ho, ?_, ?_, ?_⟩
  · rw [e1]
    intro j hj d' hd'
    by_cases e : j = i
    · subst e
      rw [if_pos rfl, hv] at hd'
      cases hd'
      exact atKey_put_same hm hk _ _
    · rw [if_neg e] at hd'
      rw [atKey_put_other (fun x => e (keyL_inj x))]
      exact h.at_ j hj d' hd'
  · rw [e1]
    intro j hj
    by_cases e : j = i
    · subst e
      rw [has_put_same hm hk]
      cases e0 : D'.writes j with
      | nil => exact absurd e0 e2
      | cons _ _ => rfl
    · rw [has_put_other (fun x => e (keyL_inj x)), e3 j e]
      exact h.has j hj
  · rw [e1]
    intro kl hkl
    by_cases e : kl = keyL i
    · exact ⟨i, hi, e⟩
    · rw [has_put_other e] at hkl
      exact h.keys kl hkl
/-- a sector without writes -/
theorem MapIn.del {w w' : World} {mb : Nat} {hd : Nat → Value} {D D' : Dr} {M : DataW Unit} (h : MapIn w mb hd D M) {i m : Nat}
    (ho : w'.ownsMap Try.prog 3 hdrD mb m (M.del (keyL i))) (e1 : D'.safe.length = D.safe.length) (e2 : D'.writes i = []) (e3 : ∀ j, j ≠ i → D'.writes j = D.writes j) : MapIn w' mb (fun j => if j = i then .slice none 0 0 else hd j) D' (M.del (keyL i)) := by
  refine ⟨ownsMap_tight ho, ?_, ?_, ?_⟩
  · rw [e1]
    intro j hj d' hd'
    by_cases e : j = i
    · subst e
      rw [if_pos rfl] at hd'
      cases hd'
      exact atKey_del_same _
    · rw [if_neg e] at hd'
      rw [atKey_del_other (fun x => e (keyL_inj x))]
      exact h.at_ j hj d' hd'
  · rw [e1]
    intro j hj
    by_cases e : j = i
    · subst e
      rw [has_del_same, e2]; rfl
    · rw [has_del_other (fun x => e (keyL_inj x)), e3 j e]
      exact h.has j hj
  · rw [e1]
    intro kl hkl
    by_cases e : kl = keyL i
    · rw [e, has_del_same] at hkl; cases hkl
    · rw [has_del_other e] at hkl
      exact h.keys kl hkl
/-- none at all -/
theorem MapIn.none {w : World} {mb cl : Nat} {D : Dr} (hb : w.heap[mb]? = some (.map #[] cl)) (hs : MapKept.Stamped #[] cl) (hw : ∀ i, D.writes i = []) : MapIn w mb (fun _ => .slice none 0 0) D (.map []) :=
  ⟨⟨#[], cl, hb, ⟨by simp, hs, by simp⟩, Nat.le_refl _, rfl⟩, fun i hi d hd => by cases hd; rfl, fun i hi => by rw [hw i]; rfl, fun kl hk => by cases hk⟩
end Go.Proofs.Ytgkhnfchohcjeaa
