/- What holds of a list in which one key alone is pinned, whatever is put: it stays, and there is always one that goes. -/
import Derived.Test.YtmmhfkohfijlaaaLrMine
namespace Go.Proofs.Ytmmhfkohfijlaaa
open Go.RowKit Lr

namespace Lr
theorem keys_idx (l : L) (k : Int) : idx l k = (keys l).findIdx fun x => x == k := by unfold idx keys; rw [List.findIdx_map]; rfl
theorem pinTo_keys {l : L} {i : Nat} (hi : i < l.length) (n : Nat) : keys (pinTo l i n) = keys l := by
  unfold keys pinTo
  rw [getD_at' hi]
  apply List.ext_getElem
  · simp
  · intro j h1 h2
    rw [List.getElem_map, List.getElem_map, List.getElem_set]
    by_cases e : i = j
    · subst e; rw [if_pos rfl]
    · rw [if_neg e]
theorem pinTo_idx {l : L} {i : Nat} (hi : i < l.length) (n : Nat) (k : Int) : idx (pinTo l i n) k = idx l k := by rw [keys_idx, keys_idx, pinTo_keys hi]
theorem pinTo_length (l : L) (i n : Nat) : (pinTo l i n).length = l.length := by simp [pinTo]
theorem pinTo_pins {l : L} {k : Int} (h : idx l k < l.length) (n : Nat) : pins (pinTo l (idx l k) n) k = n := by
  unfold pins
  rw [pinTo_idx h, getD_at' (by rw [pinTo_length]; exact h)]
  simp [pinTo]
theorem erased_key {l : L} (hn : (keys l).Nodup) {i : Nat} (h : i < l.length) : l[i].1 ∉ keys (l.eraseIdx i) := fun hm => by
  obtain ⟨y, hy, he⟩ := List.mem_map.1 hm
  obtain ⟨j, hj, hji, rfl⟩ := List.mem_eraseIdx_iff_getElem.1 hy
  exact hji (nodup_at hn (by rw [keys_length]; exact hj) (by rw [keys_length]; exact h) (by simpa [keys] using he))
/-- p is there, and is pinned once; the others are not pinned -/
structure Hold (p : Int) (l : L) : Prop where
  has : idx l p < l.length
  one : ∀ x ∈ l, x.2 = if x.1 = p then 1 else 0
theorem Hold.pinned {p : Int} {l : L} (h : Hold p l) : Lr.pins l p = 1 := by
  have hk := idx_key h.has
  unfold Lr.pins
  rw [getD_at' h.has] at hk ⊢
  rw [h.one _ (List.getElem_mem _), if_pos hk]
theorem Hold.of_mem {p : Int} {l l' : L} (h : Hold p l) (h1 : p ∈ keys l') (h2 : ∀ x ∈ l', x ∈ l ∨ (x.1 ≠ p ∧ x.2 = 0)) : Hold p l' :=
  ⟨has_iff.2 h1, fun x hx => by
    rcases h2 x hx with hx | ⟨e1, e2⟩
    · exact h.one x hx
    · rw [e2, if_neg e1]⟩
/-- what Put answers and leaves, where there is room for two -/
theorem Hold.put {p : Int} {room : Nat} {l : L} (h : Hold p l) (ho : LOk room l) (h2 : 2 ≤ room) (k : Int) :
    putE room l k = 0 ∧ (putW room l k = true → putG room l k ≠ p) ∧ Hold p (put room l k) ∧ 0 < (put room l k).length ∧ (keys (put room l k)).getD 0 0 = k := by
  have hm := has_iff.1 h.has
  unfold putE putW putG Lr.put
  by_cases hy : idx l k < l.length
  · rw [if_pos hy, if_pos hy, if_pos hy, if_pos hy]
    have hp := erase_perm hy
    rw [front, getD_at' hy]
    refine ⟨rfl, (by intro e; cases e), h.of_mem ?_ (fun x hx => .inl (hp.mem_iff.1 hx)), by simp, ?_⟩
    · obtain ⟨x, hx, e⟩ := List.mem_map.1 hm
      exact List.mem_map.2 ⟨x, hp.mem_iff.2 hx, e⟩
    · have := idx_key hy
      rw [getD_at' hy] at this
      simpa [keys] using this
  · rw [if_neg hy, if_neg hy, if_neg hy, if_neg hy]
    have hkp : k ≠ p := fun e => hy (by rw [e]; exact h.has)
    by_cases hr : l.length < room
    · rw [if_pos hr, if_pos hr, if_pos hr, if_pos hr]
      refine ⟨rfl, (by intro e; cases e), h.of_mem (by simp [keys] at hm ⊢; exact .inr hm) (fun x hx => ?_), by simp, by simp [keys]⟩
      rcases List.mem_cons.1 hx with rfl | hx
      · exact .inr ⟨hkp, rfl⟩
      · exact .inl hx
    · rw [if_neg hr, if_neg hr, if_neg hr, if_neg hr]
      have hl : l.length = room := by have := ho.full; omega
      have hh : held l < l.length := by
        refine Nat.lt_of_le_of_ne (held_le l) fun e => ?_
        have hall := held_none e
        have key : ∀ i, (hi : i < l.length) → l[i].1 = p := fun i hi => by
          have h1 := hall _ (List.getElem_mem hi)
          rw [h.one _ (List.getElem_mem hi)] at h1
          by_cases e2 : l[i].1 = p
          · exact e2
          · rw [if_neg e2] at h1; exact absurd rfl h1
        have := nodup_at ho.nd (i := 0) (j := 1) (by rw [keys_length]; omega) (by rw [keys_length]; omega) (by simp only [keys, List.getElem_map]; rw [key 0 (by omega), key 1 (by omega)])
        omega
      have hol : old l < l.length := by unfold old; omega
      have hfree := held_free hh
      rw [getD_at' hol] at hfree
      rw [if_pos hh, if_pos hh, if_pos hh, getD_at' hol]
      have hne : l[old l].1 ≠ p := fun e => by
        rw [h.one _ (List.getElem_mem hol), if_pos e] at hfree; cases hfree
      refine ⟨rfl, fun _ => hne, h.of_mem ?_ (fun x hx => ?_), by simp, by simp [keys]⟩
      · refine List.mem_cons_of_mem _ (List.mem_map.2 ⟨l[idx l p]'h.has, List.mem_eraseIdx_iff_getElem.2 ⟨_, h.has, fun e => hne ?_, rfl⟩, ?_⟩)
        · have := idx_key h.has
          rw [getD_at' h.has] at this
          rw [← this]
          congr 2
          exact e.symm
        · have := idx_key h.has
          rwa [getD_at' h.has] at this
      · rcases List.mem_cons.1 hx with rfl | hx
        · exact .inr ⟨hkp, rfl⟩
        · exact .inl (List.mem_of_mem_eraseIdx hx)
/-- it is let go, and dropped -/
theorem Hold.gone {p : Int} {room : Nat} {l : L} (h : Hold p l) (ho : LOk room l) :
    unpinE l p = 0 ∧ pins (unpin l p) p = 0 ∧ unpinE (unpin l p) p = 5 ∧ unpin (unpin l p) p = unpin l p ∧ dropE (unpin l p) p = 0 ∧ (∀ l', l' = drop (unpin l p) p → dropE l' p = 3 ∧ drop l' p = l' ∧ Lr.has l' p = false) := by
  have h1 := h.pinned
  have e1 : unpin l p = pinTo l (idx l p) 0 := by unfold unpin; rw [if_pos h.has, h1, if_neg (by decide)]
  have e2 : pins (unpin l p) p = 0 := by rw [e1]; exact pinTo_pins h.has 0
  have e3 : idx (unpin l p) p = idx l p := by rw [e1]; exact pinTo_idx h.has 0 p
  have e4 : (unpin l p).length = l.length := by rw [e1]; exact pinTo_length _ _ _
  have e5 : idx (unpin l p) p < (unpin l p).length := by rw [e3, e4]; exact h.has
  refine ⟨?_, e2, ?_, ?_, ?_, ?_⟩
  · unfold unpinE; rw [if_pos h.has, h1, if_neg (by decide)]
  · unfold unpinE; rw [if_pos e5, if_pos e2]
  · generalize unpin l p = m at e2 e5; unfold unpin; rw [if_pos e5, if_pos e2]
  · unfold dropE; rw [if_pos e5, if_pos e2]
  · intro l' hl'
    have hd : l' = (unpin l p).eraseIdx (idx (unpin l p) p) := by rw [hl']; unfold drop; rw [if_pos e5, if_pos e2]
    have hno : ¬ idx l' p < l'.length := fun hh => by
      have hm := has_iff.1 hh
      rw [hd] at hm
      have hn : (keys (unpin l p)).Nodup := by rw [e1, pinTo_keys h.has]; exact ho.nd
      have := erased_key hn e5
      have hk := idx_key e5
      rw [getD_at' e5] at hk
      rw [hk] at this
      exact this hm
    exact ⟨by unfold dropE; rw [if_neg hno], by unfold drop; rw [if_neg hno], by unfold Lr.has; rw [decide_eq_false hno]⟩
theorem LruAt.drewN {w : World} {p room : Nat} {l : L} {F : Nat → Prop} (h : LruAt w p room l F) (q : Nat) : LruAt (w.drewN q) p room l F := h.only (G := fun _ => False) ⟨rfl, rfl, rfl, Nat.le_refl _, fun _ _ _ => rfl⟩ (fun _ _ _ hf => hf)
end Lr
/-- a pinned key is not dropped: nothing turns -/
theorem Drop_pinned {w : World} {p room : Nat} {l : L} {F : Nat → Prop} (h : LruAt w p room l F) {k : Int} (hy : idx l k < l.length) (hp : pins l k ≠ 0) :
    Calls Try.prog 18 #[.pointer (some ⟨p, 0, none⟩), .int .i64 k] w fun r w' => r = .returned (.int .i64 5) ∧ w' = w := by
  obtain ⟨e, mb, ns, hin, rfl, hF⟩ := h
  obtain ⟨hi, hkey⟩ := at_yes hy
  rw [pins_at hi] at hp
  have c := Drop_held hin hi hp
  rwa [hkey] at c
end Go.Proofs.Ytmmhfkohfijlaaa
