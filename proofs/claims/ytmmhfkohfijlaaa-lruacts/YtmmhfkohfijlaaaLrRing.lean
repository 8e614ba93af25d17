/- A ring of nodes, as plain numbers: which one stands ahead of each, and which one behind; one leaves it, one comes into it. -/
import Derived.Test.YtmmhfkohfijlaaaKit
namespace Go.Proofs.Ytmmhfkohfijlaaa
namespace Lr

/-- another value at x -/
def upd {α : Type} (u : Nat → α) (x : Nat) (y : α) : Nat → α := fun k => if k = x then y else u k
theorem upd_same {α : Type} (u : Nat → α) (x : Nat) (y : α) : upd u x y x = y := if_pos rfl
theorem upd_other {α : Type} (u : Nat → α) {x k : Nat} (y : α) (h : k ≠ x) : upd u x y k = u k := if_neg h

/-- place i of a ring that ends at e: 0 is its end, and so is what stands behind the last one -/
def pl (e : Nat) (bs : List Nat) (i : Nat) : Nat := (e :: bs).getD i e
theorem pl_zero (e : Nat) (bs : List Nat) : pl e bs 0 = e := rfl
theorem pl_succ (e : Nat) (bs : List Nat) (i : Nat) : pl e bs (i + 1) = bs.getD i e := by simp [pl]
theorem pl_last (e : Nat) (bs : List Nat) : pl e bs (bs.length + 1) = e := by simp [pl_succ]
theorem pl_mem (e : Nat) (bs : List Nat) (i : Nat) : pl e bs i ∈ e :: bs := by
  unfold pl
  rw [List.getD_eq_getElem?_getD]
  cases h : (e :: bs)[i]? with
  | none => simp
  | some x => exact List.mem_of_getElem? h
theorem nodup_at {α : Type} {l : List α} (h : l.Nodup) {i j : Nat} (hi : i < l.length) (hj : j < l.length) (he : l[i] = l[j]) : i = j := by
  rcases Nat.lt_trichotomy i j with h1 | h1 | h1
  · exact absurd he (List.pairwise_iff_getElem.1 h i j hi hj h1)
  · exact h1
  · exact absurd he.symm (List.pairwise_iff_getElem.1 h j i hj hi h1)
theorem pl_inj {e : Nat} {bs : List Nat} (h : (e :: bs).Nodup) {i j : Nat} (hi : i ≤ bs.length) (hj : j ≤ bs.length) (he : pl e bs i = pl e bs j) : i = j := by
  have h1 : i < (e :: bs).length := by simp; omega
  have h2 : j < (e :: bs).length := by simp; omega
  unfold pl at he
  rw [List.getD_eq_getElem?_getD, List.getD_eq_getElem?_getD, List.getElem?_eq_getElem h1, List.getElem?_eq_getElem h2] at he
  exact nodup_at h h1 h2 he
theorem pl_inj' {e : Nat} {bs : List Nat} (h : (e :: bs).Nodup) {i j : Nat} (hi : i ≤ bs.length) (hj : j ≤ bs.length) (he : pl e bs (i + 1) = pl e bs (j + 1)) : i = j := by
  by_cases e1 : i = bs.length
  · by_cases e2 : j = bs.length
    · omega
    · rw [e1, pl_last, ← pl_zero e bs] at he
      have := pl_inj h (Nat.zero_le _) (by omega) he
      omega
  · by_cases e2 : j = bs.length
    · rw [e2, pl_last, ← pl_zero e bs] at he
      have := pl_inj h (by omega) (Nat.zero_le _) he
      omega
    · have := pl_inj h (by omega) (by omega) he
      omega
theorem pl_erase (e : Nat) (bs : List Nat) (i j : Nat) : pl e (bs.eraseIdx i) j = if j ≤ i then pl e bs j else pl e bs (j + 1) := by
  unfold pl
  rw [show e :: bs.eraseIdx i = (e :: bs).eraseIdx (i + 1) from rfl, List.getD_eq_getElem?_getD, List.getElem?_eraseIdx]
  by_cases h : j ≤ i
  · rw [if_pos (by omega), if_pos h, List.getD_eq_getElem?_getD]
  · rw [if_neg (by omega), if_neg h, List.getD_eq_getElem?_getD]
theorem pl_cons (e x : Nat) (bs : List Nat) (j : Nat) : pl e (x :: bs) (j + 2) = pl e bs (j + 1) := by
  simp [pl]

/-- A tells what stands ahead of each one of the ring, B what stands behind -/
structure Rg (A B : Nat → Nat) (e : Nat) (bs : List Nat) : Prop where
  nd : (e :: bs).Nodup
  b : ∀ i, i ≤ bs.length → B (pl e bs i) = pl e bs (i + 1)
  a : ∀ i, i ≤ bs.length → A (pl e bs (i + 1)) = pl e bs i
/-- one by itself -/
theorem Rg.one (e : Nat) {A B : Nat → Nat} (ha : A e = e) (hb : B e = e) : Rg A B e [] :=
  ⟨by simp, fun i hi => by cases Nat.le_zero.1 hi; simpa [pl] using hb, fun i hi => by cases Nat.le_zero.1 hi; simpa [pl] using ha⟩
theorem Rg.end_b {A B : Nat → Nat} {e : Nat} {bs : List Nat} (h : Rg A B e bs) : B e = pl e bs 1 := h.b 0 (Nat.zero_le _)
theorem Rg.end_a {A B : Nat → Nat} {e : Nat} {bs : List Nat} (h : Rg A B e bs) : A e = pl e bs bs.length := by
  have := h.a bs.length (Nat.le_refl _); rwa [pl_last] at this
theorem Rg.mem_a {A B : Nat → Nat} {e : Nat} {bs : List Nat} (h : Rg A B e bs) {x : Nat} (hx : x ∈ e :: bs) : A x ∈ e :: bs := by
  rcases List.mem_cons.1 hx with rfl | hx
  · rw [h.end_a]; exact pl_mem _ _ _
  · obtain ⟨i, hi, rfl⟩ := List.mem_iff_getElem.1 hx
    have := h.a i (by omega)
    rw [pl_succ, List.getD_eq_getElem?_getD, List.getElem?_eq_getElem hi] at this
    rw [show A bs[i] = pl e bs i from this]; exact pl_mem _ _ _
theorem Rg.mem_b {A B : Nat → Nat} {e : Nat} {bs : List Nat} (h : Rg A B e bs) {x : Nat} (hx : x ∈ e :: bs) : B x ∈ e :: bs := by
  obtain ⟨i, hi, rfl⟩ := List.mem_iff_getElem.1 hx
  have := h.b i (by simp at hi; omega)
  unfold pl at this
  rw [List.getD_eq_getElem?_getD, List.getElem?_eq_getElem hi] at this
  rw [show B (e :: bs)[i] = pl e bs (i + 1) from this]; exact pl_mem _ _ _

/-- one leaves the ring -/
theorem Rg.leave {A B : Nat → Nat} {e : Nat} {bs : List Nat} (h : Rg A B e bs) {i : Nat} (hi : i < bs.length) :
    Rg (upd A (B (bs.getD i e)) (A (bs.getD i e))) (upd B (A (bs.getD i e)) (B (bs.getD i e))) e (bs.eraseIdx i) := by
  have hx : bs.getD i e = pl e bs (i + 1) := (pl_succ e bs i).symm
  rw [hx, h.a i (by omega), h.b (i + 1) (by omega)]
  have hl : (bs.eraseIdx i).length = bs.length - 1 := by rw [List.length_eraseIdx, if_pos hi]
  refine ⟨?_, fun j hj => ?_, fun j hj => ?_⟩
  · exact List.Nodup.sublist (List.Sublist.cons_cons e (List.eraseIdx_sublist bs i)) h.nd
  · rw [hl] at hj
    rw [pl_erase, pl_erase]
    by_cases h1 : j < i
    · rw [if_pos (by omega), if_pos (by omega), upd_other _ _ (fun q => by have := pl_inj h.nd (by omega) (by omega) q; omega)]
      exact h.b j (by omega)
    · by_cases h2 : j = i
      · subst h2
        rw [if_pos (Nat.le_refl _), if_neg (by omega), upd_same]
      · rw [if_neg (by omega), if_neg (by omega), upd_other _ _ (fun q => by have := pl_inj h.nd (by omega) (by omega) q; omega)]
        exact h.b (j + 1) (by omega)
  · rw [hl] at hj
    rw [pl_erase, pl_erase]
    by_cases h1 : j < i
    · rw [if_pos (by omega), if_pos (by omega), upd_other _ _ (fun q => by have := pl_inj' h.nd (by omega) (by omega) q; omega)]
      exact h.a j (by omega)
    · by_cases h2 : j = i
      · subst h2
        rw [if_neg (by omega), if_pos (Nat.le_refl _), upd_same]
      · rw [if_neg (by omega), if_neg (by omega), upd_other _ _ (fun q => by have := pl_inj' h.nd (by omega) (by omega) q; omega)]
        exact h.a (j + 1) (by omega)
/-- one comes into it, right behind its end -/
theorem Rg.follow {A B : Nat → Nat} {e : Nat} {bs : List Nat} (h : Rg A B e bs) {x : Nat} (hx : x ∉ e :: bs) :
    Rg (upd (upd A x e) (B e) x) (upd (upd B x (B e)) e x) e (x :: bs) := by
  have hxe : x ≠ e := fun q => hx (by rw [q]; simp)
  have hnot : ∀ i, pl e bs i ≠ x := fun i q => hx (by rw [← q]; exact pl_mem e bs i)
  have h1 : pl e (x :: bs) 1 = x := by simp [pl]
  rw [h.end_b]
  refine ⟨?_, fun j hj => ?_, fun j hj => ?_⟩
  · have := h.nd
    simp only [List.nodup_cons, List.mem_cons, not_or] at this hx ⊢
    exact ⟨⟨Ne.symm hxe, this.1⟩, hx.2, this.2⟩
  · rw [List.length_cons] at hj
    match j, hj with
    | 0, _ => rw [pl_zero, upd_same, h1]
    | 1, _ => rw [h1, upd_other _ _ hxe, upd_same, pl_cons]
    | k + 2, hj =>
      rw [pl_cons, upd_other _ _ (fun q => by have := pl_inj h.nd (i := k + 1) (j := 0) (by omega) (by omega) q; omega), upd_other _ _ (hnot _), show k + 2 + 1 = (k + 1) + 2 from rfl, pl_cons]
      exact h.b (k + 1) (by omega)
  · rw [List.length_cons] at hj
    match j, hj with
    | 0, _ => rw [Nat.zero_add, h1, upd_other _ _ (Ne.symm (hnot 1)), upd_same, pl_zero]
    | 1, _ => rw [show 1 + 1 = 0 + 2 from rfl, pl_cons, upd_same, h1]
    | k + 2, hj =>
      rw [show k + 2 + 1 = (k + 1) + 2 from rfl, pl_cons, pl_cons, upd_other _ _ (fun q => by have := pl_inj' h.nd (i := k + 1) (j := 0) (by omega) (by omega) q; omega), upd_other _ _ (hnot _)]
      exact h.a (k + 1) (by omega)
/-- what the others say does not count -/
theorem Rg.congr {A B A' B' : Nat → Nat} {e : Nat} {bs : List Nat} (h : Rg A B e bs) (ha : ∀ x ∈ e :: bs, A' x = A x) (hb : ∀ x ∈ e :: bs, B' x = B x) : Rg A' B' e bs :=
  ⟨h.nd, fun i hi => by rw [hb _ (pl_mem e bs i)]; exact h.b i hi, fun i hi => by rw [ha _ (pl_mem e bs _)]; exact h.a i hi⟩
end Lr
end Go.Proofs.Ytmmhfkohfijlaaa
