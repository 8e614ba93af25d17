/- A drive of four sectors that are written in turn, and flushed once: what each of them may hold. -/
import Derived.Test.YtpflfdbkndomfaaDrvFirst
namespace Go.Proofs.Ytpflfdbkndomfaa
open Go.RowKit Go.Maps

/-- the i-th text, filled up -/
def gAt (l : List ByteArray) (i : Nat) : List UInt8 := (fullB (l.getD i ByteArray.empty)).data.toList
theorem gAt_length (l : List ByteArray) (i : Nat) : (gAt l i).length = 64 := fullL_length _
namespace Dr
/-- x is what a sector j may hold that was flushed behind the k-th write: the last one of its turn ahead of k, or nothing but bytes 0 -/
def LastIs (l : List ByteArray) (k j : Nat) (x : List UInt8) : Prop :=
  (∃ i, i < k ∧ i % 4 = j ∧ (∀ i', i < i' → i' < k → i' % 4 ≠ j) ∧ x = gAt l i) ∨ ((∀ i, i < k → i % 4 ≠ j) ∧ x = List.replicate 64 0)
theorem LastIs.skip {l : List ByteArray} {k j : Nat} {x : List UInt8} (h : LastIs l k j x) (hk : k % 4 ≠ j) : LastIs l (k + 1) j x := by
  rcases h with ⟨i, h1, h2, h3, h4⟩ | ⟨h1, h2⟩
  · refine .inl ⟨i, by omega, h2, fun i' ha hb => ?_, h4⟩
    by_cases e : i' = k
    · subst e; exact hk
    · exact h3 i' ha (by omega)
  · refine .inr ⟨fun i hi => ?_, h2⟩
    by_cases e : i = k
    · subst e; exact hk
    · exact h1 i (by omega)
theorem LastIs.hit (l : List ByteArray) {k j : Nat} (hk : k % 4 = j) : LastIs l (k + 1) j (gAt l k) :=
  .inl ⟨k, by omega, hk, fun i' ha hb => by omega, rfl⟩

structure Four (D : Dr) : Prop where
  live : D.Live 4
  spoilt : ∀ j, D.spoilt.getD j false = false
/-- ahead of the flush: k writes were done -/
structure Pre (l : List ByteArray) (D : Dr) (k : Nat) : Prop where
  four : D.Four
  last : ∀ j, j < 4 → LastIs l k j (D.last j)
  lens : ∀ j, (D.writes j).length ≤ k
/-- behind the flush, which came behind the write n -/
structure Post (l : List ByteArray) (n : Nat) (D : Dr) (k : Nat) : Prop where
  four : D.Four
  safe : ∀ j, j < 4 → LastIs l (n + 1) j (D.safe.getD j [])
  writes : ∀ j, j < 4 → ∀ t ∈ D.writes j, ∃ i, n < i ∧ i < k ∧ i % 4 = j ∧ t = gAt l i
  lens : ∀ j, (D.writes j).length ≤ k
theorem Pre.start (l : List ByteArray) : Pre l (Dr.fresh 4) 0 :=
  ⟨⟨Live.fresh 4, fresh_spoilt 4⟩, fun j hj => .inr ⟨fun i hi => absurd hi (Nat.not_lt_zero _), by unfold Dr.last; exact (if_pos rfl).trans (fresh_safe hj)⟩, fun j => Nat.zero_le _⟩
theorem put_last_other (D : Dr) {i j : Nat} (s : List UInt8) (h : j ≠ i) : (D.put i s).last j = D.last j := by
  unfold Dr.last; rw [put_other _ _ h]; rfl
theorem put_lens {D : Dr} {k : Nat} (h : ∀ j, (D.writes j).length ≤ k) (i : Nat) (s : List UInt8) (j : Nat) : ((D.put i s).writes j).length ≤ k + 1 := by
  by_cases e : j = i
  · subst e; rw [put_same, List.length_append]; have := h j; simp; omega
  · rw [put_other _ _ e]; have := h j; omega
theorem Four.put {D : Dr} (h : D.Four) (i : Nat) (s : List UInt8) : (D.put i s).Four := ⟨h.live.put _ _, fun j => put_spoilt _ _ _ (h.spoilt j)⟩
theorem Four.settle {D : Dr} (h : D.Four) (K : Nat → Nat → Nat) : (D.settle K).Four := ⟨h.live.settle _, h.spoilt⟩
theorem Pre.put {l : List ByteArray} {D : Dr} {k : Nat} (h : Pre l D k) : Pre l (D.put (k % 4) (gAt l k)) (k + 1) := by
  refine ⟨h.four.put _ _, fun j hj => ?_, put_lens h.lens _ _⟩
  by_cases e : j = k % 4
  · subst e; rw [put_last]; exact LastIs.hit l rfl
  · rw [put_last_other _ _ e]; exact (h.last j hj).skip (fun e' => e e'.symm)
theorem Pre.flush {l : List ByteArray} {D : Dr} {n : Nat} (h : Pre l D (n + 1)) : Post l n (D.settle fun _ c => c) (n + 1) :=
  ⟨h.four.settle _, fun j hj => by rw [flush_one h.four.live hj]; exact h.last j hj, fun j _ t ht => absurd ht List.not_mem_nil, fun j => Nat.zero_le _⟩
theorem Post.put {l : List ByteArray} {n : Nat} {D : Dr} {k : Nat} (h : Post l n D k) (hk : n < k) : Post l n (D.put (k % 4) (gAt l k)) (k + 1) := by
  refine ⟨h.four.put _ _, h.safe, fun j hj t ht => ?_, put_lens h.lens _ _⟩
  by_cases e : j = k % 4
  · subst e
    rw [put_same] at ht
    rcases List.mem_append.1 ht with h1 | h1
    · obtain ⟨i, a, b, c, d⟩ := h.writes _ hj t h1; exact ⟨i, a, by omega, c, d⟩
    · simp at h1; exact ⟨k, hk, by omega, rfl, h1⟩
  · rw [put_other _ _ e] at ht
    obtain ⟨i, a, b, c, d⟩ := h.writes _ hj t ht; exact ⟨i, a, by omega, c, d⟩
/-- what a sector may hold in the end -/
def EndIs (l : List ByteArray) (n L j : Nat) (x : List UInt8) : Prop :=
  (∃ i, i < L ∧ i % 4 = j ∧ (∀ i', i < i' → i' ≤ n → i' % 4 ≠ j) ∧ x = gAt l i) ∨ (n < j ∧ x = List.replicate 64 0)
theorem EndIs.of_last {l : List ByteArray} {n L j : Nat} {x : List UInt8} (h : LastIs l (n + 1) j x) (hL : n < L) (hj : j < 4) : EndIs l n L j x := by
  rcases h with ⟨i, a, b, c, d⟩ | ⟨a, b⟩
  · exact .inl ⟨i, by omega, b, fun i' e f => c i' e (by omega), d⟩
  · refine .inr ⟨?_, b⟩
    by_cases e : n < j
    · exact e
    · exact absurd (Nat.mod_eq_of_lt hj) (a j (by omega))
theorem Post.crash {l : List ByteArray} {n : Nat} {D : Dr} {L : Nat} (h : Post l n D L) (hL : n < L) (keep : List Nat) : (D.crash keep).Four ∧ (∀ j, j < 4 → EndIs l n L j ((D.crash keep).safe.getD j [])) ∧ ∀ j, (D.crash keep).writes j = [] := by
  refine ⟨⟨⟨h.four.live.dead, rfl, (safeAt_length D _ _).trans h.four.live.len⟩, h.four.spoilt⟩, fun j hj => ?_, fun j => rfl⟩
  have e : (D.crash keep).safe = (D.settle (keeps keep)).safe := rfl
  rw [e]
  by_cases hw : D.writes j = []
  · rw [settle_idle _ (by rw [h.four.live.len]; exact hj) hw]
    exact EndIs.of_last (h.safe j hj) hL hj
  · obtain ⟨q, _, _, hq⟩ := settle_busy (keeps keep) (by rw [h.four.live.len]; exact hj) hw
    rw [hq]
    split
    · rename_i h0
      have hle := keeps_le keep q (D.writes j).length
      obtain ⟨i, a, b, c, d⟩ := h.writes j hj _ (getD_mem (i := keeps keep q (D.writes j).length - 1) (d := []) (by omega))
      exact .inl ⟨i, b, c, fun i' e f => by omega, d⟩
    · exact EndIs.of_last (h.safe j hj) hL hj
theorem quiet_last {D : Dr} {j : Nat} (h : D.writes j = []) : D.last j = D.safe.getD j [] := by unfold Dr.last; rw [if_pos h]
theorem quiet_pending {D : Dr} (h : ∀ j, D.writes j = []) : D.pending = 0 := by
  unfold Dr.pending
  have : ∀ n, ((List.range n).map fun i => (D.writes i).length).sum = 0 := fun n => by
    induction n with
    | zero => rfl
    | succ n ih => rw [List.range_succ, List.map_append, List.sum_append, ih]; simp [h n]
  exact this _
end Dr
end Go.Proofs.Ytpflfdbkndomfaa
