import Derived.Test.YtdgkhjgnjfgnlaaGreatRows
namespace Go.Proofs.YtdgkhjgnjfgnlaaGreat
structure Dr where
 safe : List (List UInt8)
 spoilt : List Bool
 writes : Nat → List (List UInt8)
 dead : Bool
 goes : Bool
 left : Nat
namespace Dr
def n (D : Dr) : Nat := D.safe.length
structure Ok (D : Dr) : Prop where
 pos : 1 ≤ D.safe.length
 le : D.safe.length ≤ 4096
 spoilt : D.spoilt.length = D.safe.length
 sector : ∀ s ∈ D.safe, s.length = 64
 writes : ∀ i, ∀ s ∈ D.writes i, s.length = 64
 out : ∀ i, D.safe.length ≤ i → D.writes i = []
 left : D.left ≤ 9223372036854775807
def runsE (D : Dr) : Nat := if D.dead then 40 else if D.goes && D.left == 0 then 42 else 0
def hasB (D : Dr) (i : Int) : Bool := decide (0 ≤ i) && decide (i < (D.safe.length : Int))
def reachE (D : Dr) (i : Int) : Nat := if D.runsE = 0 then (if D.hasB i then 0 else 70) else D.runsE
def takeE (D : Dr) (i : Int) (m : Nat) : Nat := if D.reachE i = 0 then (if m = 64 then 0 else 1) else D.reachE i
def last (D : Dr) (i : Nat) : List UInt8 := if D.writes i = [] then D.safe.getD i [] else (D.writes i).getD ((D.writes i).length - 1) []
def spend (D : Dr) : Dr := { D with left := if D.goes then D.left - 1 else D.left }
def put (D : Dr) (i : Nat) (s : List UInt8) : Dr := { D with writes := fun j => if j = i then D.writes i ++ [s] else D.writes j, spoilt := D.spoilt.set i false }
def write (D : Dr) (i : Nat) (s : List UInt8) : Dr := (D.put i s).spend
def busy (D : Dr) : List Nat := (List.range D.safe.length).filter fun i => !(D.writes i).isEmpty
def step (D : Dr) (K : Nat → Nat → Nat) (S : List (List UInt8)) (k : Nat) : List (List UInt8) :=
 let i := D.busy.getD k 0
 let c := K k (D.writes i).length
 if 0 < c then S.set i ((D.writes i).getD (c - 1) []) else S
def safeAt (D : Dr) (K : Nat → Nat → Nat) : Nat → List (List UInt8)
 | 0 => D.safe
 | k + 1 => D.step K (D.safeAt K k) k
def settle (D : Dr) (K : Nat → Nat → Nat) : Dr := { D with safe := D.safeAt K D.busy.length, writes := fun _ => [] }
def flush (D : Dr) : Dr := (D.settle fun _ c => c).spend
def keeps (keep : List Nat) (k c : Nat) : Nat := if keep.length = 0 then 0 else keep.getD (k % keep.length) 0 % (c + 1)
def crash (D : Dr) (keep : List Nat) : Dr := { D.settle (keeps keep) with goes := false, left := 0 }
def off (D : Dr) (after : Int) : Dr := { D with goes := true, left := after.toNat }
def die (D : Dr) : Dr := { D with dead := true }
def spoil (D : Dr) (i : Nat) : Dr := { D with spoilt := D.spoilt.set i true }
def change (D : Dr) (i : Nat) (s : List UInt8) : Dr := { D with safe := D.safe.set i s, writes := fun j => if j = i then [] else D.writes j }
def fresh (n : Nat) : Dr := { safe := List.replicate n (List.replicate 64 0), spoilt := List.replicate n false, writes := fun _ => [], dead := false, goes := false, left := 0 }
def pending (D : Dr) : Nat := ((List.range D.safe.length).map fun i => (D.writes i).length).sum
theorem busy_mem {D : Dr} {i : Nat} : i ∈ D.busy ↔ i < D.safe.length ∧ D.writes i ≠ [] := by
 simp [busy]
theorem busy_nodup (D : Dr) : D.busy.Nodup := List.Pairwise.filter _ (List.nodup_range)
theorem busy_sorted (D : Dr) : D.busy.Pairwise (· < ·) := List.Pairwise.filter _ (List.pairwise_lt_range)
theorem busy_length_le (D : Dr) : D.busy.length ≤ D.safe.length := by
 have := List.length_filter_le (fun i => !(D.writes i).isEmpty) (List.range D.safe.length)
 rwa [List.length_range] at this
theorem busy_getD_mem {D : Dr} {k : Nat} (h : k < D.busy.length) : D.busy.getD k 0 ∈ D.busy := by
 rw [List.getD_eq_getElem?_getD, List.getElem?_eq_getElem h]; exact List.getElem_mem h
theorem safeAt_length (D : Dr) (K : Nat → Nat → Nat) : ∀ k, (D.safeAt K k).length = D.safe.length
 | 0 => rfl
 | k + 1 => by
  show (D.step K (D.safeAt K k) k).length = _
  unfold step; dsimp only; split
  ·rw [List.length_set, safeAt_length D K k]
  ·exact safeAt_length D K k
theorem getD_mem {α : Type} {l : List α} {i : Nat} {d : α} (h : i < l.length) : l.getD i d ∈ l := by
 rw [List.getD_eq_getElem?_getD, List.getElem?_eq_getElem h]; exact List.getElem_mem h
theorem safeAt_sector {D : Dr} (ok : D.Ok) (K : Nat → Nat → Nat) (hK : ∀ k c, K k c ≤ c) : ∀ k, ∀ s ∈ D.safeAt K k, s.length = 64
 | 0 => ok.sector
 | k + 1 => by
  intro s hs
  have hs' : s ∈ D.step K (D.safeAt K k) k := hs
  unfold step at hs'; dsimp only at hs'
  split at hs'
  ·rcases List.mem_or_eq_of_mem_set hs' with h | h
   ·exact safeAt_sector ok K hK k s h
   ·rename_i hc
    subst h
    have h1 := hK k (D.writes (D.busy.getD k 0)).length
    exact ok.writes _ _ (getD_mem (by omega))
  ·exact safeAt_sector ok K hK k s hs'
theorem safeAt_get {D : Dr} (K : Nat → Nat → Nat) (i : Nat) (hi : i < D.safe.length) : ∀ k, k ≤ D.busy.length →
    (D.safeAt K k).getD i [] = D.safe.getD i [] ∧ (∀ j, j < k → D.busy.getD j 0 ≠ i) ∨
    ∃ j, j < k ∧ D.busy.getD j 0 = i ∧ (D.safeAt K k).getD i [] = if 0 < K j (D.writes i).length then (D.writes i).getD (K j (D.writes i).length - 1) [] else D.safe.getD i []
  | 0, _ => .inl ⟨rfl, fun j h => absurd h (Nat.not_lt_zero _)⟩
  | k + 1, hk => by
    have hstep : D.safeAt K (k + 1) = D.step K (D.safeAt K k) k := rfl
    have hlen := safeAt_length D K k
    have inj : ∀ j, j < k → D.busy.getD j 0 ≠ D.busy.getD k 0 := fun j hj => by
      have := (List.pairwise_iff_getElem.1 D.busy_sorted) j k (by omega) (by omega) hj
      simp only [List.getD_eq_getElem?_getD, List.getElem?_eq_getElem (show j < D.busy.length by omega), List.getElem?_eq_getElem (show k < D.busy.length by omega), Option.getD_some]
      omega
    by_cases e : D.busy.getD k 0 = i
    · refine .inr ⟨k, by omega, e, ?_⟩
      have h0 : (D.safeAt K k).getD i [] = D.safe.getD i [] := by
        rcases safeAt_get K i hi k (by omega) with h | ⟨j, hj, hji, _⟩
        · exact h.1
        · exact absurd (hji.trans e.symm) (inj j hj)
      rw [hstep]; unfold step; dsimp only; rw [e]
      split
      · rw [List.getD_eq_getElem?_getD, List.getElem?_set_self (by omega)]; rfl
      · exact h0
    · have hst : (D.safeAt K (k + 1)).getD i [] = (D.safeAt K k).getD i [] := by
        rw [hstep]; unfold step; dsimp only
        split
        · rw [List.getD_eq_getElem?_getD, List.getElem?_set_ne e, ← List.getD_eq_getElem?_getD]
        · rfl
      rw [hst]
      rcases safeAt_get K i hi k (by omega) with ⟨h1, h2⟩ | ⟨j, hj, hji, h⟩
      · refine .inl ⟨h1, fun j hj => ?_⟩
        by_cases ej : j = k
        · subst ej; exact e
        · exact h2 j (by omega)
      · exact .inr ⟨j, by omega, hji, h⟩
theorem settle_idle {D : Dr} (K : Nat → Nat → Nat) {i : Nat} (hi : i < D.safe.length) (h : D.writes i = []) : (D.settle K).safe.getD i [] = D.safe.getD i [] := by
 rcases safeAt_get K i hi D.busy.length (Nat.le_refl _) with h1 | ⟨j, hj, hji, _⟩
 ·exact h1.1
 ·have := busy_getD_mem hj
  rw [hji] at this
  exact absurd h (busy_mem.1 this).2
theorem settle_busy {D : Dr} (K : Nat → Nat → Nat) {i : Nat} (hi : i < D.safe.length) (h : D.writes i ≠ []) :
  ∃ j, D.busy.getD j 0 = i ∧ j < D.busy.length ∧ (D.settle K).safe.getD i [] = if 0 < K j (D.writes i).length then (D.writes i).getD (K j (D.writes i).length - 1) [] else D.safe.getD i [] := by
 rcases safeAt_get K i hi D.busy.length (Nat.le_refl _) with ⟨_, h2⟩ | ⟨j, hj, hji, h1⟩
 ·have hm : i ∈ D.busy := busy_mem.2 ⟨hi, h⟩
  obtain ⟨j, hj, e⟩ := List.mem_iff_getElem.1 hm
  refine absurd ?_ (h2 j hj)
  rw [List.getD_eq_getElem?_getD, List.getElem?_eq_getElem hj, e]; rfl
 ·exact ⟨j, hji, hj, h1⟩
theorem Ok.spend {D : Dr} (h : D.Ok) : D.spend.Ok :=
 ⟨h.pos, h.le, h.spoilt, h.sector, h.writes, h.out, by have := h.left; show (if D.goes then D.left - 1 else D.left) ≤ _; split <;> omega⟩
theorem Ok.put {D : Dr} (h : D.Ok) {i : Nat} {s : List UInt8} (hi : i < D.safe.length) (hs : s.length = 64) : (D.put i s).Ok :=
  ⟨h.pos, h.le, by show (D.spoilt.set i false).length = _; rw [List.length_set]; exact h.spoilt, h.sector, fun j t ht => by
      have ht' : t ∈ (if j = i then D.writes i ++ [s] else D.writes j) := ht
      split at ht'
      · rcases List.mem_append.1 ht' with h1 | h1
        · exact h.writes _ _ h1
        · simp at h1; rw [h1]; exact hs
      · exact h.writes _ _ ht', fun j hj => by
      show (if j = i then D.writes i ++ [s] else D.writes j) = []
      rw [if_neg (by have : D.safe.length ≤ j := hj; omega)]; exact h.out j hj, h.left⟩
theorem Ok.settle {D : Dr} (h : D.Ok) (K : Nat → Nat → Nat) (hK : ∀ k c, K k c ≤ c) : (D.settle K).Ok := by
 have hl : (D.settle K).safe.length = D.safe.length := safeAt_length D K _
 exact ⟨by rw [hl]; exact h.pos, by rw [hl]; exact h.le, by rw [hl]; exact h.spoilt, safeAt_sector h K hK _, fun i s hs => absurd hs List.not_mem_nil, fun i _ => rfl, h.left⟩
theorem Ok.fresh {n : Nat} (h1 : 1 ≤ n) (h2 : n ≤ 4096) : (Dr.fresh n).Ok :=
  ⟨by simpa [Dr.fresh] using h1, by simpa [Dr.fresh] using h2, by simp [Dr.fresh], fun s hs => by
      have : s = List.replicate 64 0 := List.eq_of_mem_replicate hs
      rw [this]; simp, fun i s hs => absurd hs List.not_mem_nil, fun i _ => rfl, by simp [Dr.fresh]⟩
end Dr
end Go.Proofs.YtdgkhjgnjfgnlaaGreat
