/- A list of keys, plainly: each with how often it is pinned, the one that was wanted last first; what each call answers, and what it leaves. -/
import Derived.Test.YtmmhfkohfijlaaaLrRing
namespace Go.Proofs.Ytmmhfkohfijlaaa
namespace Lr

abbrev L := List (Int × Nat)
/-- the place of a key; no place: it is not there -/
def idx (l : L) (k : Int) : Nat := l.findIdx fun x => x.1 == k
def has (l : L) (k : Int) : Bool := decide (idx l k < l.length)
/-- how often it is pinned -/
def pins (l : L) (k : Int) : Nat := (l.getD (idx l k) (0, 0)).2
/-- the one at i is wanted -/
def front (l : L) (i : Nat) : L := l.getD i (0, 0) :: l.eraseIdx i
def get (l : L) (k : Int) : L := if idx l k < l.length then front l (idx l k) else l
/-- how many are pinned at the end -/
def held (l : L) : Nat := l.reverse.findIdx fun x => x.2 == 0
/-- the one that goes -/
def old (l : L) : Nat := l.length - 1 - held l
def putE (room : Nat) (l : L) (k : Int) : Nat := if idx l k < l.length then 0 else if l.length < room then 0 else if held l < l.length then 0 else 130
def putW (room : Nat) (l : L) (k : Int) : Bool := if idx l k < l.length then false else if l.length < room then false else decide (held l < l.length)
def putG (room : Nat) (l : L) (k : Int) : Int := if idx l k < l.length then 0 else if l.length < room then 0 else if held l < l.length then (l.getD (old l) (0, 0)).1 else 0
def put (room : Nat) (l : L) (k : Int) : L := if idx l k < l.length then front l (idx l k) else if l.length < room then (k, 0) :: l else if held l < l.length then (k, 0) :: l.eraseIdx (old l) else l
/-- the one at i is pinned so often -/
def pinTo (l : L) (i n : Nat) : L := l.set i ((l.getD i (0, 0)).1, n)
def pinE (l : L) (k : Int) : Nat := if idx l k < l.length then 0 else 3
def pin (l : L) (k : Int) : L := if idx l k < l.length then pinTo l (idx l k) (pins l k + 1) else l
def unpinE (l : L) (k : Int) : Nat := if idx l k < l.length then (if pins l k = 0 then 5 else 0) else 3
def unpin (l : L) (k : Int) : L := if idx l k < l.length then (if pins l k = 0 then l else pinTo l (idx l k) (pins l k - 1)) else l
def dropE (l : L) (k : Int) : Nat := if idx l k < l.length then (if pins l k = 0 then 0 else 5) else 3
def drop (l : L) (k : Int) : L := if idx l k < l.length then (if pins l k = 0 then l.eraseIdx (idx l k) else l) else l
def keys (l : L) : List Int := l.map (·.1)

theorem idx_le (l : L) (k : Int) : idx l k ≤ l.length := List.findIdx_le_length
theorem idx_key {l : L} {k : Int} (h : idx l k < l.length) : (l.getD (idx l k) (0, 0)).1 = k := by
  have := List.findIdx_getElem (xs := l) (p := fun x : Int × Nat => x.1 == k) (w := h)
  rw [List.getD_eq_getElem?_getD, List.getElem?_eq_getElem h]
  exact eq_of_beq this
theorem idx_before {l : L} {k : Int} {i : Nat} (h : i < idx l k) : (l.getD i (0, 0)).1 ≠ k := by
  have hl : i < l.length := Nat.lt_of_lt_of_le h (idx_le l k)
  have := List.not_of_lt_findIdx (xs := l) (p := fun x : Int × Nat => x.1 == k) h
  rw [List.getD_eq_getElem?_getD, List.getElem?_eq_getElem hl]
  simpa using this
theorem pins_out {l : L} {k : Int} (h : ¬ idx l k < l.length) : pins l k = 0 := by
  unfold pins
  rw [List.getD_eq_getElem?_getD, List.getElem?_eq_none (by omega)]; rfl
theorem keys_length (l : L) : (keys l).length = l.length := by simp [keys]
theorem keys_at (l : L) {i : Nat} (h : i < l.length) : (keys l).getD i 0 = (l.getD i (0, 0)).1 := by
  simp [keys, List.getD_eq_getElem?_getD, List.getElem?_map, List.getElem?_eq_getElem h]
/-- keys are apart: a key's place is the one at which it stands -/
theorem idx_at {l : L} (hn : (keys l).Nodup) {i : Nat} (h : i < l.length) : idx l (l.getD i (0, 0)).1 = i := by
  have hlt : idx l (l.getD i (0, 0)).1 ≤ i := Nat.le_of_not_lt fun hlt => idx_before hlt rfl
  have h2 := idx_key (l := l) (k := (l.getD i (0, 0)).1) (by omega)
  obtain ⟨j, hj⟩ : ∃ j, j = idx l (l.getD i (0, 0)).1 := ⟨_, rfl⟩
  rw [← hj] at h2 hlt ⊢
  have hjl : j < (keys l).length := by rw [keys_length]; omega
  have hil : i < (keys l).length := by rw [keys_length]; omega
  rw [← keys_at l (show j < l.length by omega), ← keys_at l h, List.getD_eq_getElem?_getD, List.getD_eq_getElem?_getD, List.getElem?_eq_getElem hjl, List.getElem?_eq_getElem hil] at h2
  exact nodup_at hn hjl hil h2
theorem has_iff {l : L} {k : Int} : idx l k < l.length ↔ k ∈ keys l := by
  unfold idx keys
  rw [List.findIdx_lt_length]
  simp
theorem held_le (l : L) : held l ≤ l.length := by have := List.findIdx_le_length (xs := l.reverse) (p := fun x : Int × Nat => x.2 == 0); rwa [List.length_reverse] at this
theorem held_pinned {l : L} {j : Nat} (h : j < held l) : (l.getD (l.length - 1 - j) (0, 0)).2 ≠ 0 := by
  have hl := held_le l
  have := List.not_of_lt_findIdx (xs := l.reverse) (p := fun x : Int × Nat => x.2 == 0) h
  rw [List.getElem_reverse] at this
  rw [List.getD_eq_getElem?_getD, List.getElem?_eq_getElem (by omega)]
  simpa using this
theorem held_free {l : L} (h : held l < l.length) : (l.getD (old l) (0, 0)).2 = 0 := by
  have := List.findIdx_getElem (xs := l.reverse) (p := fun x : Int × Nat => x.2 == 0) (w := by rw [List.length_reverse]; exact h)
  rw [List.getElem_reverse] at this
  unfold old held
  rw [List.getD_eq_getElem?_getD, List.getElem?_eq_getElem (by have := held_le l; omega)]
  simpa using this
theorem front_length {l : L} {i : Nat} (h : i < l.length) : (front l i).length = l.length := by
  unfold front; rw [List.length_cons, List.length_eraseIdx, if_pos h]; omega
end Lr
end Go.Proofs.Ytmmhfkohfijlaaa
