/- Numbers as bytes, in plain lists. Nothing of the program stands here. -/
import Derived.Test.YtmikllmpinciiaaDoorKit
namespace Go.Proofs.YtmikllmpinciiaaDoor.Pk
def may (x : Int) : Bool := decide (1 ≤ x) && decide (x ≤ 8)
theorem may_iff (x : Int) : may x = true ↔ 1 ≤ x ∧ x ≤ 8 := by simp [may]
def fits (n : Nat) (x : Int) : Bool := may x && decide (n < 256 ^ x.toNat)
theorem fits_iff (n : Nat) (x : Int) : fits n x = true ↔ (1 ≤ x ∧ x ≤ 8) ∧ n < 256 ^ x.toNat := by simp [fits, may]
/-- the width at a place -/
def wd (ws : List Int) (j : Nat) : Nat := (ws.getD j 0).toNat
/-- how many bytes stand ahead of number i -/
def offs (ws : List Int) : Nat → Nat
  | 0 => 0
  | i + 1 => offs ws i + wd ws i
def okW (ws : List Int) : Bool := decide (ws.length ≤ 64) && ws.all may
def sizeE (ws : List Int) : Int := bif okW ws then 0 else 1
def sizeN (ws : List Int) : Int := bif okW ws then (offs ws ws.length : Nat) else 0
theorem okW_len {ws : List Int} (h : okW ws = true) : ws.length ≤ 64 := by simp [okW] at h; exact h.1
theorem okW_at {ws : List Int} (h : okW ws = true) {j : Nat} (hj : j < ws.length) : 1 ≤ ws.getD j 0 ∧ ws.getD j 0 ≤ 8 := by
  simp [okW] at h
  have := h.2 ws[j] (List.getElem_mem hj)
  rw [may_iff] at this
  simpa [List.getD_eq_getElem?_getD, List.getElem?_eq_getElem hj] using this
theorem okW_of {ws : List Int} (h1 : ws.length ≤ 64) (h2 : ∀ j, j < ws.length → 1 ≤ ws.getD j 0 ∧ ws.getD j 0 ≤ 8) : okW ws = true := by
  simp only [okW, Bool.and_eq_true, decide_eq_true_eq, List.all_eq_true]
  refine ⟨h1, fun x hx => ?_⟩
  obtain ⟨j, hj, rfl⟩ := List.getElem_of_mem hx
  rw [may_iff]
  simpa [List.getD_eq_getElem?_getD, List.getElem?_eq_getElem hj] using h2 j hj
theorem okW_not {ws : List Int} {j : Nat} (hj : j < ws.length) (h : may (ws.getD j 0) = false) : okW ws = false := by
  cases e : okW ws with
  | false => rfl
  | true => rw [(may_iff _).2 (okW_at e hj)] at h; cases h
theorem okW_long {ws : List Int} (h : 64 < ws.length) : okW ws = false := by
  cases e : okW ws with
  | false => rfl
  | true => have := okW_len e; omega
theorem sizeE_yes {ws : List Int} (h : okW ws = true) : sizeE ws = 0 := by simp [sizeE, h]
theorem sizeE_no {ws : List Int} (h : okW ws = false) : sizeE ws = 1 := by simp [sizeE, h]
theorem sizeN_yes {ws : List Int} (h : okW ws = true) : sizeN ws = (offs ws ws.length : Nat) := by simp [sizeN, h]
theorem sizeN_no {ws : List Int} (h : okW ws = false) : sizeN ws = 0 := by simp [sizeN, h]
theorem wd_le {ws : List Int} (h : okW ws = true) {j : Nat} (hj : j < ws.length) : 1 ≤ wd ws j ∧ wd ws j ≤ 8 ∧ (wd ws j : Int) = ws.getD j 0 := by
  have := okW_at h hj
  unfold wd; omega
theorem offs_le {ws : List Int} (h : okW ws = true) {i : Nat} (hi : i ≤ ws.length) : offs ws i ≤ 8 * i := by
  induction i with
  | zero => exact Nat.le_refl _
  | succ i ih =>
    have h1 := ih (by omega)
    have h2 := wd_le h (show i < ws.length by omega)
    show offs ws i + wd ws i ≤ _
    omega
theorem offs_mono (ws : List Int) {i j : Nat} (h : i ≤ j) : offs ws i ≤ offs ws j := by
  induction h with
  | refl => exact Nat.le_refl _
  | step _ ih => exact Nat.le_trans ih (Nat.le_add_right _ _)
/-- bytes of one number -/
def byteAt (n k : Nat) : UInt8 := UInt8.ofNat (n / 256 ^ k)
theorem byteAt_toNat (n k : Nat) : (byteAt n k).toNat = n / 256 ^ k % 256 := by simp [byteAt]
def bytesOf (n k : Nat) : List UInt8 := (List.range k).map (byteAt n)
theorem bytesOf_succ (n k : Nat) : bytesOf n (k + 1) = bytesOf n k ++ [byteAt n k] := by simp [bytesOf, List.range_succ]
theorem bytesOf_length (n k : Nat) : (bytesOf n k).length = k := by simp [bytesOf]
/-- the bytes ahead of byte k of number i -/
def encP (l : List Nat) (ws : List Int) (i k : Nat) : List UInt8 := ((List.range i).flatMap fun j => bytesOf (l.getD j 0) (wd ws j)) ++ bytesOf (l.getD i 0) k
theorem encP_zero (l : List Nat) (ws : List Int) : encP l ws 0 0 = [] := rfl
theorem encP_succ (l : List Nat) (ws : List Int) (i k : Nat) : encP l ws i (k + 1) = encP l ws i k ++ [byteAt (l.getD i 0) k] := by
  unfold encP; rw [bytesOf_succ, List.append_assoc]
theorem encP_next (l : List Nat) (ws : List Int) (i : Nat) : encP l ws i (wd ws i) = encP l ws (i + 1) 0 := by
  simp [encP, List.range_succ, bytesOf]
theorem encP_length (l : List Nat) (ws : List Int) (i k : Nat) : (encP l ws i k).length = offs ws i + k := by
  unfold encP
  rw [List.length_append, bytesOf_length]
  congr 1
  induction i with
  | zero => rfl
  | succ i ih => rw [List.range_succ, List.flatMap_append, List.length_append, ih]; simp [bytesOf_length]; rfl
def fitAll (l : List Nat) (ws : List Int) : Bool := (List.range ws.length).all fun j => fits (l.getD j 0) (ws.getD j 0)
theorem fitAll_iff (l : List Nat) (ws : List Int) : fitAll l ws = true ↔ ∀ j, j < ws.length → fits (l.getD j 0) (ws.getD j 0) = true := by
  simp [fitAll]
theorem fitAll_not {l : List Nat} {ws : List Int} {j : Nat} (hj : j < ws.length) (h : fits (l.getD j 0) (ws.getD j 0) = false) : fitAll l ws = false := by
  cases e : fitAll l ws with
  | false => rfl
  | true => rw [(fitAll_iff _ _).1 e j hj] at h; cases h
def encE (l : List Nat) (ws : List Int) : Int := bif okW ws then (bif l.length == ws.length then (bif fitAll l ws then 0 else 30) else 1) else 1
def enc (l : List Nat) (ws : List Int) : List UInt8 := bif okW ws && (l.length == ws.length) && fitAll l ws then encP l ws ws.length 0 else []
def encS (l : List Nat) (ws : List Int) : ByteArray := ⟨(enc l ws).toArray⟩
theorem encE_yes {l : List Nat} {ws : List Int} (h1 : okW ws = true) (h2 : l.length = ws.length) (h3 : fitAll l ws = true) : encE l ws = 0 := by simp [encE, h1, h2, h3]
theorem encE_unfit {l : List Nat} {ws : List Int} (h1 : okW ws = true) (h2 : l.length = ws.length) (h3 : fitAll l ws = false) : encE l ws = 30 := by simp [encE, h1, h2, h3]
theorem encE_count {l : List Nat} {ws : List Int} (h1 : okW ws = true) (h2 : l.length ≠ ws.length) : encE l ws = 1 := by simp [encE, h1, beq_false_of_ne h2]
theorem encE_size {l : List Nat} {ws : List Int} (h1 : okW ws = false) : encE l ws = 1 := by simp [encE, h1]
theorem enc_yes {l : List Nat} {ws : List Int} (h1 : okW ws = true) (h2 : l.length = ws.length) (h3 : fitAll l ws = true) : enc l ws = encP l ws ws.length 0 := by simp [enc, h1, h2, h3]
theorem enc_unfit {l : List Nat} {ws : List Int} (h3 : fitAll l ws = false) : enc l ws = [] := by simp [enc, h3]
theorem enc_count {l : List Nat} {ws : List Int} (h2 : l.length ≠ ws.length) : enc l ws = [] := by simp [enc, beq_false_of_ne h2]
theorem enc_size {l : List Nat} {ws : List Int} (h1 : okW ws = false) : enc l ws = [] := by simp [enc, h1]
theorem encS_size {l : List Nat} {ws : List Int} (h1 : okW ws = true) (h2 : l.length = ws.length) (h3 : fitAll l ws = true) : (encS l ws).size = offs ws ws.length := by
  show (enc l ws).toArray.size = _
  rw [enc_yes h1 h2 h3, List.size_toArray, encP_length]; rfl
/-- the number of which k bytes stand from o on -/
def num (s : List UInt8) (o : Nat) : Nat → Nat
  | 0 => 0
  | k + 1 => num s o k + (s.getD (o + k) 0).toNat * 256 ^ k
theorem num_lt (s : List UInt8) (o k : Nat) : num s o k < 256 ^ k := by
  induction k with
  | zero => simp [num]
  | succ k ih =>
    have := (s.getD (o + k) 0).toNat_lt
    have h2 : (s.getD (o + k) 0).toNat * 256 ^ k ≤ 255 * 256 ^ k := Nat.mul_le_mul_right _ (by omega)
    show num s o k + _ < 256 ^ k * 256
    omega
theorem pow256 (k : Nat) : 256 ^ k = 2 ^ (8 * k) := by rw [Nat.pow_mul]
theorem num_or (s : List UInt8) (o k : Nat) : num s o k ||| (s.getD (o + k) 0).toNat <<< (8 * k) = num s o (k + 1) := by
  have h := num_lt s o k
  rw [pow256] at h
  rw [Nat.or_comm, ← Nat.shiftLeft_add_eq_or_of_lt h, Nat.shiftLeft_eq]
  show _ = num s o k + _ * 256 ^ k
  rw [pow256]; omega
theorem num_byte (s : List UInt8) (o k j : Nat) (h : j < k) : num s o k / 256 ^ j % 256 = (s.getD (o + j) 0).toNat := by
  induction k with
  | zero => omega
  | succ k ih =>
    show (num s o k + (s.getD (o + k) 0).toNat * 256 ^ k) / 256 ^ j % 256 = _
    by_cases e : j = k
    · subst e
      rw [Nat.add_mul_div_right _ _ (Nat.pow_pos (by decide)), Nat.div_eq_of_lt (num_lt s o j), Nat.zero_add]
      exact Nat.mod_eq_of_lt (s.getD (o + j) 0).toNat_lt
    · obtain ⟨d, rfl⟩ : ∃ d, k = j + 1 + d := ⟨k - (j + 1), by omega⟩
      have e2 : (s.getD (o + (j + 1 + d)) 0).toNat * 256 ^ (j + 1 + d) = 256 * ((s.getD (o + (j + 1 + d)) 0).toNat * 256 ^ d) * 256 ^ j := by
        rw [Nat.pow_add, Nat.pow_succ]; simp only [Nat.mul_comm, Nat.mul_left_comm, Nat.mul_assoc]
      rw [e2, Nat.add_mul_div_right _ _ (Nat.pow_pos (by decide)), Nat.add_mul_mod_self_left]
      exact ih (by omega)
def decE (s : List UInt8) (ws : List Int) : Int := bif okW ws then (bif s.length == offs ws ws.length then 0 else 31) else 1
def dec (s : List UInt8) (ws : List Int) : List Nat := bif okW ws && (s.length == offs ws ws.length) then (List.range ws.length).map fun i => num s (offs ws i) (wd ws i) else []
theorem decE_yes {s : List UInt8} {ws : List Int} (h1 : okW ws = true) (h2 : s.length = offs ws ws.length) : decE s ws = 0 := by simp [decE, h1, h2]
theorem decE_short {s : List UInt8} {ws : List Int} (h1 : okW ws = true) (h2 : s.length ≠ offs ws ws.length) : decE s ws = 31 := by simp [decE, h1, beq_false_of_ne h2]
theorem decE_size {s : List UInt8} {ws : List Int} (h1 : okW ws = false) : decE s ws = 1 := by simp [decE, h1]
theorem dec_yes {s : List UInt8} {ws : List Int} (h1 : okW ws = true) (h2 : s.length = offs ws ws.length) : dec s ws = (List.range ws.length).map fun i => num s (offs ws i) (wd ws i) := by simp [dec, h1, h2]
theorem dec_short {s : List UInt8} {ws : List Int} (h2 : s.length ≠ offs ws ws.length) : dec s ws = [] := by simp [dec, beq_false_of_ne h2]
theorem dec_size {s : List UInt8} {ws : List Int} (h1 : okW ws = false) : dec s ws = [] := by simp [dec, h1]
theorem dec_length {s : List UInt8} {ws : List Int} (h1 : okW ws = true) (h2 : s.length = offs ws ws.length) : (dec s ws).length = ws.length := by rw [dec_yes h1 h2]; simp
theorem dec_at {s : List UInt8} {ws : List Int} (h1 : okW ws = true) (h2 : s.length = offs ws ws.length) {i : Nat} (hi : i < ws.length) : (dec s ws).getD i 0 = num s (offs ws i) (wd ws i) := by rw [dec_yes h1 h2]; simp [hi]
theorem pow256_le {k : Nat} (h : k ≤ 8) : 256 ^ k ≤ 18446744073709551616 := by
  have := Nat.pow_le_pow_right (show 256 > 0 by decide) h
  exact Nat.le_trans this (by decide)
theorem dec_lt (s : List UInt8) (ws : List Int) (j : Nat) : (dec s ws).getD j 0 < 18446744073709551616 := by
  by_cases h : okW ws = true ∧ s.length = offs ws ws.length
  · by_cases hj : j < ws.length
    · rw [dec_at h.1 h.2 hj]
      exact Nat.lt_of_lt_of_le (num_lt _ _ _) (pow256_le (wd_le h.1 hj).2.1)
    · rw [List.getD_eq_getElem?_getD, List.getElem?_eq_none (by rw [dec_length h.1 h.2]; omega)]; decide
  · have : dec s ws = [] := by
      cases e : okW ws with
      | false => exact dec_size e
      | true => exact dec_short fun e2 => h ⟨e, e2⟩
    rw [this]; simp
/-- a byte of what is packed -/
theorem encP_get (l : List Nat) (ws : List Int) (m i k : Nat) (hi : i < m) (hk : k < wd ws i) : (encP l ws m 0).getD (offs ws i + k) 0 = byteAt (l.getD i 0) k := by
  have key : ∀ d, encP l ws (i + 1 + d) 0 = encP l ws i 0 ++ bytesOf (l.getD i 0) (wd ws i) ++ (encP l ws (i + 1 + d) 0).drop (offs ws i + wd ws i) := by
    intro d
    induction d with
    | zero =>
      have e : encP l ws (i + 1 + 0) 0 = encP l ws i 0 ++ bytesOf (l.getD i 0) (wd ws i) := by
        rw [Nat.add_zero, ← encP_next]; simp [encP, bytesOf]
      have hl : (encP l ws (i + 1 + 0) 0).length = offs ws i + wd ws i := by rw [encP_length]; rfl
      rw [List.drop_of_length_le (by omega), List.append_nil, e]
    | succ d ih =>
      have e : encP l ws (i + 1 + (d + 1)) 0 = encP l ws (i + 1 + d) 0 ++ bytesOf (l.getD (i + 1 + d) 0) (wd ws (i + 1 + d)) := by
        rw [← Nat.add_assoc, ← encP_next]; simp [encP, bytesOf]
      have hl : offs ws i + wd ws i ≤ (encP l ws (i + 1 + d) 0).length := by rw [encP_length]; exact offs_mono ws (show i + 1 ≤ i + 1 + d by omega)
      rw [e, List.drop_append_of_le_length hl, ← List.append_assoc, ← ih]
  obtain ⟨d, rfl⟩ : ∃ d, m = i + 1 + d := ⟨m - (i + 1), by omega⟩
  have hl : (encP l ws i 0).length = offs ws i := by rw [encP_length]; rfl
  rw [key d, List.append_assoc, List.getD_eq_getElem?_getD, List.getElem?_append_right (by omega), hl, Nat.add_sub_cancel_left, List.getElem?_append_left (by rw [bytesOf_length]; exact hk)]
  simp [bytesOf, hk]
/-- what was packed is unpacked -/
theorem num_enc (l : List Nat) (ws : List Int) (m i k : Nat) (hi : i < m) (hk : k ≤ wd ws i) : num (encP l ws m 0) (offs ws i) k = l.getD i 0 % 256 ^ k := by
  induction k with
  | zero => simp [num, Nat.mod_one]
  | succ k ih =>
    show num _ _ k + _ * 256 ^ k = _
    rw [ih (by omega), encP_get l ws m i k hi (by omega), byteAt_toNat, Nat.pow_succ, Nat.mod_mul]
    rw [Nat.mul_comm (256 ^ k)]
theorem fit_at {l : List Nat} {ws : List Int} (h : fitAll l ws = true) {j : Nat} (hj : j < ws.length) : l.getD j 0 < 256 ^ wd ws j := ((fits_iff _ _).1 ((fitAll_iff _ _).1 h j hj)).2
theorem dec_enc {l : List Nat} {ws : List Int} (h1 : okW ws = true) (h2 : l.length = ws.length) (h3 : fitAll l ws = true) : dec (enc l ws) ws = l := by
  have hl : (encP l ws ws.length 0).length = offs ws ws.length := by rw [encP_length]; rfl
  rw [enc_yes h1 h2 h3, dec_yes h1 hl]
  apply List.ext_getElem
  · simp [h2]
  · intro i hi hi2
    have hiw : i < ws.length := by omega
    simp only [List.getElem_map, List.getElem_range]
    rw [num_enc l ws _ i _ hiw (Nat.le_refl _), Nat.mod_eq_of_lt (fit_at h3 hiw), List.getD_eq_getElem?_getD, List.getElem?_eq_getElem hi2]; rfl
theorem ext_getD {a b : List UInt8} (h : a.length = b.length) (hj : ∀ j, j < a.length → a.getD j 0 = b.getD j 0) : a = b := by
  apply List.ext_getElem h
  intro i h1 h2
  have := hj i h1
  rw [List.getD_eq_getElem?_getD, List.getD_eq_getElem?_getD, List.getElem?_eq_getElem h1, List.getElem?_eq_getElem h2] at this
  exact this
theorem place_of (ws : List Int) (m j : Nat) (h : j < offs ws m) : ∃ i k, i < m ∧ k < wd ws i ∧ j = offs ws i + k := by
  induction m with
  | zero => exact absurd h (Nat.not_lt_zero _)
  | succ m ih =>
    by_cases h2 : j < offs ws m
    · obtain ⟨i, k, hi, hk, e⟩ := ih h2; exact ⟨i, k, by omega, hk, e⟩
    · have h3 : j < offs ws m + wd ws m := h
      exact ⟨m, j - offs ws m, by omega, by omega, by omega⟩
/-- what was unpacked fits, and is packed to the same bytes -/
theorem dec_fit {s : List UInt8} {ws : List Int} (h1 : okW ws = true) (h2 : s.length = offs ws ws.length) : fitAll (dec s ws) ws = true := by
  rw [fitAll_iff]
  intro j hj
  rw [fits_iff, dec_at h1 h2 hj]
  exact ⟨okW_at h1 hj, num_lt _ _ _⟩
theorem enc_dec {s : List UInt8} {ws : List Int} (h1 : okW ws = true) (h2 : s.length = offs ws ws.length) : enc (dec s ws) ws = s := by
  rw [enc_yes h1 (dec_length h1 h2) (dec_fit h1 h2)]
  have hl : (encP (dec s ws) ws ws.length 0).length = offs ws ws.length := by rw [encP_length]; rfl
  apply ext_getD (by rw [hl, h2])
  intro j hj
  obtain ⟨i, k, hi, hk, rfl⟩ := place_of ws ws.length j (by omega)
  rw [encP_get _ _ _ i k hi hk, dec_at h1 h2 hi]
  apply UInt8.toNat_inj.1
  rw [byteAt_toNat, num_byte _ _ _ _ hk]
end Go.Proofs.YtmikllmpinciiaaDoor.Pk
