/- Several texts in one. Numbers as bytes, in plain lists. Nothing of the program stands here. The checksum in plain Nats: a step is linear over exclusive or, and loses nothing. Nothing of the program stands here. What a page is, and what stands in its sector: plain. What a record is, its head and its load, and what the bytes of a sector tell: plain. -/
import Derived.Test.YtjmeiifogblmoaaGreatDoorMKitA
namespace Go.Proofs.YtjmeiifogblmoaaGreatDoor.Pk
def may (x : Int) : Bool := decide (1 ≤ x) && decide (x ≤ 8)
theorem may_iff (x : Int) : may x = true ↔ 1 ≤ x ∧ x ≤ 8 := by simp [may]
def fits (n : Nat) (x : Int) : Bool := may x && decide (n < 256 ^ x.toNat)
theorem fits_iff (n : Nat) (x : Int) : fits n x = true ↔ (1 ≤ x ∧ x ≤ 8) ∧ n < 256 ^ x.toNat := by simp [fits, may]
/-- the width at a place -/
def wd (ws : List Int) (j : Nat) : Nat := (ws.getD j 0).toNat
/-- how many bytes stand ahead of number i -/
def offs (ws : List Int) : Nat → Nat
  | 0 => 0
  | i + 1 => offs ws i + wd ws i
def okW (ws : List Int) : Bool := decide (ws.length ≤ 64) && ws.all may
def sizeE (ws : List Int) : Int := bif okW ws then 0 else 1
def sizeN (ws : List Int) : Int := bif okW ws then (offs ws ws.length : Nat) else 0
theorem okW_len {ws : List Int} (h : okW ws = true) : ws.length ≤ 64 := by simp [okW] at h; exact h.1
theorem okW_at {ws : List Int} (h : okW ws = true) {j : Nat} (hj : j < ws.length) : 1 ≤ ws.getD j 0 ∧ ws.getD j 0 ≤ 8 := by
  simp [okW] at h
  have := h.2 ws[j] (List.getElem_mem hj)
  rw [may_iff] at this
  simpa [List.getD_eq_getElem?_getD, List.getElem?_eq_getElem hj] using this
theorem okW_of {ws : List Int} (h1 : ws.length ≤ 64) (h2 : ∀ j, j < ws.length → 1 ≤ ws.getD j 0 ∧ ws.getD j 0 ≤ 8) : okW ws = true := by
  simp only [okW, Bool.and_eq_true, decide_eq_true_eq, List.all_eq_true]
  refine ⟨h1, fun x hx => ?_⟩
  obtain ⟨j, hj, rfl⟩ := List.getElem_of_mem hx
  rw [may_iff]
  simpa [List.getD_eq_getElem?_getD, List.getElem?_eq_getElem hj] using h2 j hj
theorem okW_not {ws : List Int} {j : Nat} (hj : j < ws.length) (h : may (ws.getD j 0) = false) : okW ws = false := by
  cases e : okW ws with
  | false => rfl
  | true => rw [(may_iff _).2 (okW_at e hj)] at h; cases h
theorem okW_long {ws : List Int} (h : 64 < ws.length) : okW ws = false := by
  cases e : okW ws with
  | false => rfl
  | true => have := okW_len e; omega
theorem sizeE_yes {ws : List Int} (h : okW ws = true) : sizeE ws = 0 := by simp [sizeE, h]
theorem sizeE_no {ws : List Int} (h : okW ws = false) : sizeE ws = 1 := by simp [sizeE, h]
theorem sizeN_yes {ws : List Int} (h : okW ws = true) : sizeN ws = (offs ws ws.length : Nat) := by simp [sizeN, h]
theorem sizeN_no {ws : List Int} (h : okW ws = false) : sizeN ws = 0 := by simp [sizeN, h]
theorem wd_le {ws : List Int} (h : okW ws = true) {j : Nat} (hj : j < ws.length) : 1 ≤ wd ws j ∧ wd ws j ≤ 8 ∧ (wd ws j : Int) = ws.getD j 0 := by
  have := okW_at h hj
  unfold wd; omega
theorem offs_le {ws : List Int} (h : okW ws = true) {i : Nat} (hi : i ≤ ws.length) : offs ws i ≤ 8 * i := by
  induction i with
  | zero => exact Nat.le_refl _
  | succ i ih =>
    have h1 := ih (by omega)
    have h2 := wd_le h (show i < ws.length by omega)
    show offs ws i + wd ws i ≤ _
    omega
theorem offs_mono (ws : List Int) {i j : Nat} (h : i ≤ j) : offs ws i ≤ offs ws j := by
  induction h with
  | refl => exact Nat.le_refl _
  | step _ ih => exact Nat.le_trans ih (Nat.le_add_right _ _)
/-- bytes of one number -/
def byteAt (n k : Nat) : UInt8 := UInt8.ofNat (n / 256 ^ k)
theorem byteAt_toNat (n k : Nat) : (byteAt n k).toNat = n / 256 ^ k % 256 := by simp [byteAt]
def bytesOf (n k : Nat) : List UInt8 := (List.range k).map (byteAt n)
theorem bytesOf_succ (n k : Nat) : bytesOf n (k + 1) = bytesOf n k ++ [byteAt n k] := by simp [bytesOf, List.range_succ]
theorem bytesOf_length (n k : Nat) : (bytesOf n k).length = k := by simp [bytesOf]
/-- the bytes ahead of byte k of number i -/
def encP (l : List Nat) (ws : List Int) (i k : Nat) : List UInt8 := ((List.range i).flatMap fun j => bytesOf (l.getD j 0) (wd ws j)) ++ bytesOf (l.getD i 0) k
theorem encP_zero (l : List Nat) (ws : List Int) : encP l ws 0 0 = [] := rfl
theorem encP_succ (l : List Nat) (ws : List Int) (i k : Nat) : encP l ws i (k + 1) = encP l ws i k ++ [byteAt (l.getD i 0) k] := by
  unfold encP; rw [bytesOf_succ, List.append_assoc]
theorem encP_next (l : List Nat) (ws : List Int) (i : Nat) : encP l ws i (wd ws i) = encP l ws (i + 1) 0 := by
  simp [encP, List.range_succ, bytesOf]
theorem encP_length (l : List Nat) (ws : List Int) (i k : Nat) : (encP l ws i k).length = offs ws i + k := by
  unfold encP
  rw [List.length_append, bytesOf_length]
  congr 1
  induction i with
  | zero => rfl
  | succ i ih => rw [List.range_succ, List.flatMap_append, List.length_append, ih]; simp [bytesOf_length]; rfl
def fitAll (l : List Nat) (ws : List Int) : Bool := (List.range ws.length).all fun j => fits (l.getD j 0) (ws.getD j 0)
theorem fitAll_iff (l : List Nat) (ws : List Int) : fitAll l ws = true ↔ ∀ j, j < ws.length → fits (l.getD j 0) (ws.getD j 0) = true := by
  simp [fitAll]
theorem fitAll_not {l : List Nat} {ws : List Int} {j : Nat} (hj : j < ws.length) (h : fits (l.getD j 0) (ws.getD j 0) = false) : fitAll l ws = false := by
  cases e : fitAll l ws with
  | false => rfl
  | true => rw [(fitAll_iff _ _).1 e j hj] at h; cases h
def encE (l : List Nat) (ws : List Int) : Int := bif okW ws then (bif l.length == ws.length then (bif fitAll l ws then 0 else 30) else 1) else 1
def enc (l : List Nat) (ws : List Int) : List UInt8 := bif okW ws && (l.length == ws.length) && fitAll l ws then encP l ws ws.length 0 else []
def encS (l : List Nat) (ws : List Int) : ByteArray := ⟨(enc l ws).toArray⟩
theorem encE_yes {l : List Nat} {ws : List Int} (h1 : okW ws = true) (h2 : l.length = ws.length) (h3 : fitAll l ws = true) : encE l ws = 0 := by simp [encE, h1, h2, h3]
theorem encE_unfit {l : List Nat} {ws : List Int} (h1 : okW ws = true) (h2 : l.length = ws.length) (h3 : fitAll l ws = false) : encE l ws = 30 := by simp [encE, h1, h2, h3]
theorem encE_count {l : List Nat} {ws : List Int} (h1 : okW ws = true) (h2 : l.length ≠ ws.length) : encE l ws = 1 := by simp [encE, h1, beq_false_of_ne h2]
theorem encE_size {l : List Nat} {ws : List Int} (h1 : okW ws = false) : encE l ws = 1 := by simp [encE, h1]
theorem enc_yes {l : List Nat} {ws : List Int} (h1 : okW ws = true) (h2 : l.length = ws.length) (h3 : fitAll l ws = true) : enc l ws = encP l ws ws.length 0 := by simp [enc, h1, h2, h3]
theorem enc_unfit {l : List Nat} {ws : List Int} (h3 : fitAll l ws = false) : enc l ws = [] := by simp [enc, h3]
theorem enc_count {l : List Nat} {ws : List Int} (h2 : l.length ≠ ws.length) : enc l ws = [] := by simp [enc, beq_false_of_ne h2]
theorem enc_size {l : List Nat} {ws : List Int} (h1 : okW ws = false) : enc l ws = [] := by simp [enc, h1]
theorem encS_size {l : List Nat} {ws : List Int} (h1 : okW ws = true) (h2 : l.length = ws.length) (h3 : fitAll l ws = true) : (encS l ws).size = offs ws ws.length := by
  show (enc l ws).toArray.size = _
  rw [enc_yes h1 h2 h3, List.size_toArray, encP_length]; rfl
/-- the number of which k bytes stand from o on -/
def num (s : List UInt8) (o : Nat) : Nat → Nat
  | 0 => 0
  | k + 1 => num s o k + (s.getD (o + k) 0).toNat * 256 ^ k
theorem num_lt (s : List UInt8) (o k : Nat) : num s o k < 256 ^ k := by
  induction k with
  | zero => simp [num]
  | succ k ih =>
    have := (s.getD (o + k) 0).toNat_lt
    have h2 : (s.getD (o + k) 0).toNat * 256 ^ k ≤ 255 * 256 ^ k := Nat.mul_le_mul_right _ (by omega)
    show num s o k + _ < 256 ^ k * 256
    omega
theorem pow256 (k : Nat) : 256 ^ k = 2 ^ (8 * k) := by rw [Nat.pow_mul]
theorem num_or (s : List UInt8) (o k : Nat) : num s o k ||| (s.getD (o + k) 0).toNat <<< (8 * k) = num s o (k + 1) := by
  have h := num_lt s o k
  rw [pow256] at h
  rw [Nat.or_comm, ← Nat.shiftLeft_add_eq_or_of_lt h, Nat.shiftLeft_eq]
  show _ = num s o k + _ * 256 ^ k
  rw [pow256]; omega
theorem num_byte (s : List UInt8) (o k j : Nat) (h : j < k) : num s o k / 256 ^ j % 256 = (s.getD (o + j) 0).toNat := by
  induction k with
  | zero => omega
  | succ k ih =>
    show (num s o k + (s.getD (o + k) 0).toNat * 256 ^ k) / 256 ^ j % 256 = _
    by_cases e : j = k
    · subst e
      rw [Nat.add_mul_div_right _ _ (Nat.pow_pos (by decide)), Nat.div_eq_of_lt (num_lt s o j), Nat.zero_add]
      exact Nat.mod_eq_of_lt (s.getD (o + j) 0).toNat_lt
    · obtain ⟨d, rfl⟩ : ∃ d, k = j + 1 + d := ⟨k - (j + 1), by omega⟩
      have e2 : (s.getD (o + (j + 1 + d)) 0).toNat * 256 ^ (j + 1 + d) = 256 * ((s.getD (o + (j + 1 + d)) 0).toNat * 256 ^ d) * 256 ^ j := by
        rw [Nat.pow_add, Nat.pow_succ]; simp only [Nat.mul_comm, Nat.mul_left_comm, Nat.mul_assoc]
      rw [e2, Nat.add_mul_div_right _ _ (Nat.pow_pos (by decide)), Nat.add_mul_mod_self_left]
      exact ih (by omega)
def decE (s : List UInt8) (ws : List Int) : Int := bif okW ws then (bif s.length == offs ws ws.length then 0 else 31) else 1
def dec (s : List UInt8) (ws : List Int) : List Nat := bif okW ws && (s.length == offs ws ws.length) then (List.range ws.length).map fun i => num s (offs ws i) (wd ws i) else []
theorem decE_yes {s : List UInt8} {ws : List Int} (h1 : okW ws = true) (h2 : s.length = offs ws ws.length) : decE s ws = 0 := by simp [decE, h1, h2]
theorem decE_short {s : List UInt8} {ws : List Int} (h1 : okW ws = true) (h2 : s.length ≠ offs ws ws.length) : decE s ws = 31 := by simp [decE, h1, beq_false_of_ne h2]
theorem decE_size {s : List UInt8} {ws : List Int} (h1 : okW ws = false) : decE s ws = 1 := by simp [decE, h1]
theorem dec_yes {s : List UInt8} {ws : List Int} (h1 : okW ws = true) (h2 : s.length = offs ws ws.length) : dec s ws = (List.range ws.length).map fun i => num s (offs ws i) (wd ws i) := by simp [dec, h1, h2]
theorem dec_short {s : List UInt8} {ws : List Int} (h2 : s.length ≠ offs ws ws.length) : dec s ws = [] := by simp [dec, beq_false_of_ne h2]
theorem dec_size {s : List UInt8} {ws : List Int} (h1 : okW ws = false) : dec s ws = [] := by simp [dec, h1]
theorem dec_length {s : List UInt8} {ws : List Int} (h1 : okW ws = true) (h2 : s.length = offs ws ws.length) : (dec s ws).length = ws.length := by rw [dec_yes h1 h2]; simp
theorem dec_at {s : List UInt8} {ws : List Int} (h1 : okW ws = true) (h2 : s.length = offs ws ws.length) {i : Nat} (hi : i < ws.length) : (dec s ws).getD i 0 = num s (offs ws i) (wd ws i) := by rw [dec_yes h1 h2]; simp [hi]
theorem pow256_le {k : Nat} (h : k ≤ 8) : 256 ^ k ≤ 18446744073709551616 := by
  have := Nat.pow_le_pow_right (show 256 > 0 by decide) h
  exact Nat.le_trans this (by decide)
theorem dec_lt (s : List UInt8) (ws : List Int) (j : Nat) : (dec s ws).getD j 0 < 18446744073709551616 := by
  by_cases h : okW ws = true ∧ s.length = offs ws ws.length
  · by_cases hj : j < ws.length
    · rw [dec_at h.1 h.2 hj]
      exact Nat.lt_of_lt_of_le (num_lt _ _ _) (pow256_le (wd_le h.1 hj).2.1)
    · rw [List.getD_eq_getElem?_getD, List.getElem?_eq_none (by rw [dec_length h.1 h.2]; omega)]; decide
  · have : dec s ws = [] := by
      cases e : okW ws with
      | false => exact dec_size e
      | true => exact dec_short fun e2 => h ⟨e, e2⟩
    rw [this]; simp
/-- a byte of what is packed -/
theorem encP_get (l : List Nat) (ws : List Int) (m i k : Nat) (hi : i < m) (hk : k < wd ws i) : (encP l ws m 0).getD (offs ws i + k) 0 = byteAt (l.getD i 0) k := by
  have key : ∀ d, encP l ws (i + 1 + d) 0 = encP l ws i 0 ++ bytesOf (l.getD i 0) (wd ws i) ++ (encP l ws (i + 1 + d) 0).drop (offs ws i + wd ws i) := by
    intro d
    induction d with
    | zero =>
      have e : encP l ws (i + 1 + 0) 0 = encP l ws i 0 ++ bytesOf (l.getD i 0) (wd ws i) := by
        rw [Nat.add_zero, ← encP_next]; simp [encP, bytesOf]
      have hl : (encP l ws (i + 1 + 0) 0).length = offs ws i + wd ws i := by rw [encP_length]; rfl
      rw [List.drop_of_length_le (by omega), List.append_nil, e]
    | succ d ih =>
      have e : encP l ws (i + 1 + (d + 1)) 0 = encP l ws (i + 1 + d) 0 ++ bytesOf (l.getD (i + 1 + d) 0) (wd ws (i + 1 + d)) := by
        rw [← Nat.add_assoc, ← encP_next]; simp [encP, bytesOf]
      have hl : offs ws i + wd ws i ≤ (encP l ws (i + 1 + d) 0).length := by rw [encP_length]; exact offs_mono ws (show i + 1 ≤ i + 1 + d by omega)
      rw [e, List.drop_append_of_le_length hl, ← List.append_assoc, ← ih]
  obtain ⟨d, rfl⟩ : ∃ d, m = i + 1 + d := ⟨m - (i + 1), by omega⟩
  have hl : (encP l ws i 0).length = offs ws i := by rw [encP_length]; rfl
  rw [key d, List.append_assoc, List.getD_eq_getElem?_getD, List.getElem?_append_right (by omega), hl, Nat.add_sub_cancel_left, List.getElem?_append_left (by rw [bytesOf_length]; exact hk)]
  simp [bytesOf, hk]
/-- what was packed is unpacked -/
theorem num_enc (l : List Nat) (ws : List Int) (m i k : Nat) (hi : i < m) (hk : k ≤ wd ws i) : num (encP l ws m 0) (offs ws i) k = l.getD i 0 % 256 ^ k := by
  induction k with
  | zero => simp [num, Nat.mod_one]
  | succ k ih =>
    show num _ _ k + _ * 256 ^ k = _
    rw [ih (by omega), encP_get l ws m i k hi (by omega), byteAt_toNat, Nat.pow_succ, Nat.mod_mul]
    rw [Nat.mul_comm (256 ^ k)]
theorem fit_at {l : List Nat} {ws : List Int} (h : fitAll l ws = true) {j : Nat} (hj : j < ws.length) : l.getD j 0 < 256 ^ wd ws j := ((fits_iff _ _).1 ((fitAll_iff _ _).1 h j hj)).2
theorem dec_enc {l : List Nat} {ws : List Int} (h1 : okW ws = true) (h2 : l.length = ws.length) (h3 : fitAll l ws = true) : dec (enc l ws) ws = l := by
  have hl : (encP l ws ws.length 0).length = offs ws ws.length := by rw [encP_length]; rfl
  rw [enc_yes h1 h2 h3, dec_yes h1 hl]
  apply List.ext_getElem
  · simp [h2]
  · intro i hi hi2
    have hiw : i < ws.length := by omega
    simp only [List.getElem_map, List.getElem_range]
    rw [num_enc l ws _ i _ hiw (Nat.le_refl _), Nat.mod_eq_of_lt (fit_at h3 hiw), List.getD_eq_getElem?_getD, List.getElem?_eq_getElem hi2]; rfl
theorem ext_getD {a b : List UInt8} (h : a.length = b.length) (hj : ∀ j, j < a.length → a.getD j 0 = b.getD j 0) : a = b := by
  apply List.ext_getElem h
  intro i h1 h2
  have := hj i h1
  rw [List.getD_eq_getElem?_getD, List.getD_eq_getElem?_getD, List.getElem?_eq_getElem h1, List.getElem?_eq_getElem h2] at this
  exact this
theorem place_of (ws : List Int) (m j : Nat) (h : j < offs ws m) : ∃ i k, i < m ∧ k < wd ws i ∧ j = offs ws i + k := by
  induction m with
  | zero => exact absurd h (Nat.not_lt_zero _)
  | succ m ih =>
    by_cases h2 : j < offs ws m
    · obtain ⟨i, k, hi, hk, e⟩ := ih h2; exact ⟨i, k, by omega, hk, e⟩
    · have h3 : j < offs ws m + wd ws m := h
      exact ⟨m, j - offs ws m, by omega, by omega, by omega⟩
/-- what was unpacked fits, and is packed to the same bytes -/
theorem dec_fit {s : List UInt8} {ws : List Int} (h1 : okW ws = true) (h2 : s.length = offs ws ws.length) : fitAll (dec s ws) ws = true := by
  rw [fitAll_iff]
  intro j hj
  rw [fits_iff, dec_at h1 h2 hj]
  exact ⟨okW_at h1 hj, num_lt _ _ _⟩
theorem enc_dec {s : List UInt8} {ws : List Int} (h1 : okW ws = true) (h2 : s.length = offs ws ws.length) : enc (dec s ws) ws = s := by
  rw [enc_yes h1 (dec_length h1 h2) (dec_fit h1 h2)]
  have hl : (encP (dec s ws) ws ws.length 0).length = offs ws ws.length := by rw [encP_length]; rfl
  apply ext_getD (by rw [hl, h2])
  intro j hj
  obtain ⟨i, k, hi, hk, rfl⟩ := place_of ws ws.length j (by omega)
  rw [encP_get _ _ _ i k hi hk, dec_at h1 h2 hi]
  apply UInt8.toNat_inj.1
  rw [byteAt_toNat, num_byte _ _ _ _ hk]
end Go.Proofs.YtjmeiifogblmoaaGreatDoor.Pk

namespace Go.Proofs.YtjmeiifogblmoaaGreatDoor.Crc
/-- one bit down -/
def sh (x : Nat) : Nat := if x % 2 = 1 then (x / 2) ^^^ 2197175160 else x / 2
def shN : Nat → Nat → Nat
  | 0, x => x
  | k + 1, x => shN k (sh x)
theorem xor_lt {a b : Nat} (ha : a < 4294967296) (hb : b < 4294967296) : a ^^^ b < 4294967296 := Nat.xor_lt_two_pow (n := 32) ha hb
theorem sh_lt {x : Nat} (h : x < 4294967296) : sh x < 4294967296 := by
  unfold sh; split
  · exact xor_lt (by omega) (by omega)
  · omega
theorem shN_lt (k : Nat) : ∀ {x : Nat}, x < 4294967296 → shN k x < 4294967296 := by
  induction k with
  | zero => intro x h; exact h
  | succ k ih => intro x h; exact ih (sh_lt h)
theorem xcomm4 (a b c d : Nat) : (a ^^^ b) ^^^ (c ^^^ d) = (a ^^^ c) ^^^ (b ^^^ d) := by ac_rfl
theorem sh_xor (x y : Nat) : sh (x ^^^ y) = sh x ^^^ sh y := by
  have e2 : (x ^^^ y) / 2 = x / 2 ^^^ y / 2 := by simpa using Nat.xor_div_two_pow (a := x) (b := y) (n := 1)
  have e1 : (x ^^^ y) % 2 = (x % 2) ^^^ (y % 2) := by simpa using Nat.xor_mod_two_pow (a := x) (b := y) (n := 1)
  unfold sh
  rw [e1, e2]
  rcases (by omega : x % 2 = 0 ∨ x % 2 = 1) with h | h <;> rcases (by omega : y % 2 = 0 ∨ y % 2 = 1) with h' | h' <;> simp only [h, h'] <;> simp
  · rw [Nat.xor_assoc]
  · ac_rfl
  · rw [xcomm4]; simp
theorem shN_xor (k : Nat) : ∀ (x y : Nat), shN k (x ^^^ y) = shN k x ^^^ shN k y := by
  induction k with
  | zero => intros; rfl
  | succ k ih => intro x y; show shN k (sh (x ^^^ y)) = _; rw [sh_xor, ih]; rfl
theorem shN_zero (k : Nat) : shN k 0 = 0 := by
  induction k with
  | zero => rfl
  | succ k ih => exact ih
theorem shN_add (j k x : Nat) : shN (j + k) x = shN k (shN j x) := by
  induction j generalizing x with
  | zero => rw [Nat.zero_add]; rfl
  | succ j ih => rw [Nat.add_right_comm]; exact ih (sh x)
theorem shN_succ (k x : Nat) : shN (k + 1) x = sh (shN k x) := shN_add k 1 x
theorem eq_of_xor {a b : Nat} (h : a ^^^ b = 0) : a = b := by
  have : (a ^^^ b) ^^^ b = b := by rw [h, Nat.zero_xor]
  rwa [Nat.xor_assoc, Nat.xor_self, Nat.xor_zero] at this
/-- a step loses nothing -/
theorem sh_ne {x : Nat} (h : x < 4294967296) (h0 : x ≠ 0) : sh x ≠ 0 := by
  unfold sh; split
  · intro e
    have : x / 2 = 2197175160 := eq_of_xor e
    omega
  · omega
theorem shN_ne (k : Nat) : ∀ {x : Nat}, x < 4294967296 → x ≠ 0 → shN k x ≠ 0 := by
  induction k with
  | zero => intro x _ h; exact h
  | succ k ih => intro x h h0; exact ih (sh_lt h) (sh_ne h h0)
theorem split_xor (i x : Nat) : (2 ^ i * (x / 2 ^ i)) ^^^ (x % 2 ^ i) = x := by
  have hd : ((2 ^ i * (x / 2 ^ i)) ^^^ (x % 2 ^ i)) / 2 ^ i = x / 2 ^ i := by
    rw [Nat.xor_div_two_pow, Nat.mul_div_cancel_left _ (Nat.two_pow_pos i), Nat.div_eq_of_lt (Nat.mod_lt _ (Nat.two_pow_pos i)), Nat.xor_zero]
  have hm : ((2 ^ i * (x / 2 ^ i)) ^^^ (x % 2 ^ i)) % 2 ^ i = x % 2 ^ i := by
    rw [Nat.xor_mod_two_pow, Nat.mul_mod_right, Nat.zero_xor, Nat.mod_mod]
  rw [← Nat.div_add_mod ((2 ^ i * (x / 2 ^ i)) ^^^ (x % 2 ^ i)) (2 ^ i), hd, hm, Nat.div_add_mod]
theorem sh_two (q : Nat) : sh (2 * q) = q := by
  unfold sh; rw [if_neg (by omega)]; omega
theorem shN_pow (k q : Nat) : shN k (2 ^ k * q) = q := by
  induction k generalizing q with
  | zero => simp [shN]
  | succ k ih =>
    show shN k (sh (2 ^ (k + 1) * q)) = q
    rw [Nat.pow_succ, Nat.mul_comm (2 ^ k) 2, Nat.mul_assoc, sh_two, ih]
/-- half a byte at once -/
theorem half (x : Nat) : (x / 16) ^^^ shN 4 (x % 16) = shN 4 x := by
  conv => rhs; rw [← split_xor 4 x, shN_xor, shN_pow]
/-- a text's bytes, one behind the other -/
def run (x : Nat) (l : List UInt8) : Nat := l.foldl (fun x c => shN 8 (x ^^^ c.toNat)) x
def neg (x : Nat) : Nat := 4294967295 - x
def more (n : Nat) (l : List UInt8) : Nat := neg (run (neg n) l)
theorem neg_lt (x : Nat) : neg x < 4294967296 := by unfold neg; omega
theorem neg_neg {x : Nat} (h : x < 4294967296) : neg (neg x) = x := by unfold neg; omega
theorem run_cons (x : Nat) (c : UInt8) (l : List UInt8) : run x (c :: l) = run (shN 8 (x ^^^ c.toNat)) l := rfl
theorem run_append (x : Nat) (a b : List UInt8) : run x (a ++ b) = run (run x a) b := List.foldl_append
theorem run_lt {x : Nat} (h : x < 4294967296) (l : List UInt8) : run x l < 4294967296 := by
  induction l generalizing x with
  | nil => exact h
  | cons c l ih => exact ih (shN_lt 8 (xor_lt h (by have := c.toNat_lt; omega)))
theorem more_lt (n : Nat) (l : List UInt8) : more n l < 4294967296 := neg_lt _
theorem more_append (n : Nat) (a b : List UInt8) : more (more n a) b = more n (a ++ b) := by
  unfold more; rw [neg_neg (run_lt (neg_lt n) a), run_append]
theorem more_nil {n : Nat} (h : n < 4294967296) : more n [] = n := neg_neg h
theorem shN_inj (k : Nat) {x y : Nat} (hx : x < 4294967296) (hy : y < 4294967296) (h : shN k x = shN k y) : x = y := by
  apply eq_of_xor
  apply Classical.byContradiction
  intro hne
  refine shN_ne k (xor_lt hx hy) hne ?_
  rw [shN_xor, h, Nat.xor_self]
theorem xor_cancel {a b c : Nat} (h : a ^^^ c = b ^^^ c) : a = b := by
  have : (a ^^^ c) ^^^ c = (b ^^^ c) ^^^ c := by rw [h]
  rwa [Nat.xor_assoc, Nat.xor_self, Nat.xor_zero, Nat.xor_assoc, Nat.xor_self, Nat.xor_zero] at this
theorem byte_lt (c : UInt8) : c.toNat < 4294967296 := by have := c.toNat_lt; omega
theorem run_inj (l : List UInt8) {x y : Nat} (hx : x < 4294967296) (hy : y < 4294967296) (h : run x l = run y l) : x = y := by
  induction l generalizing x y with
  | nil => exact h
  | cons c l ih =>
    have := ih (shN_lt 8 (xor_lt hx (byte_lt c))) (shN_lt 8 (xor_lt hy (byte_lt c))) h
    exact xor_cancel (shN_inj 8 (xor_lt hx (byte_lt c)) (xor_lt hy (byte_lt c)) this)
theorem neg_inj {x y : Nat} (hx : x < 4294967296) (hy : y < 4294967296) (h : neg x = neg y) : x = y := by unfold neg at h; omega
/-- one byte that is another one makes another sum -/
theorem more_one {n : Nat} (a b : List UInt8) {c d : UInt8} (h : c ≠ d) : more n (a ++ c :: b) ≠ more n (a ++ d :: b) := by
  intro e
  have hl := run_lt (neg_lt n) a
  have e1 := neg_inj (run_lt (neg_lt n) _) (run_lt (neg_lt n) _) e
  rw [run_append, run_append, run_cons, run_cons] at e1
  have e2 := run_inj b (shN_lt 8 (xor_lt hl (byte_lt c))) (shN_lt 8 (xor_lt hl (byte_lt d))) e1
  have e3 := shN_inj 8 (xor_lt hl (byte_lt c)) (xor_lt hl (byte_lt d)) e2
  rw [Nat.xor_comm _ c.toNat, Nat.xor_comm _ d.toNat] at e3
  exact h (UInt8.toNat_inj.1 (xor_cancel e3))
/-- a sum as bytes, the lowest one first -/
def fourL (n : Nat) : List UInt8 := [UInt8.ofNat (n % 256), UInt8.ofNat (n / 256 % 256), UInt8.ofNat (n / 65536 % 256), UInt8.ofNat (n / 16777216 % 256)]
theorem fourL_length (n : Nat) : (fourL n).length = 4 := rfl
/-- filled up with bytes 0 -/
def padL (l : List UInt8) (m : Nat) : List UInt8 := l ++ List.replicate (m - l.length) 0
theorem padL_length (l : List UInt8) (m : Nat) (h : l.length ≤ m) : (padL l m).length = m := by unfold padL; simp; omega
/-- sealed, and opened -/
def sealL (l : List UInt8) (size : Nat) : List UInt8 := padL l (size - 4) ++ fourL (more 0 (padL l (size - 4)))
def sealB (s : ByteArray) (size : Nat) : ByteArray := ⟨(sealL s.data.toList size).toArray⟩
def opens (l : List UInt8) : Bool := decide (4 ≤ l.length) && (l.drop (l.length - 4) == fourL (more 0 (l.take (l.length - 4))))
def headB (s : ByteArray) : ByteArray := s.extract 0 (s.size - 4)
def fits (n : Nat) (size : Int) : Bool := decide (4 ≤ size) && decide (size ≤ 4096) && decide ((n : Int) ≤ size - 4)
theorem sealL_length (l : List UInt8) (m : Nat) (h4 : 4 ≤ m) (h : l.length ≤ m - 4) : (sealL l m).length = m := by
  unfold sealL; rw [List.length_append, padL_length l _ h, fourL_length]; omega
theorem sealL_take (l : List UInt8) (m : Nat) (h : l.length ≤ m - 4) : (sealL l m).take (m - 4) = padL l (m - 4) := by
  unfold sealL; rw [List.take_append_of_le_length (by rw [padL_length l _ h]; exact Nat.le_refl _), List.take_of_length_le (by rw [padL_length l _ h]; exact Nat.le_refl _)]
theorem opens_seal (l : List UInt8) (m : Nat) (h4 : 4 ≤ m) (h : l.length ≤ m - 4) : opens (sealL l m) = true := by
  unfold opens
  rw [sealL_length l m h4 h, decide_eq_true h4, Bool.true_and, sealL_take l m h]
  have e : (sealL l m).drop (m - 4) = fourL (more 0 (padL l (m - 4))) := by
    unfold sealL
    rw [List.drop_append_of_le_length (by rw [padL_length l _ h]; exact Nat.le_refl _), List.drop_of_length_le (by rw [padL_length l _ h]; exact Nat.le_refl _), List.nil_append]
  rw [e]; simp
theorem headB_seal (s : ByteArray) (m : Nat) (h4 : 4 ≤ m) (h : s.size ≤ m - 4) : headB (sealB s m) = ⟨(padL s.data.toList (m - 4)).toArray⟩ := by
  have hl : s.data.toList.length ≤ m - 4 := by simpa using h
  have hz : (sealB s m).size = m := by
    show (sealL _ _).toArray.size = _
    rw [List.size_toArray, sealL_length _ m h4 hl]
  apply ByteArray.ext
  apply Array.toList_inj.1
  unfold headB
  rw [hz, ByteArray.data_extract, Array.toList_extract, List.extract_eq_take_drop]
  show ((sealL s.data.toList m).drop 0).take (m - 4 - 0) = padL s.data.toList (m - 4)
  rw [List.drop_zero, Nat.sub_zero, sealL_take _ m hl]
theorem not_xor' (n : Nat) (h : n < 4294967296) : 4294967295 ^^^ n = neg n := by
  apply Nat.eq_of_testBit_eq
  intro i
  have h1 : (4294967295 : Nat).testBit i = decide (i < 32) := by
    rw [show (4294967295 : Nat) = 2 ^ 32 - 1 from rfl, Nat.testBit_two_pow_sub_one]
  have h2 : (neg n).testBit i = (decide (i < 32) && !n.testBit i) := by
    rw [show neg n = 2 ^ 32 - (n + 1) from by unfold neg; omega, Nat.testBit_two_pow_sub_succ (show n < 2 ^ 32 from h)]
  rw [Nat.testBit_xor, h1, h2]
  by_cases hi : i < 32
  · simp [hi]
  · have : n.testBit i = false := Nat.testBit_lt_two_pow (Nat.lt_of_lt_of_le h (show (2 : Nat) ^ 32 ≤ 2 ^ i from Nat.pow_le_pow_right (by decide) (by omega)))
    simp [hi, this]
end Go.Proofs.YtjmeiifogblmoaaGreatDoor.Crc

namespace Go.Proofs.YtjmeiifogblmoaaGreatDoor

/-- a page: when, and which regions -/
structure Pge where
  ev : Nat
  bits : ByteArray
  deriving DecidableEq

namespace Pg
def magicB : ByteArray := ⟨#[82, 86, 84, 66]⟩
def none : Pge := ⟨0, ⟨#[]⟩⟩
/-- what is sealed -/
def bodyB (p : Pge) : ByteArray := magicB ++ Pk.encS [p.ev] [8] ++ p.bits
/-- its sector -/
def secT (p : Pge) : ByteArray := Crc.sealB (bodyB p) 64
def encE (p : Pge) : Nat := if p.bits.size = 8 then 0 else 1
def encT (p : Pge) : ByteArray := if p.bits.size = 8 then secT p else ⟨#[]⟩
/-- all behind the bits is nought -/
def restB (t : ByteArray) : Bool := (t.data.toList.drop 20).all (fun x => x == 0)
/-- what the bytes of a sector tell -/
def told (b : ByteArray) : Pge := ⟨(Pk.dec ((Crc.headB b).extract 4 12).data.toList [8]).getD 0 0, (Crc.headB b).extract 12 20⟩
def decE (b : ByteArray) : Nat := if b.size ≠ 64 then 31 else bif Crc.opens b.data.toList then (if (Crc.headB b).extract 0 4 ≠ magicB then 81 else bif restB (Crc.headB b) then 0 else 1) else 80
def decS (b : ByteArray) : Pge := if decE b = 0 then told b else none

theorem w8_ok : Pk.okW [8] = true := by decide
theorem w8_offs : Pk.offs [8] 1 = 8 := by decide
theorem fit8 {n : Nat} (h : n < 18446744073709551616) : Pk.fitAll [n] [8] = true := by
  rw [Pk.fitAll_iff]
  intro j hj
  rw [Pk.fits_iff]
  have : j = 0 := by have : j < 1 := hj; omega
  subst this
  exact ⟨by decide, h⟩
theorem enc8_size {n : Nat} (h : n < 18446744073709551616) : (Pk.encS [n] [8]).size = 8 := (Pk.encS_size w8_ok rfl (fit8 h)).trans w8_offs
theorem enc8_E {n : Nat} (h : n < 18446744073709551616) : Pk.encE [n] [8] = 0 := Pk.encE_yes w8_ok rfl (fit8 h)
theorem enc8_list (n : Nat) : (Pk.encS [n] [8]).data.toList = Pk.enc [n] [8] := by simp [Pk.encS]
theorem enc8_length {n : Nat} (h : n < 18446744073709551616) : (Pk.enc [n] [8]).length = 8 := by
  have := enc8_size h
  rw [← enc8_list]; simpa using this
theorem body_size {p : Pge} (h : p.ev < 18446744073709551616) (hb : p.bits.size = 8) : (bodyB p).size = 20 := by
  unfold bodyB
  rw [ByteArray.size_append, ByteArray.size_append, enc8_size h, hb]; rfl
theorem body_list (p : Pge) : (bodyB p).data.toList = [82, 86, 84, 66] ++ Pk.enc [p.ev] [8] ++ p.bits.data.toList := by
  unfold bodyB magicB
  rw [ByteArray.data_append, ByteArray.data_append, Array.toList_append, Array.toList_append, enc8_list]
theorem secT_list (p : Pge) : (secT p).data.toList = Crc.sealL (bodyB p).data.toList 64 := by simp [secT, Crc.sealB]
theorem list_size (b : ByteArray) : b.data.toList.length = b.size := by simp
theorem secT_size {p : Pge} (h : p.ev < 18446744073709551616) (hb : p.bits.size = 8) : (secT p).size = 64 := by
  rw [← list_size, secT_list]; exact Crc.sealL_length _ 64 (by decide) (by rw [list_size, body_size h hb]; decide)
theorem secT_opens {p : Pge} (h : p.ev < 18446744073709551616) (hb : p.bits.size = 8) : Crc.opens (secT p).data.toList = true := by
  rw [secT_list]; exact Crc.opens_seal _ 64 (by decide) (by rw [list_size, body_size h hb]; decide)
/-- a part of a text -/
theorem extract_list (b : ByteArray) (i j : Nat) : (b.extract i j).data.toList = (b.data.toList.drop i).take (j - i) := by
  rw [ByteArray.data_extract, Array.toList_extract, List.extract_eq_take_drop]
theorem eq_of_list {a b : ByteArray} (h : a.data.toList = b.data.toList) : a = b := by
  apply ByteArray.ext
  exact Array.toList_inj.1 h
theorem secT_head {p : Pge} (h : p.ev < 18446744073709551616) (hb : p.bits.size = 8) : (Crc.headB (secT p)).data.toList = [82, 86, 84, 66] ++ Pk.enc [p.ev] [8] ++ p.bits.data.toList ++ List.replicate 40 0 := by
  have hs := body_size h hb
  unfold secT
  rw [Crc.headB_seal _ 64 (by decide) (by rw [hs]; decide)]
  show Crc.padL (bodyB p).data.toList 60 = _
  unfold Crc.padL
  rw [list_size, hs, body_list]
theorem told_secT {p : Pge} (h : p.ev < 18446744073709551616) (hb : p.bits.size = 8) : told (secT p) = p := by
  have hl := enc8_length h
  have hp : p.bits.data.toList.length = 8 := by rw [list_size]; exact hb
  have e1 : ((Crc.headB (secT p)).extract 4 12).data.toList = Pk.enc [p.ev] [8] := by
    rw [extract_list, secT_head h hb, List.append_assoc, List.append_assoc, List.drop_append_of_le_length (by decide)]
    show (([] : List UInt8) ++ _).take 8 = _
    rw [List.nil_append, List.take_append_of_le_length (by omega), List.take_of_length_le (by omega)]
  have e2 : (Crc.headB (secT p)).extract 12 20 = p.bits := by
    apply eq_of_list
    have h12 : ([82, 86, 84, 66] ++ Pk.enc [p.ev] [8] : List UInt8).length = 12 := by rw [List.length_append, hl]; rfl
    rw [extract_list, secT_head h hb, List.append_assoc ([82, 86, 84, 66] ++ Pk.enc [p.ev] [8]), List.drop_append_of_le_length (by omega), List.drop_of_length_le (by omega), List.nil_append, List.take_append_of_le_length (by omega), List.take_of_length_le (by omega)]
  unfold told
  rw [e1, e2, Pk.dec_enc w8_ok rfl (fit8 h)]
  rfl
theorem decE_secT {p : Pge} (h : p.ev < 18446744073709551616) (hb : p.bits.size = 8) : decE (secT p) = 0 := by
  have hl := enc8_length h
  have hp : p.bits.data.toList.length = 8 := by rw [list_size]; exact hb
  unfold decE
  rw [if_neg (by rw [secT_size h hb]; decide), secT_opens h hb, cond_true, if_neg, show restB (Crc.headB (secT p)) = true from ?_]
  · rfl
  · unfold restB
    have h20 : ([82, 86, 84, 66] ++ Pk.enc [p.ev] [8] ++ p.bits.data.toList : List UInt8).length = 20 := by rw [List.length_append, List.length_append, hl, hp]; rfl
    rw [secT_head h hb, List.drop_append_of_le_length (by omega), List.drop_of_length_le (by omega), List.nil_append]
    decide
  · intro hne
    apply hne
    apply eq_of_list
    rw [extract_list, secT_head h hb]
    rfl
theorem decS_secT {p : Pge} (h : p.ev < 18446744073709551616) (hb : p.bits.size = 8) : decS (secT p) = p := by unfold decS; rw [if_pos (decE_secT h hb), told_secT h hb]
theorem secT_inj {p q : Pge} (h : p.ev < 18446744073709551616) (hb : p.bits.size = 8) (h' : q.ev < 18446744073709551616) (hb' : q.bits.size = 8) (e : secT p = secT q) : p = q := by
  rw [← told_secT h hb, e, told_secT h' hb']
theorem dec8_lt (s : List UInt8) : (Pk.dec s [8]).getD 0 0 < 18446744073709551616 := Pk.dec_lt s [8] 0
theorem told_ev (b : ByteArray) : (told b).ev = (Pk.dec ((Crc.headB b).extract 4 12).data.toList [8]).getD 0 0 := by simp only [told]
theorem told_lt (b : ByteArray) : (told b).ev < 18446744073709551616 := by rw [told_ev]; exact dec8_lt _
theorem decS_lt (b : ByteArray) : (decS b).ev < 18446744073709551616 := by
  unfold decS; split
  · exact told_lt b
  · show 0 < 18446744073709551616
    omega
theorem head_size {b : ByteArray} (h : b.size = 64) : (Crc.headB b).size = 60 := by unfold Crc.headB; rw [h]; simp; omega
theorem decS_size {b : ByteArray} (h : decE b = 0) : (decS b).bits.size = 8 := by
  have hs : b.size = 64 := by
    refine Decidable.byContradiction fun hn => ?_
    unfold decE at h; rw [if_pos hn] at h; cases h
  unfold decS; rw [if_pos h]
  show ((Crc.headB b).extract 12 20).size = 8
  rw [ByteArray.size_extract, head_size hs]; rfl
theorem decE_short {b : ByteArray} (h : b.size ≠ 64) : decE b = 31 := if_pos h
theorem decE_sum {b : ByteArray} (h : b.size = 64) (ho : Crc.opens b.data.toList = false) : decE b = 80 := by unfold decE; rw [if_neg (fun x => x h), ho]; rfl
theorem decE_magic {b : ByteArray} (h : b.size = 64) (ho : Crc.opens b.data.toList = true) (hf : (Crc.headB b).extract 0 4 ≠ magicB) : decE b = 81 := by unfold decE; rw [if_neg (fun x => x h), ho, cond_true, if_pos hf]
theorem decE_arg {b : ByteArray} (h : b.size = 64) (ho : Crc.opens b.data.toList = true) (hf : (Crc.headB b).extract 0 4 = magicB) (hr : restB (Crc.headB b) = false) : decE b = 1 := by unfold decE; rw [if_neg (fun x => x h), ho, cond_true, if_neg (fun x => x hf), hr]; rfl
theorem decE_good {b : ByteArray} (h : b.size = 64) (ho : Crc.opens b.data.toList = true) (hf : (Crc.headB b).extract 0 4 = magicB) (hr : restB (Crc.headB b) = true) : decE b = 0 := by unfold decE; rw [if_neg (fun x => x h), ho, cond_true, if_neg (fun x => x hf), hr]; rfl
theorem decS_bad {b : ByteArray} {n : Nat} (h : decE b = n) (hn : n ≠ 0) : decS b = none := by unfold decS; rw [if_neg (by rw [h]; exact hn)]
theorem decS_good {b : ByteArray} (h : decE b = 0) : decS b = told b := by unfold decS; rw [if_pos h]
/-- two texts compared by their bytes -/
theorem tx_eq (a b : ByteArray) : (a.toList == b.toList) = decide (a = b) := by
  rw [Bool.eq_iff_iff, beq_iff_eq, decide_eq_true_iff, ByteArray.toList_eq, ByteArray.toList_eq]
  exact ⟨fun e => eq_of_list e, fun e => by rw [e]⟩
/-- a text's byte, nought past its end -/
def byt11 (s : ByteArray) (j : Nat) : UInt8 := s.data.toList.getD j 0
theorem byt11_at (s : ByteArray) (j : Nat) (h : j < s.size) : s[j]'h = byt11 s j := by
  have hl : j < s.data.toList.length := by rw [list_size]; exact h
  unfold byt11
  rw [List.getD_eq_getElem?_getD, List.getElem?_eq_getElem hl]
  rfl
theorem rest_iff {t : ByteArray} (h : t.size = 60) : restB t = true ↔ ∀ j, j < 40 → byt11 t (20 + j) = 0 := by
  have hl : t.data.toList.length = 60 := by rw [list_size]; exact h
  unfold restB byt11
  rw [List.all_eq_true]
  constructor
  · intro ha j hj
    have hx : t.data.toList[20 + j]'(by omega) ∈ t.data.toList.drop 20 := by
      rw [List.mem_iff_getElem?]
      exact ⟨j, by rw [List.getElem?_drop, List.getElem?_eq_getElem (by omega)]⟩
    have := ha _ hx
    rw [List.getD_eq_getElem?_getD, List.getElem?_eq_getElem (by omega)]
    simpa using this
  · intro ha x hx
    obtain ⟨j, hj⟩ := List.mem_iff_getElem?.1 hx
    rw [List.getElem?_drop] at hj
    have hlt : 20 + j < t.data.toList.length := (List.getElem?_eq_some_iff.1 hj).1
    have := ha j (by omega)
    rw [List.getD_eq_getElem?_getD, hj] at this
    simpa using this
theorem magic_list : magicB.toList = [82, 86, 84, 66] := by rw [ByteArray.toList_eq]; rfl
end Pg
end Go.Proofs.YtjmeiifogblmoaaGreatDoor

namespace Go.Proofs.YtjmeiifogblmoaaGreatDoor

/-- a part: its column, its place, its data -/
structure Prt where
  col : Int
  off : Int
  data : ByteArray
  deriving DecidableEq

namespace Rc
def blankP : Prt := ⟨0, 0, ⟨#[]⟩⟩
def magicB : ByteArray := ⟨#[82, 86, 84, 74]⟩
def inB (x : Prt) : Bool := decide (0 ≤ x.col) && (decide (x.col < 10) && (decide (0 ≤ x.off) && decide (x.off < 4)))
def sameB (x y : Prt) : Bool := decide (x.col = y.col) && decide (x.off = y.off)
/-- no one of the first k stands where the part i does -/
def freshTo (f : Nat → Prt) (i : Nat) : Nat → Bool
  | 0 => true
  | k + 1 => freshTo f i k && !sameB (f k) (f i)
/-- the first i have places that may be, apart from one another -/
def okTo (f : Nat → Prt) : Nat → Bool
  | 0 => true
  | i + 1 => okTo f i && (inB (f i) && freshTo f i i)
def fewB (row : Int) (n : Nat) : Bool := decide (0 ≤ row) && (decide (row < 256) && (decide (1 ≤ n) && decide (n ≤ 40)))
def placesB (row : Int) (n : Nat) (f : Nat → Prt) : Bool := fewB row n && okTo f n
def fullTo (f : Nat → Prt) : Nat → Bool
  | 0 => true
  | i + 1 => fullTo f i && decide ((f i).data.size = 64)
def mayB (row : Int) (n : Nat) (f : Nat → Prt) : Bool := fullTo f n && placesB row n f
/-- all data behind one another -/
def catTo (f : Nat → Prt) : Nat → ByteArray
  | 0 => ⟨#[]⟩
  | n + 1 => catTo f n ++ (f n).data
def sumF (n : Nat) (f : Nat → Prt) : Nat := Crc.more 0 (catTo f n).data.toList
def plB (x : Prt) : UInt8 := UInt8.ofNat (4 * x.col + x.off).toNat
def plTo (f : Nat → Prt) : Nat → ByteArray
  | 0 => ⟨#[]⟩
  | n + 1 => plTo f n ++ ⟨#[plB (f n)]⟩
abbrev ws : List Int := [8, 2, 1, 4]
def numsB (seq : Nat) (row : Int) (n s : Nat) : ByteArray := Pk.encS [seq, row.toNat, n, s] ws
def bodyB (seq : Nat) (row : Int) (n : Nat) (f : Nat → Prt) (s : Nat) : ByteArray := magicB ++ numsB seq row n s ++ plTo f n
/-- the head of a record whose load has the sum s -/
def headS (seq : Nat) (row : Int) (n : Nat) (f : Nat → Prt) (s : Nat) : ByteArray := Crc.sealB (bodyB seq row n f s) 64
/-- what the bytes of a head tell -/
def numT (t : ByteArray) (i : Nat) : Nat := (Pk.dec (t.extract 4 19).data.toList ws).getD i 0
def partT (t : ByteArray) (j : Nat) : Prt := ⟨((Pg.byt11 t (19 + j)).toNat / 4 : Nat), ((Pg.byt11 t (19 + j)).toNat % 4 : Nat), ⟨#[]⟩⟩
def headE (b : ByteArray) : Nat := if b.size ≠ 64 then 31 else bif Crc.opens b.data.toList then (if (Crc.headB b).extract 0 4 ≠ magicB then 81 else if 40 < numT (Crc.headB b) 2 then 1 else bif placesB (numT (Crc.headB b) 1) (numT (Crc.headB b) 2) (partT (Crc.headB b)) && decide (headS (numT (Crc.headB b) 0) (numT (Crc.headB b) 1) (numT (Crc.headB b) 2) (partT (Crc.headB b)) (numT (Crc.headB b) 3) = b) then 0 else 1) else 80
def hSeq (b : ByteArray) : Nat := if headE b = 0 then numT (Crc.headB b) 0 else 0
def hRow (b : ByteArray) : Nat := if headE b = 0 then numT (Crc.headB b) 1 else 0
def hN (b : ByteArray) : Nat := if headE b = 0 then numT (Crc.headB b) 2 else 0
def hSum (b : ByteArray) : Nat := if headE b = 0 then numT (Crc.headB b) 3 else 0
def hPart (b : ByteArray) : Nat → Prt := partT (Crc.headB b)

/-! ### places -/
theorem freshTo_iff (f : Nat → Prt) (i : Nat) : ∀ k, freshTo f i k = true ↔ ∀ j, j < k → sameB (f j) (f i) = false
  | 0 => ⟨fun _ _ h => absurd h (Nat.not_lt_zero _), fun _ => rfl⟩
  | k + 1 => by
    unfold freshTo
    rw [Bool.and_eq_true, freshTo_iff f i k, Bool.not_eq_true']
    constructor
    · rintro ⟨h1, h2⟩ j hj
      by_cases e : j = k
      · subst e; exact h2
      · exact h1 j (by omega)
    · intro h; exact ⟨fun j hj => h j (by omega), h k (by omega)⟩
theorem okTo_iff (f : Nat → Prt) : ∀ n, okTo f n = true ↔ ∀ i, i < n → inB (f i) = true ∧ freshTo f i i = true
  | 0 => ⟨fun _ _ h => absurd h (Nat.not_lt_zero _), fun _ => rfl⟩
  | n + 1 => by
    unfold okTo
    rw [Bool.and_eq_true, Bool.and_eq_true, okTo_iff f n]
    constructor
    · rintro ⟨h1, h2⟩ i hi
      by_cases e : i = n
      · subst e; exact h2
      · exact h1 i (by omega)
    · intro h; exact ⟨fun i hi => h i (by omega), h n (by omega)⟩
theorem okTo_not {f : Nat → Prt} {n i : Nat} (hi : i < n) (h : inB (f i) = false ∨ freshTo f i i = false) : okTo f n = false := by
  cases e : okTo f n with
  | false => rfl
  | true =>
    obtain ⟨h1, h2⟩ := (okTo_iff f n).1 e i hi
    rcases h with h | h
    · rw [h1] at h; cases h
    · rw [h2] at h; cases h
theorem freshTo_not {f : Nat → Prt} {i k j : Nat} (hj : j < k) (h : sameB (f j) (f i) = true) : freshTo f i k = false := by
  cases e : freshTo f i k with
  | false => rfl
  | true => have := (freshTo_iff f i k).1 e j hj; rw [h] at this; cases this
theorem fullTo_iff (f : Nat → Prt) : ∀ n, fullTo f n = true ↔ ∀ i, i < n → (f i).data.size = 64
  | 0 => ⟨fun _ _ h => absurd h (Nat.not_lt_zero _), fun _ => rfl⟩
  | n + 1 => by
    unfold fullTo
    rw [Bool.and_eq_true, fullTo_iff f n, decide_eq_true_iff]
    constructor
    · rintro ⟨h1, h2⟩ i hi
      by_cases e : i = n
      · subst e; exact h2
      · exact h1 i (by omega)
    · intro h; exact ⟨fun i hi => h i (by omega), h n (by omega)⟩
theorem fullTo_not {f : Nat → Prt} {n i : Nat} (hi : i < n) (h : (f i).data.size ≠ 64) : fullTo f n = false := by
  cases e : fullTo f n with
  | false => rfl
  | true => exact absurd ((fullTo_iff f n).1 e i hi) h
theorem few_iff (row : Int) (n : Nat) : fewB row n = true ↔ 0 ≤ row ∧ row < 256 ∧ 1 ≤ n ∧ n ≤ 40 := by simp [fewB]
theorem in_iff (x : Prt) : inB x = true ↔ 0 ≤ x.col ∧ x.col < 10 ∧ 0 ≤ x.off ∧ x.off < 4 := by simp [inB]
theorem places_iff (row : Int) (n : Nat) (f : Nat → Prt) : placesB row n f = true ↔ fewB row n = true ∧ okTo f n = true := by unfold placesB; rw [Bool.and_eq_true]
/-- places hang on the places alone -/
theorem okTo_congr {f g : Nat → Prt} {n : Nat} (h : ∀ i, i < n → (f i).col = (g i).col ∧ (f i).off = (g i).off) : okTo f n = okTo g n := by
  rw [Bool.eq_iff_iff, okTo_iff, okTo_iff]
  have key : ∀ i, i < n → (inB (f i) = inB (g i)) ∧ (freshTo f i i = freshTo g i i) := by
    intro i hi
    refine ⟨by unfold inB; rw [(h i hi).1, (h i hi).2], ?_⟩
    rw [Bool.eq_iff_iff, freshTo_iff, freshTo_iff]
    have e : ∀ j, j < i → sameB (f j) (f i) = sameB (g j) (g i) := fun j hj => by
      unfold sameB; rw [(h j (by omega)).1, (h j (by omega)).2, (h i hi).1, (h i hi).2]
    exact ⟨fun x j hj => by rw [← e j hj]; exact x j hj, fun x j hj => by rw [e j hj]; exact x j hj⟩
  exact ⟨fun x i hi => by rw [← (key i hi).1, ← (key i hi).2]; exact x i hi, fun x i hi => by rw [(key i hi).1, (key i hi).2]; exact x i hi⟩

/-! ### bytes -/
theorem plTo_list (f : Nat → Prt) : ∀ n, (plTo f n).data.toList = (List.range n).map fun j => plB (f j)
  | 0 => rfl
  | n + 1 => by
    unfold plTo
    rw [ByteArray.data_append, Array.toList_append, plTo_list f n, List.range_succ, List.map_append]; rfl
theorem plTo_size (f : Nat → Prt) (n : Nat) : (plTo f n).size = n := by rw [← Pg.list_size, plTo_list]; simp
theorem plTo_congr {f g : Nat → Prt} : ∀ {n : Nat}, (∀ i, i < n → (f i).col = (g i).col ∧ (f i).off = (g i).off) → plTo f n = plTo g n
  | 0, _ => rfl
  | n + 1, h => by
    unfold plTo
    rw [plTo_congr (fun i hi => h i (by omega)), show plB (f n) = plB (g n) by unfold plB; rw [(h n (by omega)).1, (h n (by omega)).2]]
theorem ws_ok : Pk.okW ws = true := by decide
theorem ws_offs : Pk.offs ws 4 = 15 := by decide
theorem fit_nums {seq : Nat} {row : Int} {n s : Nat} (h0 : seq < 18446744073709551616) (h1 : row < 65536) (h2 : n < 256) (h3 : s < 4294967296) : Pk.fitAll [seq, row.toNat, n, s] ws = true := by
  rw [Pk.fitAll_iff]
  intro j hj
  rw [Pk.fits_iff]
  have : j < 4 := hj
  rcases (by omega : j = 0 ∨ j = 1 ∨ j = 2 ∨ j = 3) with rfl | rfl | rfl | rfl
  · exact ⟨by decide, h0⟩
  · exact ⟨by decide, by show row.toNat < 65536; omega⟩
  · exact ⟨by decide, h2⟩
  · exact ⟨by decide, h3⟩
section
variable {seq : Nat} {row : Int} {n s : Nat} (h0 : seq < 18446744073709551616) (h1 : row < 65536) (h2 : n < 256) (h3 : s < 4294967296)
include h0 h1 h2 h3
theorem nums_size : (numsB seq row n s).size = 15 := (Pk.encS_size ws_ok rfl (fit_nums h0 h1 h2 h3)).trans ws_offs
theorem nums_E : Pk.encE [seq, row.toNat, n, s] ws = 0 := Pk.encE_yes ws_ok rfl (fit_nums h0 h1 h2 h3)
theorem body_size (f : Nat → Prt) : (bodyB seq row n f s).size = 19 + n := by
  unfold bodyB
  rw [ByteArray.size_append, ByteArray.size_append, nums_size h0 h1 h2 h3, plTo_size]; rfl
theorem headS_size (h40 : n ≤ 40) (f : Nat → Prt) : (headS seq row n f s).size = 64 := by
  have hb := body_size h0 h1 h2 h3 f
  rw [← Pg.list_size]
  show (Crc.sealB _ 64).data.toList.length = 64
  rw [show (Crc.sealB (bodyB seq row n f s) 64).data.toList = Crc.sealL (bodyB seq row n f s).data.toList 64 by simp [Crc.sealB]]
  exact Crc.sealL_length _ 64 (by decide) (by rw [Pg.list_size, hb]; omega)
theorem headS_opens (h40 : n ≤ 40) (f : Nat → Prt) : Crc.opens (headS seq row n f s).data.toList = true := by
  have hb := body_size h0 h1 h2 h3 f
  show Crc.opens (Crc.sealB _ 64).data.toList = true
  rw [show (Crc.sealB (bodyB seq row n f s) 64).data.toList = Crc.sealL (bodyB seq row n f s).data.toList 64 by simp [Crc.sealB]]
  exact Crc.opens_seal _ 64 (by decide) (by rw [Pg.list_size, hb]; omega)
theorem head_list (h40 : n ≤ 40) (f : Nat → Prt) : (Crc.headB (headS seq row n f s)).data.toList = [82, 86, 84, 74] ++ (Pk.enc [seq, row.toNat, n, s] ws ++ ((List.range n).map (fun j => plB (f j)) ++ List.replicate (41 - n) 0)) := by
  have hs := body_size h0 h1 h2 h3 f
  unfold headS
  rw [Crc.headB_seal _ 64 (by decide) (by rw [hs]; omega)]
  show Crc.padL (bodyB seq row n f s).data.toList 60 = _
  unfold Crc.padL
  rw [Pg.list_size, hs]
  unfold bodyB magicB numsB Pk.encS
  rw [ByteArray.data_append, ByteArray.data_append, Array.toList_append, Array.toList_append, plTo_list, show 60 - (19 + n) = 41 - n by omega]
  simp [List.append_assoc]
theorem enc_len : (Pk.enc [seq, row.toNat, n, s] ws).length = 15 := by
  have := nums_size h0 h1 h2 h3
  unfold numsB Pk.encS at this
  rw [← Pg.list_size] at this
  simpa using this
theorem head_first (h40 : n ≤ 40) (f : Nat → Prt) : (Crc.headB (headS seq row n f s)).extract 0 4 = magicB := by
  apply Pg.eq_of_list
  rw [Pg.extract_list, head_list h0 h1 h2 h3 h40]
  rfl
theorem head_nums (h40 : n ≤ 40) (f : Nat → Prt) : ((Crc.headB (headS seq row n f s)).extract 4 19).data.toList = Pk.enc [seq, row.toNat, n, s] ws := by
  have hl := enc_len h0 h1 h2 h3
  rw [Pg.extract_list, head_list h0 h1 h2 h3 h40]
  show (Pk.enc _ ws ++ _).take 15 = _
  rw [List.take_append_of_le_length (by omega), List.take_of_length_le (by omega)]
theorem head_num (h40 : n ≤ 40) (f : Nat → Prt) (i : Nat) : numT (Crc.headB (headS seq row n f s)) i = [seq, row.toNat, n, s].getD i 0 := by
  unfold numT
  rw [head_nums h0 h1 h2 h3 h40, Pk.dec_enc ws_ok rfl (fit_nums h0 h1 h2 h3)]
theorem head_byte (h40 : n ≤ 40) (f : Nat → Prt) {j : Nat} (hj : j < n) : Pg.byt11 (Crc.headB (headS seq row n f s)) (19 + j) = plB (f j) := by
  have hl := enc_len h0 h1 h2 h3
  unfold Pg.byt11
  rw [head_list h0 h1 h2 h3 h40, List.getD_eq_getElem?_getD, List.getElem?_append_right (by simp; omega), List.getElem?_append_right (by simp; omega)]
  have ej : 19 + j - ([82, 86, 84, 74] : List UInt8).length - (Pk.enc [seq, row.toNat, n, s] ws).length = j := by rw [hl]; simp; omega
  rw [ej]
  rw [List.getElem?_append_left (by simpa using hj)]
  simp [hj]
end
theorem pl_back {x : Prt} (h : inB x = true) : ((plB x).toNat / 4 : Nat) = x.col ∧ ((plB x).toNat % 4 : Nat) = x.off := by
  obtain ⟨h1, h2, h3, h4⟩ := (in_iff x).1 h
  have e : (plB x).toNat = (4 * x.col + x.off).toNat := by
    unfold plB
    simp
    omega
  rw [e]
  omega
/-- what may be comes back from its head -/
theorem head_back {seq : Nat} {row : Int} {n s : Nat} {f : Nat → Prt} (h0 : seq < 18446744073709551616) (h3 : s < 4294967296) (hp : placesB row n f = true) :
    headE (headS seq row n f s) = 0 ∧ hSeq (headS seq row n f s) = seq ∧ (hRow (headS seq row n f s) : Int) = row ∧ hN (headS seq row n f s) = n ∧ hSum (headS seq row n f s) = s ∧ ∀ j, j < n → hPart (headS seq row n f s) j = ⟨(f j).col, (f j).off, ⟨#[]⟩⟩ := by
  obtain ⟨hf, ho⟩ := (places_iff _ _ _).1 hp
  obtain ⟨r0, r1, n1, n40⟩ := (few_iff _ _).1 hf
  have a1 : row < 65536 := by omega
  have a2 : n < 256 := by omega
  have e0 : numT (Crc.headB (headS seq row n f s)) 0 = seq := head_num h0 a1 a2 h3 n40 f 0
  have e1 : numT (Crc.headB (headS seq row n f s)) 1 = row.toNat := head_num h0 a1 a2 h3 n40 f 1
  have e2 : numT (Crc.headB (headS seq row n f s)) 2 = n := head_num h0 a1 a2 h3 n40 f 2
  have e3 : numT (Crc.headB (headS seq row n f s)) 3 = s := head_num h0 a1 a2 h3 n40 f 3
  have hpart : ∀ j, j < n → partT (Crc.headB (headS seq row n f s)) j = ⟨(f j).col, (f j).off, ⟨#[]⟩⟩ := fun j hj => by
    unfold partT
    rw [head_byte h0 a1 a2 h3 n40 f hj, (pl_back ((okTo_iff f n).1 ho j hj).1).1, (pl_back ((okTo_iff f n).1 ho j hj).1).2]
  have hc : ∀ i, i < n → ((partT (Crc.headB (headS seq row n f s)) i).col = (f i).col ∧ (partT (Crc.headB (headS seq row n f s)) i).off = (f i).off) := fun i hi => by rw [hpart i hi]; exact ⟨rfl, rfl⟩
  have hrow : ((row.toNat : Nat) : Int) = row := by omega
  have hE : headE (headS seq row n f s) = 0 := by
    unfold headE
    rw [if_neg (by rw [headS_size h0 a1 a2 h3 n40]; decide), headS_opens h0 a1 a2 h3 n40, cond_true, if_neg (fun x => x (head_first h0 a1 a2 h3 n40 f)), e0, e1, e2, e3, if_neg (by omega), hrow]
    have p1 : placesB row n (partT (Crc.headB (headS seq row n f s))) = true := by unfold placesB; rw [hf, okTo_congr hc, ho]; rfl
    have p2 : headS seq row n (partT (Crc.headB (headS seq row n f s))) s = headS seq row n f s := by
      show Crc.sealB (bodyB seq row n (partT _) s) 64 = Crc.sealB (bodyB seq row n f s) 64
      rw [show bodyB seq row n (partT (Crc.headB (headS seq row n f s))) s = bodyB seq row n f s by unfold bodyB; rw [plTo_congr hc]]
    rw [p1, p2, decide_eq_true rfl]; rfl
  refine ⟨hE, ?_, ?_, ?_, ?_, fun j hj => hpart j hj⟩
  · unfold hSeq; rw [if_pos hE, e0]
  · unfold hRow; rw [if_pos hE, e1]; exact hrow
  · unfold hN; rw [if_pos hE, e2]
  · unfold hSum; rw [if_pos hE, e3]
end Rc
end Go.Proofs.YtjmeiifogblmoaaGreatDoor
