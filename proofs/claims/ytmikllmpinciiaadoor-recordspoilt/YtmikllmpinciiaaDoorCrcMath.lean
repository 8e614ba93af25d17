/- The checksum in plain Nats: a step is linear over exclusive or, and loses nothing. Nothing of the program stands here. -/
namespace Go.Proofs.YtmikllmpinciiaaDoor.Crc
/-- one bit down -/
def sh (x : Nat) : Nat := if x % 2 = 1 then (x / 2) ^^^ 2197175160 else x / 2
def shN : Nat → Nat → Nat
  | 0, x => x
  | k + 1, x => shN k (sh x)
theorem xor_lt {a b : Nat} (ha : a < 4294967296) (hb : b < 4294967296) : a ^^^ b < 4294967296 := Nat.xor_lt_two_pow (n := 32) ha hb
theorem sh_lt {x : Nat} (h : x < 4294967296) : sh x < 4294967296 := by
  unfold sh; split
  · exact xor_lt (by omega) (by omega)
  · omega
theorem shN_lt (k : Nat) : ∀ {x : Nat}, x < 4294967296 → shN k x < 4294967296 := by
  induction k with
  | zero => intro x h; exact h
  | succ k ih => intro x h; exact ih (sh_lt h)
theorem xcomm4 (a b c d : Nat) : (a ^^^ b) ^^^ (c ^^^ d) = (a ^^^ c) ^^^ (b ^^^ d) := by ac_rfl
theorem sh_xor (x y : Nat) : sh (x ^^^ y) = sh x ^^^ sh y := by
  have e2 : (x ^^^ y) / 2 = x / 2 ^^^ y / 2 := by simpa using Nat.xor_div_two_pow (a := x) (b := y) (n := 1)
  have e1 : (x ^^^ y) % 2 = (x % 2) ^^^ (y % 2) := by simpa using Nat.xor_mod_two_pow (a := x) (b := y) (n := 1)
  unfold sh
  rw [e1, e2]
  rcases (by omega : x % 2 = 0 ∨ x % 2 = 1) with h | h <;> rcases (by omega : y % 2 = 0 ∨ y % 2 = 1) with h' | h' <;> simp only [h, h'] <;> simp
  · rw [Nat.xor_assoc]
  · ac_rfl
  · rw [xcomm4]; simp
theorem shN_xor (k : Nat) : ∀ (x y : Nat), shN k (x ^^^ y) = shN k x ^^^ shN k y := by
  induction k with
  | zero => intros; rfl
  | succ k ih => intro x y; show shN k (sh (x ^^^ y)) = _; rw [sh_xor, ih]; rfl
theorem shN_zero (k : Nat) : shN k 0 = 0 := by
  induction k with
  | zero => rfl
  | succ k ih => exact ih
theorem shN_add (j k x : Nat) : shN (j + k) x = shN k (shN j x) := by
  induction j generalizing x with
  | zero => rw [Nat.zero_add]; rfl
  | succ j ih => rw [Nat.add_right_comm]; exact ih (sh x)
theorem shN_succ (k x : Nat) : shN (k + 1) x = sh (shN k x) := shN_add k 1 x
theorem eq_of_xor {a b : Nat} (h : a ^^^ b = 0) : a = b := by
  have : (a ^^^ b) ^^^ b = b := by rw [h, Nat.zero_xor]
  rwa [Nat.xor_assoc, Nat.xor_self, Nat.xor_zero] at this
/-- a step loses nothing -/
theorem sh_ne {x : Nat} (h : x < 4294967296) (h0 : x ≠ 0) : sh x ≠ 0 := by
  unfold sh; split
  · intro e
    have : x / 2 = 2197175160 := eq_of_xor e
    omega
  · omega
theorem shN_ne (k : Nat) : ∀ {x : Nat}, x < 4294967296 → x ≠ 0 → shN k x ≠ 0 := by
  induction k with
  | zero => intro x _ h; exact h
  | succ k ih => intro x h h0; exact ih (sh_lt h) (sh_ne h h0)
theorem split_xor (i x : Nat) : (2 ^ i * (x / 2 ^ i)) ^^^ (x % 2 ^ i) = x := by
  have hd : ((2 ^ i * (x / 2 ^ i)) ^^^ (x % 2 ^ i)) / 2 ^ i = x / 2 ^ i := by
    rw [Nat.xor_div_two_pow, Nat.mul_div_cancel_left _ (Nat.two_pow_pos i), Nat.div_eq_of_lt (Nat.mod_lt _ (Nat.two_pow_pos i)), Nat.xor_zero]
  have hm : ((2 ^ i * (x / 2 ^ i)) ^^^ (x % 2 ^ i)) % 2 ^ i = x % 2 ^ i := by
    rw [Nat.xor_mod_two_pow, Nat.mul_mod_right, Nat.zero_xor, Nat.mod_mod]
  rw [← Nat.div_add_mod ((2 ^ i * (x / 2 ^ i)) ^^^ (x % 2 ^ i)) (2 ^ i), hd, hm, Nat.div_add_mod]
theorem sh_two (q : Nat) : sh (2 * q) = q := by
  unfold sh; rw [if_neg (by omega)]; omega
theorem shN_pow (k q : Nat) : shN k (2 ^ k * q) = q := by
  induction k generalizing q with
  | zero => simp [shN]
  | succ k ih =>
    show shN k (sh (2 ^ (k + 1) * q)) = q
    rw [Nat.pow_succ, Nat.mul_comm (2 ^ k) 2, Nat.mul_assoc, sh_two, ih]
/-- half a byte at once -/
theorem half (x : Nat) : (x / 16) ^^^ shN 4 (x % 16) = shN 4 x := by
  conv => rhs; rw [← split_xor 4 x, shN_xor, shN_pow]
/-- a text's bytes, one behind the other -/
def run (x : Nat) (l : List UInt8) : Nat := l.foldl (fun x c => shN 8 (x ^^^ c.toNat)) x
def neg (x : Nat) : Nat := 4294967295 - x
def more (n : Nat) (l : List UInt8) : Nat := neg (run (neg n) l)
theorem neg_lt (x : Nat) : neg x < 4294967296 := by unfold neg; omega
theorem neg_neg {x : Nat} (h : x < 4294967296) : neg (neg x) = x := by unfold neg; omega
theorem run_cons (x : Nat) (c : UInt8) (l : List UInt8) : run x (c :: l) = run (shN 8 (x ^^^ c.toNat)) l := rfl
theorem run_append (x : Nat) (a b : List UInt8) : run x (a ++ b) = run (run x a) b := List.foldl_append
theorem run_lt {x : Nat} (h : x < 4294967296) (l : List UInt8) : run x l < 4294967296 := by
  induction l generalizing x with
  | nil => exact h
  | cons c l ih => exact ih (shN_lt 8 (xor_lt h (by have := c.toNat_lt; omega)))
theorem more_lt (n : Nat) (l : List UInt8) : more n l < 4294967296 := neg_lt _
theorem more_append (n : Nat) (a b : List UInt8) : more (more n a) b = more n (a ++ b) := by
  unfold more; rw [neg_neg (run_lt (neg_lt n) a), run_append]
theorem more_nil {n : Nat} (h : n < 4294967296) : more n [] = n := neg_neg h
theorem shN_inj (k : Nat) {x y : Nat} (hx : x < 4294967296) (hy : y < 4294967296) (h : shN k x = shN k y) : x = y := by
  apply eq_of_xor
  apply Classical.byContradiction
  intro hne
  refine shN_ne k (xor_lt hx hy) hne ?_
  rw [shN_xor, h, Nat.xor_self]
theorem xor_cancel {a b c : Nat} (h : a ^^^ c = b ^^^ c) : a = b := by
  have : (a ^^^ c) ^^^ c = (b ^^^ c) ^^^ c := by rw [h]
  rwa [Nat.xor_assoc, Nat.xor_self, Nat.xor_zero, Nat.xor_assoc, Nat.xor_self, Nat.xor_zero] at this
theorem byte_lt (c : UInt8) : c.toNat < 4294967296 := by have := c.toNat_lt; omega
theorem run_inj (l : List UInt8) {x y : Nat} (hx : x < 4294967296) (hy : y < 4294967296) (h : run x l = run y l) : x = y := by
  induction l generalizing x y with
  | nil => exact h
  | cons c l ih =>
    have := ih (shN_lt 8 (xor_lt hx (byte_lt c))) (shN_lt 8 (xor_lt hy (byte_lt c))) h
    exact xor_cancel (shN_inj 8 (xor_lt hx (byte_lt c)) (xor_lt hy (byte_lt c)) this)
theorem neg_inj {x y : Nat} (hx : x < 4294967296) (hy : y < 4294967296) (h : neg x = neg y) : x = y := by unfold neg at h; omega
/-- one byte that is another one makes another sum -/
theorem more_one {n : Nat} (a b : List UInt8) {c d : UInt8} (h : c ≠ d) : more n (a ++ c :: b) ≠ more n (a ++ d :: b) := by
  intro e
  have hl := run_lt (neg_lt n) a
  have e1 := neg_inj (run_lt (neg_lt n) _) (run_lt (neg_lt n) _) e
  rw [run_append, run_append, run_cons, run_cons] at e1
  have e2 := run_inj b (shN_lt 8 (xor_lt hl (byte_lt c))) (shN_lt 8 (xor_lt hl (byte_lt d))) e1
  have e3 := shN_inj 8 (xor_lt hl (byte_lt c)) (xor_lt hl (byte_lt d)) e2
  rw [Nat.xor_comm _ c.toNat, Nat.xor_comm _ d.toNat] at e3
  exact h (UInt8.toNat_inj.1 (xor_cancel e3))
/-- a sum as bytes, the lowest one first -/
def fourL (n : Nat) : List UInt8 := [UInt8.ofNat (n % 256), UInt8.ofNat (n / 256 % 256), UInt8.ofNat (n / 65536 % 256), UInt8.ofNat (n / 16777216 % 256)]
theorem fourL_length (n : Nat) : (fourL n).length = 4 := rfl
/-- filled up with bytes 0 -/
def padL (l : List UInt8) (m : Nat) : List UInt8 := l ++ List.replicate (m - l.length) 0
theorem padL_length (l : List UInt8) (m : Nat) (h : l.length ≤ m) : (padL l m).length = m := by unfold padL; simp; omega
/-- sealed, and opened -/
def sealL (l : List UInt8) (size : Nat) : List UInt8 := padL l (size - 4) ++ fourL (more 0 (padL l (size - 4)))
def sealB (s : ByteArray) (size : Nat) : ByteArray := ⟨(sealL s.data.toList size).toArray⟩
def opens (l : List UInt8) : Bool := decide (4 ≤ l.length) && (l.drop (l.length - 4) == fourL (more 0 (l.take (l.length - 4))))
def headB (s : ByteArray) : ByteArray := s.extract 0 (s.size - 4)
def fits (n : Nat) (size : Int) : Bool := decide (4 ≤ size) && decide (size ≤ 4096) && decide ((n : Int) ≤ size - 4)
theorem sealL_length (l : List UInt8) (m : Nat) (h4 : 4 ≤ m) (h : l.length ≤ m - 4) : (sealL l m).length = m := by
  unfold sealL; rw [List.length_append, padL_length l _ h, fourL_length]; omega
theorem sealL_take (l : List UInt8) (m : Nat) (h : l.length ≤ m - 4) : (sealL l m).take (m - 4) = padL l (m - 4) := by
  unfold sealL; rw [List.take_append_of_le_length (by rw [padL_length l _ h]; exact Nat.le_refl _), List.take_of_length_le (by rw [padL_length l _ h]; exact Nat.le_refl _)]
theorem opens_seal (l : List UInt8) (m : Nat) (h4 : 4 ≤ m) (h : l.length ≤ m - 4) : opens (sealL l m) = true := by
  unfold opens
  rw [sealL_length l m h4 h, decide_eq_true h4, Bool.true_and, sealL_take l m h]
  have e : (sealL l m).drop (m - 4) = fourL (more 0 (padL l (m - 4))) := by
    unfold sealL
    rw [List.drop_append_of_le_length (by rw [padL_length l _ h]; exact Nat.le_refl _), List.drop_of_length_le (by rw [padL_length l _ h]; exact Nat.le_refl _), List.nil_append]
  rw [e]; simp
theorem headB_seal (s : ByteArray) (m : Nat) (h4 : 4 ≤ m) (h : s.size ≤ m - 4) : headB (sealB s m) = ⟨(padL s.data.toList (m - 4)).toArray⟩ := by
  have hl : s.data.toList.length ≤ m - 4 := by simpa using h
  have hz : (sealB s m).size = m := by
    show (sealL _ _).toArray.size = _
    rw [List.size_toArray, sealL_length _ m h4 hl]
  apply ByteArray.ext
  apply Array.toList_inj.1
  unfold headB
  rw [hz, ByteArray.data_extract, Array.toList_extract, List.extract_eq_take_drop]
  show ((sealL s.data.toList m).drop 0).take (m - 4 - 0) = padL s.data.toList (m - 4)
  rw [List.drop_zero, Nat.sub_zero, sealL_take _ m hl]
theorem not_xor' (n : Nat) (h : n < 4294967296) : 4294967295 ^^^ n = neg n := by
  apply Nat.eq_of_testBit_eq
  intro i
  have h1 : (4294967295 : Nat).testBit i = decide (i < 32) := by
    rw [show (4294967295 : Nat) = 2 ^ 32 - 1 from rfl, Nat.testBit_two_pow_sub_one]
  have h2 : (neg n).testBit i = (decide (i < 32) && !n.testBit i) := by
    rw [show neg n = 2 ^ 32 - (n + 1) from by unfold neg; omega, Nat.testBit_two_pow_sub_succ (show n < 2 ^ 32 from h)]
  rw [Nat.testBit_xor, h1, h2]
  by_cases hi : i < 32
  · simp [hi]
  · have : n.testBit i = false := Nat.testBit_lt_two_pow (Nat.lt_of_lt_of_le h (show (2 : Nat) ^ 32 ≤ 2 ^ i from Nat.pow_le_pow_right (by decide) (by omega)))
    simp [hi, this]
end Go.Proofs.YtmikllmpinciiaaDoor.Crc
