/- The field of 256 numbers in plain Nats: a product by doubling is linear on both sides, hangs on no order, and is grouped in any way. Nothing of the program stands here. -/
namespace Go.Proofs.Ytjephdeolifbpaa.Gfm
def dbl (a : Nat) : Nat := if a < 128 then 2 * a else (2 * a - 256) ^^^ 29
def mulN : Nat → Nat → Nat → Nat
  | 0, _, _ => 0
  | n + 1, a, b => (if b % 2 = 1 then a else 0) ^^^ mulN n (dbl a) (b / 2)
def mul (a b : Nat) : Nat := mulN 8 a b
def allB (p : Nat → Bool) : Bool := (List.range 256).all p
theorem allB_of {p : Nat → Bool} (h : allB p = true) (a : Nat) (ha : a < 256) : p a = true := by
  unfold allB at h; rw [List.all_eq_true] at h; exact h a (List.mem_range.2 ha)
theorem xlt {a b : Nat} (ha : a < 256) (hb : b < 256) : a ^^^ b < 256 := Nat.xor_lt_two_pow (n := 8) ha hb
theorem dbl_lt_all : allB (fun a => decide (dbl a < 256)) = true := by decide +kernel
theorem dbl_lt {a : Nat} (ha : a < 256) : dbl a < 256 := of_decide_eq_true (allB_of dbl_lt_all a ha)
/- each number below 256 is made of powers of two -/
theorem parts_all : allB (fun a => a == 0 || (List.range 8).any fun i => decide (2 ^ i ≤ a) && (a == (2 ^ i ^^^ (a - 2 ^ i)))) = true := by decide +kernel
theorem xor_ind {P : Nat → Prop} (h0 : P 0) (hp : ∀ i, i < 8 → P (2 ^ i)) (hx : ∀ a b, a < 256 → b < 256 → P a → P b → P (a ^^^ b)) : ∀ a, a < 256 → P a := by
  intro a
  induction a using Nat.strongRecOn with
  | ind a ih =>
    intro ha
    have h := allB_of parts_all a ha
    rw [Bool.or_eq_true] at h
    rcases h with h | h
    · have : a = 0 := by simpa using h
      rw [this]; exact h0
    · rw [List.any_eq_true] at h
      obtain ⟨i, hi, h⟩ := h
      have hi := List.mem_range.1 hi
      simp only [Bool.and_eq_true, decide_eq_true_eq, beq_iff_eq] at h
      obtain ⟨h1, h2⟩ := h
      have hpos : 0 < 2 ^ i := Nat.two_pow_pos i
      rw [h2]
      exact hx _ _ (by omega) (by omega) (hp i hi) (ih _ (by omega) (by omega))
theorem dbl_xor1_all : ((List.range 8).all fun i => allB fun b => dbl (2 ^ i ^^^ b) == (dbl (2 ^ i) ^^^ dbl b)) = true := by decide +kernel
theorem xcomm4 (a b c d : Nat) : (a ^^^ b) ^^^ (c ^^^ d) = (a ^^^ c) ^^^ (b ^^^ d) := by ac_rfl
theorem dbl_xor {a b : Nat} (ha : a < 256) (hb : b < 256) : dbl (a ^^^ b) = dbl a ^^^ dbl b := by
  refine xor_ind (P := fun a => ∀ b, b < 256 → dbl (a ^^^ b) = dbl a ^^^ dbl b) ?_ ?_ ?_ a ha b hb
  · intro b _; simp [dbl]
  · intro i hi b hb
    have h := dbl_xor1_all
    rw [List.all_eq_true] at h
    simpa using allB_of (h i (List.mem_range.2 hi)) b hb
  · intro a a' ha ha' h h' b hb
    rw [Nat.xor_assoc, h _ (xlt ha' hb), h' _ hb, h _ ha', Nat.xor_assoc]
theorem mulN_lt (n : Nat) : ∀ {a b : Nat}, a < 256 → mulN n a b < 256 := by
  induction n with
  | zero => intro a b _; simp [mulN]
  | succ n ih =>
    intro a b ha
    simp only [mulN]
    refine xlt ?_ (ih (dbl_lt ha))
    split <;> omega
theorem mul_lt {a b : Nat} (ha : a < 256) : mul a b < 256 := mulN_lt 8 ha
theorem mulN_xor_left (n : Nat) : ∀ {a a' b : Nat}, a < 256 → a' < 256 → mulN n (a ^^^ a') b = mulN n a b ^^^ mulN n a' b := by
  induction n with
  | zero => intros; simp [mulN]
  | succ n ih =>
    intro a a' b ha ha'
    simp only [mulN]
    rw [dbl_xor ha ha', ih (dbl_lt ha) (dbl_lt ha'), xcomm4]
    congr 1
    split <;> simp
theorem mulN_xor_right (n : Nat) : ∀ {a b b' : Nat}, mulN n a (b ^^^ b') = mulN n a b ^^^ mulN n a b' := by
  induction n with
  | zero => intros; simp [mulN]
  | succ n ih =>
    intro a b b'
    simp only [mulN]
    have e2 : (b ^^^ b') / 2 = b / 2 ^^^ b' / 2 := by
      simpa using Nat.xor_div_two_pow (a := b) (b := b') (n := 1)
    rw [e2, ih, xcomm4]
    congr 1
    have e1 : (b ^^^ b') % 2 = (b % 2) ^^^ (b' % 2) := by simpa using Nat.xor_mod_two_pow (a := b) (b := b') (n := 1)
    have l1 : b % 2 < 2 := Nat.mod_lt _ (by omega)
    have l2 : b' % 2 < 2 := Nat.mod_lt _ (by omega)
    rw [e1]
    rcases (by omega : b % 2 = 0 ∨ b % 2 = 1) with h | h <;> rcases (by omega : b' % 2 = 0 ∨ b' % 2 = 1) with h' | h' <;> simp [h, h']
theorem mul_xor_left {a a' : Nat} (b : Nat) (ha : a < 256) (ha' : a' < 256) : mul (a ^^^ a') b = mul a b ^^^ mul a' b := mulN_xor_left 8 ha ha'
theorem mul_xor_right (a b b' : Nat) : mul a (b ^^^ b') = mul a b ^^^ mul a b' := mulN_xor_right 8
theorem mulN_zero_right (n a : Nat) : mulN n a 0 = 0 := by
  induction n generalizing a with
  | zero => rfl
  | succ n ih => simp [mulN, ih]
theorem mulN_zero_left (n b : Nat) : mulN n 0 b = 0 := by
  induction n generalizing b with
  | zero => rfl
  | succ n ih => simp [mulN, dbl, ih]
theorem mul_zero (a : Nat) : mul a 0 = 0 := mulN_zero_right 8 a
theorem zero_mul (a : Nat) : mul 0 a = 0 := mulN_zero_left 8 a
theorem basis_comm : ((List.range 8).all fun i => (List.range 8).all fun j => mul (2 ^ i) (2 ^ j) == mul (2 ^ j) (2 ^ i)) = true := by decide +kernel
theorem mul_comm {a b : Nat} (ha : a < 256) (hb : b < 256) : mul a b = mul b a := by
  refine xor_ind (P := fun a => mul a b = mul b a) ?_ ?_ ?_ a ha
  · rw [zero_mul, mul_zero]
  · intro i hi
    refine xor_ind (P := fun b => mul (2 ^ i) b = mul b (2 ^ i)) ?_ ?_ ?_ b hb
    · rw [zero_mul, mul_zero]
    · intro j hj
      have h := basis_comm
      rw [List.all_eq_true] at h
      have h := h i (List.mem_range.2 hi)
      rw [List.all_eq_true] at h
      simpa using h j (List.mem_range.2 hj)
    · intro x y hx hy h1 h2; rw [mul_xor_right, mul_xor_left _ hx hy, h1, h2]
  · intro x y hx hy h1 h2; rw [mul_xor_right, mul_xor_left _ hx hy, h1, h2]
theorem basis_dbl : ((List.range 8).all fun i => (List.range 8).all fun j => mul (2 ^ i) (dbl (2 ^ j)) == dbl (mul (2 ^ i) (2 ^ j))) = true := by decide +kernel
theorem p2lt {i : Nat} (hi : i < 8) : 2 ^ i < 256 := Nat.pow_lt_pow_right (a := 2) (by decide) hi
theorem mul_dbl {a b : Nat} (ha : a < 256) (hb : b < 256) : mul a (dbl b) = dbl (mul a b) := by
  refine xor_ind (P := fun a => mul a (dbl b) = dbl (mul a b)) ?_ ?_ ?_ a ha
  · rw [zero_mul, zero_mul]; rfl
  · intro i hi
    have hp := p2lt hi
    refine xor_ind (P := fun b => mul (2 ^ i) (dbl b) = dbl (mul (2 ^ i) b)) ?_ ?_ ?_ b hb
    · rw [mul_zero]; exact mul_zero _
    · intro j hj
      have h := basis_dbl
      rw [List.all_eq_true] at h
      have h := h i (List.mem_range.2 hi)
      rw [List.all_eq_true] at h
      simpa using h j (List.mem_range.2 hj)
    · intro x y hx hy h1 h2
      rw [dbl_xor hx hy, mul_xor_right, mul_xor_right, dbl_xor (mul_lt hp) (mul_lt hp), h1, h2]
  · intro x y hx hy h1 h2; rw [mul_xor_left _ hx hy, mul_xor_left _ hx hy, dbl_xor (mul_lt hx) (mul_lt hy), h1, h2]
theorem mul_one_all : allB (fun a => mul a 1 == a) = true := by decide +kernel
theorem mul_one {a : Nat} (ha : a < 256) : mul a 1 = a := by simpa using allB_of mul_one_all a ha
theorem one_mul {a : Nat} (ha : a < 256) : mul 1 a = a := by rw [mul_comm (by omega) ha, mul_one ha]
theorem dbl_pow : ((List.range 7).all fun i => dbl (2 ^ i) == 2 ^ (i + 1)) = true := by decide +kernel
theorem mul_assoc {a b c : Nat} (ha : a < 256) (hb : b < 256) (hc : c < 256) : mul a (mul b c) = mul (mul a b) c := by
  refine xor_ind (P := fun c => mul a (mul b c) = mul (mul a b) c) ?_ ?_ ?_ c hc
  · rw [mul_zero, mul_zero, mul_zero]
  · intro i hi
    induction i with
    | zero => rw [show 2 ^ 0 = 1 from rfl, mul_one hb, mul_one (mul_lt ha)]
    | succ i ih =>
      have h := dbl_pow
      rw [List.all_eq_true] at h
      have h : dbl (2 ^ i) = 2 ^ (i + 1) := by simpa using h i (List.mem_range.2 (by omega))
      have hi' : i < 8 := by omega
      rw [← h, mul_dbl hb (p2lt hi'), mul_dbl ha (mul_lt hb), ih hi', mul_dbl (mul_lt ha) (p2lt hi')]
  · intro x y hx hy h1 h2; simp only [mul_xor_right]; rw [h1, h2]
theorem mulN_small (n : Nat) : ∀ {a b : Nat}, b < 2 ^ n → mulN (n + 1) a b = mulN n a b := by
  induction n with
  | zero => intro a b h; have : b = 0 := by simpa using h
            subst this; simp [mulN]
  | succ n ih =>
    intro a b h
    have : b / 2 < 2 ^ n := by rw [Nat.pow_succ] at h; omega
    rw [mulN, ih this]; rfl
/- the step of the loop -/
theorem mul_step {a b : Nat} (hb : b < 256) : mul a b = (if b % 2 = 1 then a else 0) ^^^ mul (dbl a) (b / 2) := by
  have h : mulN 8 (dbl a) (b / 2) = mulN 7 (dbl a) (b / 2) := mulN_small 7 (by omega)
  unfold mul
  rw [h]; rfl
/- powers -/
def pw (a : Nat) : Nat → Nat
  | 0 => 1
  | k + 1 => mul (pw a k) a
theorem pw_lt {a : Nat} (k : Nat) : pw a k < 256 := by
  induction k with
  | zero => show 1 < 256; omega
  | succ k ih => exact mul_lt ih
theorem pw_add {a : Nat} (ha : a < 256) (j k : Nat) : mul (pw a j) (pw a k) = pw a (j + k) := by
  induction k with
  | zero => exact mul_one (pw_lt j)
  | succ k ih =>
    show mul (pw a j) (mul (pw a k) a) = mul (pw a (j + k)) a
    rw [mul_assoc (pw_lt j) (pw_lt k) ha, ih]
theorem pw_one {a : Nat} (ha : a < 256) : pw a 1 = a := one_mul ha
theorem pw_mul {a : Nat} (ha : a < 256) (j k : Nat) : pw (pw a j) k = pw a (j * k) := by
  induction k with
  | zero => rfl
  | succ k ih =>
    show mul (pw (pw a j) k) (pw a j) = _
    rw [ih, pw_add ha, Nat.mul_succ]
theorem pw_sq {a : Nat} (ha : a < 256) (k : Nat) : pw (mul a a) k = pw a (2 * k) := by
  have h : mul a a = pw a 2 := by show _ = mul (pw a 1) a; rw [pw_one ha]
  rw [h, pw_mul ha]
/- the step of fast powers -/
theorem pw_step {a o : Nat} (ha : a < 256) (ho : o < 256) (k : Nat) :
    mul o (pw a k) = mul (if k % 2 = 1 then mul o a else o) (pw (mul a a) (k / 2)) := by
  rw [pw_sq ha]
  by_cases h : k % 2 = 1
  · rw [if_pos h, ← mul_assoc ho ha (pw_lt _)]
    conv => lhs; rw [show k = 1 + 2 * (k / 2) from by omega, ← pw_add ha, pw_one ha]
  · rw [if_neg h]
    conv => lhs; rw [show k = 2 * (k / 2) from by omega]
theorem zero_pw (k : Nat) (h : k ≠ 0) : pw 0 k = 0 := by
  cases k with
  | zero => exact absurd rfl h
  | succ k => exact mul_zero _
theorem one_pw (k : Nat) : pw 1 k = 1 := by
  induction k with
  | zero => rfl
  | succ k ih => show mul (pw 1 k) 1 = 1; rw [ih]; exact mul_one (by omega)
/- each number but nought comes round behind 255 -/
def fast (a : Nat) : Nat :=
  let b := mul a a; let c := mul b b; let d := mul c c; let e := mul d d; let f := mul e e; let g := mul f f; let h := mul g g
  mul a (mul b (mul c (mul d (mul e (mul f (mul g h))))))
theorem fast_all : allB (fun a => a == 0 || fast a == 1) = true := by decide +kernel
theorem fast_pw {a : Nat} (ha : a < 256) : fast a = pw a 255 := by
  have s : ∀ j, mul (pw a j) (pw a j) = pw a (2 * j) := fun j => by rw [pw_add ha, Nat.two_mul]
  have h1 := pw_one ha
  unfold fast
  have e0 : a = pw a 1 := h1.symm
  have eb : mul a a = pw a 2 := by rw [e0, pw_one ha]; exact by conv => lhs; rw [e0, s 1]
  simp only [eb, s]
  conv => lhs; rw [show mul a = mul (pw a 1) from by rw [h1]]
  simp only [pw_add ha]
theorem pw_255 {a : Nat} (ha : a < 256) (h : a ≠ 0) : pw a 255 = 1 := by
  have := allB_of fast_all a ha
  rw [Bool.or_eq_true] at this
  rcases this with g | g
  · exact absurd (by simpa using g) h
  · rw [← fast_pw ha]; simpa using g
theorem pw_mod {a : Nat} (ha : a < 256) (h : a ≠ 0) (k : Nat) : pw a k = pw a (k % 255) := by
  conv => lhs; rw [← Nat.div_add_mod k 255, ← pw_add ha, ← pw_mul ha, pw_255 ha h, one_pw, one_mul (pw_lt _)]
/- inverses -/
def inv (a : Nat) : Nat := pw a 254
theorem inv_lt (a : Nat) : inv a < 256 := pw_lt _
theorem mul_inv {a : Nat} (ha : a < 256) (h : a ≠ 0) : mul a (inv a) = 1 := by
  have : mul (pw a 1) (pw a 254) = pw a 255 := pw_add ha 1 254
  rw [pw_one ha] at this
  rw [inv, this, pw_255 ha h]
theorem mul_ne {a b : Nat} (ha : a < 256) (hb : b < 256) (h : a ≠ 0) (hm : mul a b = 0) : b = 0 := by
  have h1 : mul (inv a) (mul a b) = b := by
    rw [mul_assoc (inv_lt a) ha hb, mul_comm (inv_lt a) ha, mul_inv ha h, one_mul hb]
  rw [← h1, hm, mul_zero]
theorem inv_ne {a : Nat} (ha : a < 256) (h : a ≠ 0) : inv a ≠ 0 := by
  intro e
  have := mul_inv ha h
  rw [e, mul_zero] at this
  exact absurd this (by omega)
theorem mul_cancel {a b c : Nat} (ha : a < 256) (hb : b < 256) (hc : c < 256) (h : a ≠ 0) (e : mul a b = mul a c) : b = c := by
  have k : ∀ x, x < 256 → mul (inv a) (mul a x) = x := fun x hx => by
    rw [mul_assoc (inv_lt a) ha hx, mul_comm (inv_lt a) ha, mul_inv ha h, one_mul hx]
  rw [← k b hb, e, k c hc]
theorem inv_inv {a : Nat} (ha : a < 256) (h : a ≠ 0) : inv (inv a) = a := by
  refine mul_cancel (inv_lt a) (inv_lt _) ha (inv_ne ha h) ?_
  rw [mul_inv (inv_lt a) (inv_ne ha h), mul_comm (inv_lt a) ha, mul_inv ha h]
end Go.Proofs.Ytjephdeolifbpaa.Gfm
