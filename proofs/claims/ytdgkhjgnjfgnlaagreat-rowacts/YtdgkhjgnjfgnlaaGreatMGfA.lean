import Derived.Test.YtdgkhjgnjfgnlaaGreatRows
import Derived.Test.YtdgkhjgnjfgnlaaGreatMKitA
namespace Go.Proofs.YtdgkhjgnjfgnlaaGreat.Gfm
def dbl (a : Nat) : Nat := if a < 128 then 2 * a else (2 * a - 256) ^^^ 29
def mulN : Nat → Nat → Nat → Nat
 | 0, _, _ => 0
 | n + 1, a, b => (if b % 2 = 1 then a else 0) ^^^ mulN n (dbl a) (b / 2)
def mul (a b : Nat) : Nat := mulN 8 a b
def allB (p : Nat → Bool) : Bool := (List.range 256).all p
theorem allB_of {p : Nat → Bool} (h : allB p = true) (a : Nat) (ha : a < 256) : p a = true := by
 unfold allB at h; rw [List.all_eq_true] at h; exact h a (List.mem_range.2 ha)
theorem xlt {a b : Nat} (ha : a < 256) (hb : b < 256) : a ^^^ b < 256 := Nat.xor_lt_two_pow (n := 8) ha hb
theorem dbl_lt_all : allB (fun a => decide (dbl a < 256)) = true := by decide +kernel
theorem dbl_lt {a : Nat} (ha : a < 256) : dbl a < 256 := of_decide_eq_true (allB_of dbl_lt_all a ha)
theorem parts_all : allB (fun a => a == 0 || (List.range 8).any fun i => decide (2 ^ i ≤ a) && (a == (2 ^ i ^^^ (a - 2 ^ i)))) = true := by decide +kernel
theorem xor_ind {P : Nat → Prop} (h0 : P 0) (hp : ∀ i, i < 8 → P (2 ^ i)) (hx : ∀ a b, a < 256 → b < 256 → P a → P b → P (a ^^^ b)) : ∀ a, a < 256 → P a := by
 intro a
 induction a using Nat.strongRecOn with
 | ind a ih =>
  intro ha
  have h := allB_of parts_all a ha
  rw [Bool.or_eq_true] at h
  rcases h with h | h
  ·have : a = 0 := by simpa using h
   rw [this]; exact h0
  ·rw [List.any_eq_true] at h
   obtain ⟨i, hi, h⟩ := h
   have hi := List.mem_range.1 hi
   simp only [Bool.and_eq_true, decide_eq_true_eq, beq_iff_eq] at h
   obtain ⟨h1, h2⟩ := h
   have hpos : 0 < 2 ^ i := Nat.two_pow_pos i
   rw [h2]
   exact hx _ _ (by omega) (by omega) (hp i hi) (ih _ (by omega) (by omega))
theorem dbl_xor1_all : ((List.range 8).all fun i => allB fun b => dbl (2 ^ i ^^^ b) == (dbl (2 ^ i) ^^^ dbl b)) = true := by decide +kernel
theorem xcomm4 (a b c d : Nat) : (a ^^^ b) ^^^ (c ^^^ d) = (a ^^^ c) ^^^ (b ^^^ d) := by ac_rfl
theorem dbl_xor {a b : Nat} (ha : a < 256) (hb : b < 256) : dbl (a ^^^ b) = dbl a ^^^ dbl b := by
 refine xor_ind (P := fun a => ∀ b, b < 256 → dbl (a ^^^ b) = dbl a ^^^ dbl b) ?_ ?_ ?_ a ha b hb
 ·intro b _; simp [dbl]
 ·intro i hi b hb
  have h := dbl_xor1_all
  rw [List.all_eq_true] at h
  simpa using allB_of (h i (List.mem_range.2 hi)) b hb
 ·intro a a' ha ha' h h' b hb
  rw [Nat.xor_assoc, h _ (xlt ha' hb), h' _ hb, h _ ha', Nat.xor_assoc]
theorem mulN_lt (n : Nat) : ∀ {a b : Nat}, a < 256 → mulN n a b < 256 := by
 induction n with
 | zero => intro a b _; simp [mulN]
 | succ n ih =>
  intro a b ha
  simp only [mulN]
  refine xlt ?_ (ih (dbl_lt ha))
  split <;> omega
theorem mul_lt {a b : Nat} (ha : a < 256) : mul a b < 256 := mulN_lt 8 ha
theorem mulN_xor_left (n : Nat) : ∀ {a a' b : Nat}, a < 256 → a' < 256 → mulN n (a ^^^ a') b = mulN n a b ^^^ mulN n a' b := by
 induction n with
 | zero => intros; simp [mulN]
 | succ n ih =>
  intro a a' b ha ha'
  simp only [mulN]
  rw [dbl_xor ha ha', ih (dbl_lt ha) (dbl_lt ha'), xcomm4]
  congr 1
  split <;> simp
theorem mulN_xor_right (n : Nat) : ∀ {a b b' : Nat}, mulN n a (b ^^^ b') = mulN n a b ^^^ mulN n a b' := by
 induction n with
 | zero => intros; simp [mulN]
 | succ n ih =>
  intro a b b'
  simp only [mulN]
  have e2 : (b ^^^ b') / 2 = b / 2 ^^^ b' / 2 := by
   simpa using Nat.xor_div_two_pow (a := b) (b := b') (n := 1)
  rw [e2, ih, xcomm4]
  congr 1
  have e1 : (b ^^^ b') % 2 = (b % 2) ^^^ (b' % 2) := by simpa using Nat.xor_mod_two_pow (a := b) (b := b') (n := 1)
  have l1 : b % 2 < 2 := Nat.mod_lt _ (by omega)
  have l2 : b' % 2 < 2 := Nat.mod_lt _ (by omega)
  rw [e1]
  rcases (by omega : b % 2 = 0 ∨ b % 2 = 1) with h | h <;> rcases (by omega : b' % 2 = 0 ∨ b' % 2 = 1) with h' | h' <;> simp [h, h']
theorem mul_xor_left {a a' : Nat} (b : Nat) (ha : a < 256) (ha' : a' < 256) : mul (a ^^^ a') b = mul a b ^^^ mul a' b := mulN_xor_left 8 ha ha'
theorem mul_xor_right (a b b' : Nat) : mul a (b ^^^ b') = mul a b ^^^ mul a b' := mulN_xor_right 8
theorem mulN_zero_right (n a : Nat) : mulN n a 0 = 0 := by
 induction n generalizing a with
 | zero => rfl
 | succ n ih => simp [mulN, ih]
theorem mulN_zero_left (n b : Nat) : mulN n 0 b = 0 := by
 induction n generalizing b with
 | zero => rfl
 | succ n ih => simp [mulN, dbl, ih]
theorem mul_zero (a : Nat) : mul a 0 = 0 := mulN_zero_right 8 a
theorem zero_mul (a : Nat) : mul 0 a = 0 := mulN_zero_left 8 a
theorem basis_comm : ((List.range 8).all fun i => (List.range 8).all fun j => mul (2 ^ i) (2 ^ j) == mul (2 ^ j) (2 ^ i)) = true := by decide +kernel
theorem mul_comm {a b : Nat} (ha : a < 256) (hb : b < 256) : mul a b = mul b a := by
 refine xor_ind (P := fun a => mul a b = mul b a) ?_ ?_ ?_ a ha
 ·rw [zero_mul, mul_zero]
 ·intro i hi
  refine xor_ind (P := fun b => mul (2 ^ i) b = mul b (2 ^ i)) ?_ ?_ ?_ b hb
  ·rw [zero_mul, mul_zero]
  ·intro j hj
   have h := basis_comm
   rw [List.all_eq_true] at h
   have h := h i (List.mem_range.2 hi)
   rw [List.all_eq_true] at h
   simpa using h j (List.mem_range.2 hj)
  ·intro x y hx hy h1 h2; rw [mul_xor_right, mul_xor_left _ hx hy, h1, h2]
 ·intro x y hx hy h1 h2; rw [mul_xor_right, mul_xor_left _ hx hy, h1, h2]
theorem basis_dbl : ((List.range 8).all fun i => (List.range 8).all fun j => mul (2 ^ i) (dbl (2 ^ j)) == dbl (mul (2 ^ i) (2 ^ j))) = true := by decide +kernel
theorem p2lt {i : Nat} (hi : i < 8) : 2 ^ i < 256 := Nat.pow_lt_pow_right (a := 2) (by decide) hi
theorem mul_dbl {a b : Nat} (ha : a < 256) (hb : b < 256) : mul a (dbl b) = dbl (mul a b) := by
 refine xor_ind (P := fun a => mul a (dbl b) = dbl (mul a b)) ?_ ?_ ?_ a ha
 ·rw [zero_mul, zero_mul]; rfl
 ·intro i hi
  have hp := p2lt hi
  refine xor_ind (P := fun b => mul (2 ^ i) (dbl b) = dbl (mul (2 ^ i) b)) ?_ ?_ ?_ b hb
  ·rw [mul_zero]; exact mul_zero _
  ·intro j hj
   have h := basis_dbl
   rw [List.all_eq_true] at h
   have h := h i (List.mem_range.2 hi)
   rw [List.all_eq_true] at h
   simpa using h j (List.mem_range.2 hj)
  ·intro x y hx hy h1 h2
   rw [dbl_xor hx hy, mul_xor_right, mul_xor_right, dbl_xor (mul_lt hp) (mul_lt hp), h1, h2]
 ·intro x y hx hy h1 h2; rw [mul_xor_left _ hx hy, mul_xor_left _ hx hy, dbl_xor (mul_lt hx) (mul_lt hy), h1, h2]
theorem mul_one_all : allB (fun a => mul a 1 == a) = true := by decide +kernel
theorem mul_one {a : Nat} (ha : a < 256) : mul a 1 = a := by simpa using allB_of mul_one_all a ha
theorem one_mul {a : Nat} (ha : a < 256) : mul 1 a = a := by rw [mul_comm (by omega) ha, mul_one ha]
theorem dbl_pow : ((List.range 7).all fun i => dbl (2 ^ i) == 2 ^ (i + 1)) = true := by decide +kernel
theorem mul_assoc {a b c : Nat} (ha : a < 256) (hb : b < 256) (hc : c < 256) : mul a (mul b c) = mul (mul a b) c := by
 refine xor_ind (P := fun c => mul a (mul b c) = mul (mul a b) c) ?_ ?_ ?_ c hc
 ·rw [mul_zero, mul_zero, mul_zero]
 ·intro i hi
  induction i with
  | zero => rw [show 2 ^ 0 = 1 from rfl, mul_one hb, mul_one (mul_lt ha)]
  | succ i ih =>
   have h := dbl_pow
   rw [List.all_eq_true] at h
   have h : dbl (2 ^ i) = 2 ^ (i + 1) := by simpa using h i (List.mem_range.2 (by omega))
   have hi' : i < 8 := by omega
   rw [← h, mul_dbl hb (p2lt hi'), mul_dbl ha (mul_lt hb), ih hi', mul_dbl (mul_lt ha) (p2lt hi')]
 ·intro x y hx hy h1 h2; simp only [mul_xor_right]; rw [h1, h2]
theorem mulN_small (n : Nat) : ∀ {a b : Nat}, b < 2 ^ n → mulN (n + 1) a b = mulN n a b := by
  induction n with
  | zero => intro a b h; have : b = 0 := by simpa using h
            subst this; simp [mulN]
  | succ n ih =>
    intro a b h
    have : b / 2 < 2 ^ n := by rw [Nat.pow_succ] at h; omega
    rw [mulN, ih this]; rfl
theorem mul_step {a b : Nat} (hb : b < 256) : mul a b = (if b % 2 = 1 then a else 0) ^^^ mul (dbl a) (b / 2) := by
 have h : mulN 8 (dbl a) (b / 2) = mulN 7 (dbl a) (b / 2) := mulN_small 7 (by omega)
 unfold mul
 rw [h]; rfl
def pw (a : Nat) : Nat → Nat
 | 0 => 1
 | k + 1 => mul (pw a k) a
theorem pw_lt {a : Nat} (k : Nat) : pw a k < 256 := by
 induction k with
 | zero => show 1 < 256; omega
 | succ k ih => exact mul_lt ih
theorem pw_add {a : Nat} (ha : a < 256) (j k : Nat) : mul (pw a j) (pw a k) = pw a (j + k) := by
 induction k with
 | zero => exact mul_one (pw_lt j)
 | succ k ih =>
  show mul (pw a j) (mul (pw a k) a) = mul (pw a (j + k)) a
  rw [mul_assoc (pw_lt j) (pw_lt k) ha, ih]
theorem pw_one {a : Nat} (ha : a < 256) : pw a 1 = a := one_mul ha
theorem pw_mul {a : Nat} (ha : a < 256) (j k : Nat) : pw (pw a j) k = pw a (j * k) := by
 induction k with
 | zero => rfl
 | succ k ih =>
  show mul (pw (pw a j) k) (pw a j) = _
  rw [ih, pw_add ha, Nat.mul_succ]
theorem pw_sq {a : Nat} (ha : a < 256) (k : Nat) : pw (mul a a) k = pw a (2 * k) := by
 have h : mul a a = pw a 2 := by show _ = mul (pw a 1) a; rw [pw_one ha]
 rw [h, pw_mul ha]
theorem pw_step {a o : Nat} (ha : a < 256) (ho : o < 256) (k : Nat) :
  mul o (pw a k) = mul (if k % 2 = 1 then mul o a else o) (pw (mul a a) (k / 2)) := by
 rw [pw_sq ha]
 by_cases h : k % 2 = 1
 ·rw [if_pos h, ← mul_assoc ho ha (pw_lt _)]
  conv => lhs; rw [show k = 1 + 2 * (k / 2) from by omega, ← pw_add ha, pw_one ha]
 ·rw [if_neg h]
  conv => lhs; rw [show k = 2 * (k / 2) from by omega]
theorem zero_pw (k : Nat) (h : k ≠ 0) : pw 0 k = 0 := by
 cases k with
 | zero => exact absurd rfl h
 | succ k => exact mul_zero _
theorem one_pw (k : Nat) : pw 1 k = 1 := by
 induction k with
 | zero => rfl
 | succ k ih => show mul (pw 1 k) 1 = 1; rw [ih]; exact mul_one (by omega)
def fast (a : Nat) : Nat :=
 let b := mul a a; let c := mul b b; let d := mul c c; let e := mul d d; let f := mul e e; let g := mul f f; let h := mul g g
 mul a (mul b (mul c (mul d (mul e (mul f (mul g h))))))
theorem fast_all : allB (fun a => a == 0 || fast a == 1) = true := by decide +kernel
theorem fast_pw {a : Nat} (ha : a < 256) : fast a = pw a 255 := by
 have s : ∀ j, mul (pw a j) (pw a j) = pw a (2 * j) := fun j => by rw [pw_add ha, Nat.two_mul]
 have h1 := pw_one ha
 unfold fast
 have e0 : a = pw a 1 := h1.symm
 have eb : mul a a = pw a 2 := by rw [e0, pw_one ha]; exact by conv => lhs; rw [e0, s 1]
 simp only [eb, s]
 conv => lhs; rw [show mul a = mul (pw a 1) from by rw [h1]]
 simp only [pw_add ha]
theorem pw_255 {a : Nat} (ha : a < 256) (h : a ≠ 0) : pw a 255 = 1 := by
 have := allB_of fast_all a ha
 rw [Bool.or_eq_true] at this
 rcases this with g | g
 ·exact absurd (by simpa using g) h
 ·rw [← fast_pw ha]; simpa using g
theorem pw_mod {a : Nat} (ha : a < 256) (h : a ≠ 0) (k : Nat) : pw a k = pw a (k % 255) := by
 conv => lhs; rw [← Nat.div_add_mod k 255, ← pw_add ha, ← pw_mul ha, pw_255 ha h, one_pw, one_mul (pw_lt _)]
def inv (a : Nat) : Nat := pw a 254
theorem inv_lt (a : Nat) : inv a < 256 := pw_lt _
theorem mul_inv {a : Nat} (ha : a < 256) (h : a ≠ 0) : mul a (inv a) = 1 := by
 have : mul (pw a 1) (pw a 254) = pw a 255 := pw_add ha 1 254
 rw [pw_one ha] at this
 rw [inv, this, pw_255 ha h]
end Go.Proofs.YtdgkhjgnjfgnlaaGreat.Gfm
namespace Go.Proofs.YtdgkhjgnjfgnlaaGreat
open Go.RowKit
namespace Gfm
theorem and128_all : allB (fun a => (a &&& 128 != 0) == decide (128 ≤ a)) = true := by decide +kernel
theorem and128 (a : Nat) (ha : a < 256) : (bits BinOp.and IntKind.u8 (a : Int) 128 != 0) = decide (128 ≤ a) := by
 have h := allB_of and128_all a ha
 have e : bits .and .u8 (a : Int) ((128 : Nat) : Int) = ((a &&& 128 : Nat) : Int) := u8_and_nat a 128 ha (by decide)
 rw [show ((128 : Nat) : Int) = 128 from rfl] at e
 rw [e, ← (by simpa using h : (a &&& 128 != 0) = decide (128 ≤ a))]
 rw [Bool.eq_iff_iff]; simp
theorem and1_all : allB (fun a => (a &&& 1 == 1) == decide (a % 2 = 1)) = true := by decide +kernel
theorem and1 (a : Nat) (ha : a < 256) : (bits BinOp.and IntKind.u8 (a : Int) 1 == 1) = decide (a % 2 = 1) := by
 have h := allB_of and1_all a ha
 have e : bits .and .u8 (a : Int) ((1 : Nat) : Int) = ((a &&& 1 : Nat) : Int) := u8_and_nat a 1 ha (by decide)
 rw [show ((1 : Nat) : Int) = 1 from rfl] at e
 rw [e, ← (by simpa using h : (a &&& 1 == 1) = decide (a % 2 = 1))]
 rw [Bool.eq_iff_iff]; simp; omega
theorem dbl_hi_all : allB (fun a => decide (a < 128) || (dbl a == (a * 2 % 256) ^^^ 29)) = true := by decide +kernel
theorem dbl_hi (a : Nat) (ha : a < 256) (h : 128 ≤ a) : bits BinOp.xor IntKind.u8 ((a : Int) * 2 % 256) 29 = ((dbl a : Nat) : Int) := by
 have h' := allB_of dbl_hi_all a ha
 have e : bits .xor .u8 ((a * 2 % 256 : Nat) : Int) ((29 : Nat) : Int) = ((a * 2 % 256 ^^^ 29 : Nat) : Int) := u8_xor_nat _ _ (by omega) (by decide)
 rw [show dbl a = (a * 2 % 256) ^^^ 29 from by simp at h'; omega, ← e]; simp
theorem dbl_lo (a : Nat) (h : a < 128) : ((a : Int) * 2 % 256) = ((dbl a : Nat) : Int) := by
 unfold dbl; rw [if_pos h]; omega
end Gfm
set_option maxRecDepth 100000 in
set_option maxHeartbeats 400000 in
theorem double_any (a : Nat) (h : a < 256) (w : World) :
  Calls Tryz.prog 160 #[.int .u8 a] w fun e w' => e = .returned (.int .u8 (Gfm.dbl a : Nat)) ∧ w' = w := by
 have hd := Gfm.and128 a h
 by_cases hb : a < 128
 ·have hd : (bits BinOp.and IntKind.u8 (a : Int) 128 != 0) = false := by rw [hd]; simp; omega
  have e := Gfm.dbl_lo a hb
  go_enter Tryz.func160, Tryz.ntmps160
  go_wp2
  go_ret
  exact ⟨ret_int (by omega), rfl⟩
 ·have hd : (bits BinOp.and IntKind.u8 (a : Int) 128 != 0) = true := by rw [hd]; simp; omega
  have e := Gfm.dbl_hi a h (by omega)
  have He : Hid (bits BinOp.xor IntKind.u8 ((a : Int) * 2 % 256) 29 = ((Gfm.dbl a : Nat) : Int)) := e
  clear e
  go_enter Tryz.func160, Tryz.ntmps160
  go_wp2
  go_ret
  exact ⟨ret_int He.out, rfl⟩
set_option maxRecDepth 100000 in
set_option maxHeartbeats 400000 in
theorem product_any (a b : Nat) (ha : a < 256) (hb : b < 256) (w : World) :
  Calls Tryz.prog 144 #[.int .u8 a, .int .u8 b] w fun e w' => e = .returned (.int .u8 (Gfm.mul a b : Nat)) ∧ w' = w := by
 go_enter Tryz.func144, Tryz.ntmps144
 go_wp2
 go_loop [0, 1, 5] (fun x y s => ∃ A B S : Nat, A < 256 ∧ B < 256 ∧ S < 256 ∧ S ^^^ Gfm.mul A B = Gfm.mul a b ∧ x = .int .u8 A ∧ y = .int .u8 B ∧ s = .int .u8 S) (fun _ y _ => (intOf y).toNat)
 case atStart => exact ⟨a, b, 0, ha, hb, by omega, by simp, rfl, rfl, rfl⟩
 case round =>
  obtain ⟨A, B, S, hA, hB, hS, he, rfl, rfl, rfl⟩ := hrel
  have He : Hid (S ^^^ Gfm.mul A B = Gfm.mul a b) := he; clear he
  have hm := Gfm.and1 B hB
  by_cases hz : B = 0
  ·subst hz
   go_wp2
   go_ret
   have he := He.out
   rw [Gfm.mul_zero, Nat.xor_zero] at he
   exact ⟨ret_int (by rw [he]), rfl⟩
  ·have hn : ((B : Int) != 0) = true := by rw [bne_iff_ne]; omega
   by_cases h1 : B % 2 = 1
   ·have hm : (bits BinOp.and IntKind.u8 (B : Int) 1 == 1) = true := by rw [hm]; simpa using h1
    go_wp2_with (go_at_call 160; refine (double_any _ hA _).mono ?_; rintro e w' ⟨rfl, rfl⟩)
    refine ⟨⟨Gfm.dbl A, B / 2, S ^^^ A, Gfm.dbl_lt hA, by omega, Gfm.xlt hS hA, ?_, rfl, rfl, ?_⟩, by simp [intOf]; omega⟩
    ·rw [← He.out, Gfm.mul_step hB, if_pos h1, Nat.xor_assoc]
    ·rw [u8_xor_nat S A hS hA]
   ·have hm : (bits BinOp.and IntKind.u8 (B : Int) 1 == 1) = false := by rw [hm]; simpa using h1
    go_wp2_with (go_at_call 160; refine (double_any _ hA _).mono ?_; rintro e w' ⟨rfl, rfl⟩)
    refine ⟨⟨Gfm.dbl A, B / 2, S, Gfm.dbl_lt hA, by omega, hS, ?_, rfl, rfl, rfl⟩, by simp [intOf]; omega⟩
    rw [← He.out, Gfm.mul_step hB, if_neg h1, Nat.zero_xor]
end Go.Proofs.YtdgkhjgnjfgnlaaGreat
namespace Go.Proofs.YtdgkhjgnjfgnlaaGreat
open Go.RowKit
namespace Gfm
theorem around_eq (n : Int) : (wrap64 (n.tmod 255 + 255)).tmod 255 = n % 255 := by
 have e : n.tmod 255 = if 0 ≤ n then n % 255 else -((-n) % 255) := tmod_eq_if n 255
 have hb : -255 < n.tmod 255 ∧ n.tmod 255 < 255 := by rw [e]; split <;> omega
 rw [IntWalk.wrap64_in _ (by omega), tmod_eq_if, if_pos (by omega), e]
 split <;> omega
def powI (a : Nat) (n : Int) : Nat := if n = 0 then 1 else if a = 0 then 0 else pw a (n % 255).toNat
theorem powI_zero (a : Nat) : powI a 0 = 1 := by unfold powI; rw [if_pos rfl]
theorem powI_nought {n : Int} (h : n ≠ 0) : powI 0 n = 0 := by unfold powI; rw [if_neg h, if_pos rfl]
theorem powI_else {a : Nat} {n : Int} (h : n ≠ 0) (ha : a ≠ 0) : powI a n = pw a (n % 255).toNat := by unfold powI; rw [if_neg h, if_neg ha]
theorem powI_ne {a : Nat} (n : Int) (ha : a ≠ 0) : powI a n = pw a (n % 255).toNat := by
 by_cases h : n = 0
 ·subst h; rw [powI_zero]; rfl
 ·exact powI_else h ha
theorem powI_lt (a : Nat) (n : Int) : powI a n < 256 := by
 unfold powI; split
 ·omega
 ·split
  ·omega
  ·exact pw_lt _
def nz (a : Nat) : Bool := decide (a ≠ 0)
theorem nz_of {a : Nat} (h : ¬ a = 0) : nz a = true := decide_eq_true h
theorem inv_zero : inv 0 = 0 := zero_pw 254 (by omega)
theorem andi_one (L : Int) (h0 : 0 ≤ L) (h1 : L ≤ 9223372036854775807) : bits BinOp.and IntKind.i64 L 1 = L % 2 := by
 obtain ⟨n, rfl⟩ := Int.eq_ofNat_of_zero_le h0
 have h := i64_and_nat n 1 (by omega) (by decide)
 rw [show ((1 : Nat) : Int) = 1 from rfl, Nat.and_one_is_mod] at h
 rw [h]; omega
end Gfm
set_option maxRecDepth 100000 in
set_option maxHeartbeats 400000 in
theorem around_any (n : Int) (w : World) :
  Calls Tryz.prog 177 #[.int .i64 n] w fun e w' => e = .returned (.int .i64 (n % 255)) ∧ w' = w := by
 have e := Gfm.around_eq n
 go_enter Tryz.func177, Tryz.ntmps177
 go_wp2
 go_ret
 exact ⟨ret_int rfl, rfl⟩
set_option maxRecDepth 100000 in
set_option maxHeartbeats 1000000 in
theorem power_any (a : Nat) (ha : a < 256) (n : Int) (w : World) :
  Calls Tryz.prog 161 #[.int .u8 a, .int .i64 n] w fun e w' => e = .returned (.int .u8 (Gfm.powI a n : Nat)) ∧ w' = w := by
 by_cases hn : n = 0
 ·subst hn
  have e := Gfm.powI_zero a
  go_enter Tryz.func161, Tryz.ntmps161
  go_wp2
  go_ret
  exact ⟨rfl, rfl⟩
 ·have hn' : (n == 0) = false := by simpa using hn
  by_cases hz : a = 0
  ·subst hz
   have e := Gfm.powI_nought hn
   have hz' : (((0 : Nat) : Int) == 0) = true := by decide
   have He : Hid (Gfm.powI 0 n = 0) := e
   clear e
   go_enter Tryz.func161, Tryz.ntmps161
   go_wp2
   go_ret
   exact ⟨ret_int (by rw [He.out]; rfl), rfl⟩
  ·have hz' : ((a : Int) == 0) = false := by simp; omega
   obtain ⟨k, hk⟩ : ∃ k : Nat, n % 255 = k := ⟨(n % 255).toNat, by omega⟩
   have hk2 : k < 255 := by omega
   have He : Hid (Gfm.powI a n = Gfm.pw a k) := by rw [Gfm.powI_else hn hz, hk]; rfl
   have Hk : Hid (n % 255 = k) := hk
   clear hk
   go_enter Tryz.func161, Tryz.ntmps161
   go_wp2_with (go_at_call 177; refine (around_any _ _).mono ?_; rintro e w' ⟨rfl, rfl⟩)
   rw [Hk.out]
   clear Hk hn hn' hz'
   go_loop [0, 5, 6] (fun x o l => ∃ A O L : Nat, A < 256 ∧ O < 256 ∧ L < 255 ∧ Gfm.mul O (Gfm.pw A L) = Gfm.pw a k ∧ x = .int .u8 A ∧ o = .int .u8 O ∧ l = .int .i64 L) (fun _ _ l => (intOf l).toNat)
   case atStart => exact ⟨a, 1, k, ha, by omega, hk2, Gfm.one_mul (Gfm.pw_lt _), rfl, rfl, rfl⟩
   case round =>
    obtain ⟨A, O, L, hA, hO, hL, he, rfl, rfl, rfl⟩ := hrel
    have hm := Gfm.andi_one (L : Int) (by omega) (by omega)
    by_cases hl : L = 0
    ·subst hl
     have e : O = Gfm.pw a k := by rw [← he]; exact (Gfm.mul_one hO).symm
     clear he
     have E : Hid (O = Gfm.pw a k) := e
     clear e
     go_wp2
     go_ret
     exact ⟨ret_int (by rw [He.out, ← E.out]), rfl⟩
    ·have hpos : (0 : Int) < (L : Int) := by omega
     rw [Gfm.pw_step hA hO] at he
     have Hs : Hid (Gfm.mul (if L % 2 = 1 then Gfm.mul O A else O) (Gfm.pw (Gfm.mul A A) (L / 2)) = Gfm.pw a k) := he
     clear he
     by_cases h1 : L % 2 = 1
     ·have hm2 : ((L : Int) % 2 == 1) = true := by rw [beq_iff_eq]; omega
      go_wp2_with fail
      refine (product_any O A hO hA _).mono ?_
      rintro e w' ⟨rfl, rfl⟩
      go_wp2_with fail
      refine (product_any A A hA hA _).mono ?_
      rintro e w' ⟨rfl, rfl⟩
      go_wp2
      refine ⟨⟨Gfm.mul A A, Gfm.mul O A, L / 2, Gfm.mul_lt hA, Gfm.mul_lt hO, by omega, ?_, rfl, rfl, rfl⟩, by simp [intOf]; omega⟩
      have := Hs.out
      rw [if_pos h1] at this
      exact this
     ·have hm2 : ((L : Int) % 2 == 1) = false := by rw [beq_eq_false_iff_ne]; omega
      go_wp2_with fail
      refine (product_any A A hA hA _).mono ?_
      rintro e w' ⟨rfl, rfl⟩
      go_wp2
      refine ⟨⟨Gfm.mul A A, O, L / 2, Gfm.mul_lt hA, hO, by omega, ?_, rfl, rfl, rfl⟩, by simp [intOf]; omega⟩
      have := Hs.out
      rw [if_neg h1] at this
      exact this
theorem power_int (a : Int) (ha : 0 ≤ a ∧ a < 256) (n : Int) (w : World) :
  Calls Tryz.prog 161 #[.int .u8 a, .int .i64 n] w fun e w' => e = .returned (.int .u8 (Gfm.powI a.toNat n : Nat)) ∧ w' = w := by
 obtain ⟨m, rfl⟩ := Int.eq_ofNat_of_zero_le ha.1
 exact power_any m (by omega) n w
set_option maxRecDepth 100000 in
set_option maxHeartbeats 400000 in
theorem Pow_int (a : Int) (ha : 0 ≤ a ∧ a < 256) (n : Int) (w : World) :
  Calls Tryz.prog 145 #[.int .u8 a, .int .i64 n] w fun e w' => e = .returned (.int .u8 (Gfm.powI a.toNat n : Nat)) ∧ w' = w := by
 go_enter Tryz.func145, Tryz.ntmps145
 go_wp2_with (go_at_call 161; refine (power_int _ ha _ _).mono ?_; rintro e w' ⟨rfl, rfl⟩)
 go_ret
 exact ⟨rfl, rfl⟩
set_option maxRecDepth 100000 in
set_option maxHeartbeats 400000 in
theorem Exp_int (n : Int) (w : World) :
  Calls Tryz.prog 118 #[.int .i64 n] w fun e w' => e = .returned (.int .u8 (Gfm.powI 2 n : Nat)) ∧ w' = w := by
 go_enter Tryz.func118, Tryz.ntmps118
 go_wp2_with (go_at_call 145; refine (Pow_int 2 (by omega) _ _).mono ?_; rintro e w' ⟨rfl, rfl⟩)
 go_ret
 exact ⟨rfl, rfl⟩
set_option maxRecDepth 100000 in
set_option maxHeartbeats 400000 in
theorem Inv_any (a : Nat) (ha : a < 256) (w : World) :
  Calls Tryz.prog 149 #[.int .u8 a] w fun e w' => e = .returned (.tuple #[.int .u8 (Gfm.inv a : Nat), .bool (Gfm.nz a)]) ∧ w' = w := by
 by_cases hz : a = 0
 ·subst hz
  have h0 : (((0 : Nat) : Int) == 0) = true := by decide
  go_enter Tryz.func149, Tryz.ntmps149
  go_wp2
  go_ret2
  exact ⟨ret_two (by rw [Gfm.inv_zero]; rfl) rfl, rfl⟩
 ·have h0 : ((a : Int) == 0) = false := by simp; omega
  have hp : Gfm.powI a (-1) = Gfm.inv a := Gfm.powI_ne (-1) hz
  have Hp : Hid (Gfm.powI a (-1) = Gfm.inv a) := hp
  have Hz : Hid (¬ a = 0) := hz
  clear hp hz
  go_enter Tryz.func149, Tryz.ntmps149
  go_wp2_with (go_at_call 161; refine (power_any a ha _ _).mono ?_; rintro e w' ⟨rfl, rfl⟩)
  go_ret2
  exact ⟨ret_two (by rw [← Hp.out]; rfl) (by rw [Gfm.nz_of Hz.out]; rfl), rfl⟩
end Go.Proofs.YtdgkhjgnjfgnlaaGreat
namespace Go.Proofs.YtdgkhjgnjfgnlaaGreat.Gfm
def xorL : List UInt8 → List UInt8 → List UInt8
 | [], b => b
 | a, [] => a
 | x :: a, y :: b => (x ^^^ y) :: xorL a b
theorem xorL_nil (a : List UInt8) : xorL a [] = a := by cases a <;> rfl
theorem nil_xorL (b : List UInt8) : xorL [] b = b := rfl
theorem xorL_cons (x y : UInt8) (a b : List UInt8) : xorL (x :: a) (y :: b) = (x ^^^ y) :: xorL a b := rfl
theorem xorL_comm (a b : List UInt8) : xorL a b = xorL b a := by
 induction a generalizing b with
 | nil => rw [nil_xorL, xorL_nil]
 | cons x a ih =>
  cases b with
  | nil => rfl
  | cons y b => rw [xorL_cons, xorL_cons, ih, UInt8.xor_comm]
theorem xorL_length (a b : List UInt8) : (xorL a b).length = max a.length b.length := by
 induction a generalizing b with
 | nil => rw [nil_xorL]; simp
 | cons x a ih =>
  cases b with
  | nil => rw [xorL_nil]; simp
  | cons y b => rw [xorL_cons]; simp only [List.length_cons, ih]; omega
theorem xorL_getD (a b : List UInt8) (j : Nat) : (xorL a b).getD j 0 = a.getD j 0 ^^^ b.getD j 0 := by
 induction a generalizing b j with
 | nil => rw [nil_xorL]; simp
 | cons x a ih =>
  cases b with
  | nil => rw [xorL_nil]; simp
  | cons y b =>
   rw [xorL_cons]
   cases j with
   | zero => rfl
   | succ j => simpa using ih b j
def xorB (a b : ByteArray) : ByteArray := ⟨(xorL a.data.toList b.data.toList).toArray⟩
theorem xorB_size (a b : ByteArray) : (xorB a b).size = max a.size b.size := by
 show (xorL _ _).toArray.size = _
 rw [List.size_toArray, xorL_length]; simp
theorem list_ext {a b : List UInt8} (h : a.length = b.length) (hj : ∀ j, j < a.length → a.getD j 0 = b.getD j 0) : a = b := by
 apply List.ext_getElem h
 intro i h1 h2
 have := hj i h1
 rw [List.getD_eq_getElem?_getD, List.getD_eq_getElem?_getD, List.getElem?_eq_getElem h1, List.getElem?_eq_getElem h2] at this
 exact this
theorem xorL_step (a b : List UInt8) (k : Nat) (hb : k < b.length) (ha : b.length ≤ a.length) :
  (xorL a (b.take k)).set k (a.getD k 0 ^^^ b.getD k 0) = xorL a (b.take (k + 1)) := by
 apply list_ext
 ·rw [List.length_set, xorL_length, xorL_length]; simp; omega
 ·intro j hj
  rw [List.length_set, xorL_length] at hj
  have hj : j < a.length := by simp at hj; omega
  by_cases e : j = k
  ·subst e
   rw [xorL_getD, List.getD_eq_getElem?_getD, List.getElem?_set]
   have hl : (xorL a (b.take j)).length = a.length := by rw [xorL_length]; simp; omega
   simp [hl]
   rw [if_pos (by omega)]; rfl
  ·rw [xorL_getD, List.getD_eq_getElem?_getD, List.getElem?_set, if_neg (Ne.symm e), ← List.getD_eq_getElem?_getD, xorL_getD]
   congr 1
   rw [List.getD_eq_getElem?_getD, List.getD_eq_getElem?_getD, List.getElem?_take, List.getElem?_take]
   by_cases h : j < k
   ·rw [if_pos h, if_pos (by omega)]
   ·rw [if_neg h, if_neg (by omega)]
theorem xorL_at (a b : List UInt8) (k : Nat) : (xorL a (b.take k)).getD k 0 = a.getD k 0 := by
 rw [xorL_getD, List.getD_eq_getElem?_getD (l := b.take k), List.getElem?_take, if_neg (by omega)]
 simp
def mulU (x : UInt8) (n : Nat) : UInt8 := UInt8.ofNat (mul x.toNat n)
theorem mulU_toNat (x : UInt8) (n : Nat) : (mulU x n).toNat = mul x.toNat n := by
 have h : mul x.toNat n < 256 := mul_lt x.toNat_lt
 unfold mulU
 rw [UInt8.toNat_ofNat']; omega
def timesL (a : List UInt8) (n : Nat) : List UInt8 := a.map fun x => mulU x n
def timesB (a : ByteArray) (n : Nat) : ByteArray := ⟨(timesL a.data.toList n).toArray⟩
theorem timesB_size (a : ByteArray) (n : Nat) : (timesB a n).size = a.size := by
 show (timesL _ _).toArray.size = _
 rw [List.size_toArray]; unfold timesL; simp
end Go.Proofs.YtdgkhjgnjfgnlaaGreat.Gfm
namespace Go.Proofs.YtdgkhjgnjfgnlaaGreat
open Go.RowKit
namespace Gfm
theorem timesL_length (a : List UInt8) (n : Nat) : (timesL a n).length = a.length := by unfold timesL; simp
theorem timesL_step (a : List UInt8) (n k : Nat) (hk : k < a.length) :
  (timesL (a.take k) n ++ List.replicate (a.length - k) 0).set k (mulU (a.getD k 0) n) = timesL (a.take (k + 1)) n ++ List.replicate (a.length - (k + 1)) 0 := by
 have hl : (timesL (a.take k) n).length = k := by rw [timesL_length, List.length_take]; omega
 rw [List.set_append_right _ _ (by omega), hl, Nat.sub_self]
 have e1 : a.take (k + 1) = a.take k ++ [a.getD k 0] := by
  rw [List.take_succ_eq_append_getElem hk]; simp [List.getElem?_eq_getElem hk]
 have e2 : List.replicate (a.length - k) (0 : UInt8) = 0 :: List.replicate (a.length - (k + 1)) 0 := by
  rw [show a.length - k = (a.length - (k + 1)) + 1 from by omega, List.replicate_succ]
 rw [e1, e2]
 unfold timesL
 simp
end Gfm
set_option maxRecDepth 100000 in
set_option maxHeartbeats 1000000 in
theorem Times_any (s : ByteArray) (b : Nat) (hs : s.size ≤ 281474976710656) (hb : b < 256) (w : World) :
  Calls Tryz.prog 117 #[.string s, .int .u8 b] w fun e w' => e = .returned (.string (Gfm.timesB s b)) ∧ Below w.heap.size w w' := by
 have hmk := run_make_u8 s.size hs
 have hrow := rowU_made w s.size 5
 have Hsl : Hid (s.data.toList.length = s.size) := by show _ = _; simp
 go_enter Tryz.func117, Tryz.ntmps117
 go_wp2
 go_loopw [12] (fun i wr => ∃ k : Nat, k ≤ s.size ∧ i = .int .i64 k ∧ rowU wr w.heap.size (Gfm.timesL (s.data.toList.take k) b ++ List.replicate (s.data.toList.length - k) 0) ∧ Below w.heap.size w wr) (fun i _ => s.size - (intOf i).toNat)
 case atStart => exact ⟨0, by omega, rfl, by rw [Hsl.out]; exact hrow, (Below.refl _ _).alloc (Nat.le_refl _) _⟩
 case round =>
  obtain ⟨k, hk, rfl, hr, hbl⟩ := hrel
  clear hmk hrow
  have hl : (Gfm.timesL (s.data.toList.take k) b ++ List.replicate (s.data.toList.length - k) 0).length = s.size := by
   rw [List.length_append, Gfm.timesL_length, List.length_take, List.length_replicate, Hsl.out]; omega
  by_cases hkt : k < s.size
  ·obtain ⟨hc, hf⟩ := hr k (by omega)
   generalize (Gfm.timesL (s.data.toList.take k) b ++ List.replicate (s.data.toList.length - k) 0).getD k 0 = old at hc
   have Hr : Hid (rowU wr w.heap.size (Gfm.timesL (s.data.toList.take k) b ++ List.replicate (s.data.toList.length - k) 0)) := hr
   have Hl : Hid ((Gfm.timesL (s.data.toList.take k) b ++ List.replicate (s.data.toList.length - k) 0).length = s.size) := hl
   have Hb : Hid (Below w.heap.size w wr) := hbl
   clear hr hl hbl
   have hx := s[k].toNat_lt
   go_wp2_with fail
   refine (product_any _ b hx hb _).mono ?_
   rintro e w' ⟨rfl, rfl⟩
   go_wp2
   go_roundw
   case rel =>
    have hz : s.data.toList.getD k 0 = s[k] := by
     have hk' : k < s.data.toList.length := by rw [Hsl.out]; exact hkt
     rw [List.getD_eq_getElem?_getD, List.getElem?_eq_getElem hk']; rfl
    refine ⟨k + 1, by omega, by go_num, ?_, Hb.out.setCell (p := ⟨w.heap.size, k, none⟩) (Nat.le_refl _) _⟩
    rw [← Gfm.timesL_step _ _ k (by rw [Hsl.out]; exact hkt), hz, ← Gfm.mulU_toNat]
    exact Hr.out.set k (by rw [Hl.out]; omega) _
   case measure => simp [intOf]; omega
  ·have hkk : k = s.size := by omega
   rw [hkk, List.take_of_length_le (by rw [Hsl.out]; exact Nat.le_refl _), Hsl.out, Nat.sub_self] at hr
   have hr : rowU wr w.heap.size (Gfm.timesL s.data.toList b) := by simpa using hr
   have hl : (Gfm.timesL s.data.toList b).length = s.size := by rw [Gfm.timesL_length, Hsl.out]
   have hback := hr.back (P := Tryz.prog) 109 9 5 s.size s.size hl Tryz.underlying109 Tryz.underlying5 Tryz.underlying9
   have Hb : Hid (Below w.heap.size w wr) := hbl
   clear hr hl hbl hkk
   go_wp2
   go_ret
   exact ⟨rfl, Hb.out⟩
end Go.Proofs.YtdgkhjgnjfgnlaaGreat
namespace Go.Proofs.YtdgkhjgnjfgnlaaGreat.Gfm
def pE (i : Nat) : Nat := powI 2 (i : Int)
theorem pE_lt (i : Nat) : pE i < 256 := powI_lt _ _
theorem pE_pw (i : Nat) : pE i = pw 2 i := by
 unfold pE
 rw [powI_ne _ (by decide), pw_mod (by decide) (by decide) i]
 congr 1
def byt (s : ByteArray) (j : Nat) : UInt8 := s.data.toList.getD j 0
theorem byt_past {s : ByteArray} {j : Nat} (h : s.size ≤ j) : byt s j = 0 := by
  unfold byt
  rw [List.getD_eq_getElem?_getD, List.getElem?_eq_none (by have : s.data.toList.length = s.size := by simp
                                                            omega)]; rfl
theorem byt_ext {a b : ByteArray} (h : a.size = b.size) (hj : ∀ j, byt a j = byt b j) : a = b := by
 have ha : a.data.toList.length = a.size := by simp
 have hb : b.data.toList.length = b.size := by simp
 have e : a.data.toList = b.data.toList := list_ext (by omega) fun j _ => hj j
 cases a; cases b
 simp only [ByteArray.mk.injEq]
 exact Array.toList_inj.1 e
theorem byt_xor (a b : ByteArray) (j : Nat) : byt (xorB a b) j = byt a j ^^^ byt b j := by
 show (xorL _ _).toArray.toList.getD j 0 = _
 rw [List.toList_toArray, xorL_getD]; rfl
theorem mulU_zero (n : Nat) : mulU 0 n = 0 := by
 unfold mulU; rw [show (0 : UInt8).toNat = 0 from rfl, zero_mul]; rfl
theorem byt_times (a : ByteArray) (n j : Nat) : byt (timesB a n) j = mulU (byt a j) n := by
 show (timesL _ _).toArray.toList.getD j 0 = _
 rw [List.toList_toArray]
 unfold timesL byt
 simp only [List.getD_eq_getElem?_getD, List.getElem?_map]
 cases a.data.toList[j]? with
 | none => exact (mulU_zero n).symm
 | some x => rfl
theorem byt_empty (j : Nat) : byt ByteArray.empty j = 0 := byt_past (Nat.zero_le _)
theorem mulU_xor (x y : UInt8) (n : Nat) : mulU (x ^^^ y) n = mulU x n ^^^ mulU y n := by
 apply UInt8.toNat_inj.1
 rw [mulU_toNat, UInt8.toNat_xor, UInt8.toNat_xor, mulU_toNat, mulU_toNat, mul_xor_left n x.toNat_lt y.toNat_lt]
def addF : Nat → (Nat → ByteArray) → ByteArray
 | 0, _ => ByteArray.empty
 | n + 1, f => xorB (addF n f) (f n)
def qT (f : Nat → ByteArray) (i : Nat) : ByteArray := timesB (f i) (pE i)
theorem addF_succ (n : Nat) (f : Nat → ByteArray) : addF (n + 1) f = xorB (addF n f) (f n) := rfl
theorem addF_congr {n : Nat} {f g : Nat → ByteArray} (h : ∀ i, i < n → f i = g i) : addF n f = addF n g := by
 induction n with
 | zero => rfl
 | succ n ih => rw [addF_succ, addF_succ, ih fun i hi => h i (by omega), h n (by omega)]
theorem addF_le {n B : Nat} {f : Nat → ByteArray} (h : ∀ i, i < n → (f i).size ≤ B) : (addF n f).size ≤ B := by
 induction n with
 | zero => exact Nat.zero_le _
 | succ n ih =>
  have h1 := ih fun i hi => h i (by omega)
  have h2 := h n (by omega)
  rw [addF_succ, xorB_size]; omega
theorem qT_size (f : Nat → ByteArray) (i : Nat) : (qT f i).size = (f i).size := timesB_size _ _
def maxN : Nat → (Nat → Nat) → Nat
 | 0, _ => 0
 | n + 1, f => max (maxN n f) (f n)
theorem addF_size (n : Nat) (f : Nat → ByteArray) : (addF n f).size = maxN n fun i => (f i).size := by
 induction n with
 | zero => rfl
 | succ n ih => rw [addF_succ, xorB_size, ih]; rfl
theorem le_maxN {n k : Nat} (f : Nat → Nat) (h : k < n) : f k ≤ maxN n f := by
 induction n with
 | zero => omega
 | succ n ih =>
  show _ ≤ max (maxN n f) (f n)
  by_cases e : k = n
  ·subst e; omega
  ·have := ih (by omega); omega
theorem maxN_le {n B : Nat} {f : Nat → Nat} (h : ∀ i, i < n → f i ≤ B) : maxN n f ≤ B := by
 induction n with
 | zero => exact Nat.zero_le _
 | succ n ih =>
  have h1 := ih fun i hi => h i (by omega)
  have h2 := h n (by omega)
  show max (maxN n f) (f n) ≤ B; omega
def xorN : Nat → (Nat → UInt8) → UInt8
 | 0, _ => 0
 | n + 1, f => xorN n f ^^^ f n
theorem xorN_succ (n : Nat) (f : Nat → UInt8) : xorN (n + 1) f = xorN n f ^^^ f n := rfl
theorem byt_addF (n : Nat) (f : Nat → ByteArray) (j : Nat) : byt (addF n f) j = xorN n fun i => byt (f i) j := by
 induction n with
 | zero => exact byt_empty j
 | succ n ih => rw [addF_succ, byt_xor, ih]; rfl
theorem byt_qT (f : Nat → ByteArray) (i j : Nat) : byt (qT f i) j = mulU (byt (f i) j) (pE i) := byt_times _ _ _
theorem byt_addQ (n : Nat) (f : Nat → ByteArray) (j : Nat) : byt (addF n (qT f)) j = xorN n fun i => mulU (byt (f i) j) (pE i) := by
 rw [byt_addF]; simp only [byt_qT]
theorem xorN_congr {n : Nat} {f g : Nat → UInt8} (h : ∀ i, i < n → f i = g i) : xorN n f = xorN n g := by
 induction n with
 | zero => rfl
 | succ n ih => rw [xorN_succ, xorN_succ, ih fun i hi => h i (by omega), h n (by omega)]
theorem ux4 (a b c d : UInt8) : (a ^^^ b) ^^^ (c ^^^ d) = (a ^^^ c) ^^^ (b ^^^ d) := by ac_rfl
theorem xorN_xor (n : Nat) (f g : Nat → UInt8) : xorN n (fun i => f i ^^^ g i) = xorN n f ^^^ xorN n g := by
 induction n with
 | zero => show (0 : UInt8) = 0 ^^^ 0; rw [UInt8.xor_zero]
 | succ n ih => rw [xorN_succ, xorN_succ, xorN_succ, ih, ux4]
theorem xorN_zero (n : Nat) : xorN n (fun _ => 0) = 0 := by
 induction n with
 | zero => rfl
 | succ n ih => rw [xorN_succ, ih, UInt8.xor_zero]
def upd {α : Type} (f : Nat → α) (k : Nat) (v : α) (i : Nat) : α := if i = k then v else f i
theorem upd_same {α : Type} (f : Nat → α) (k : Nat) (v : α) : upd f k v k = v := if_pos rfl
theorem upd_other {α : Type} (f : Nat → α) {k i : Nat} (v : α) (h : i ≠ k) : upd f k v i = f i := if_neg h
theorem xorN_one {n k : Nat} (hk : k < n) (v : UInt8) : xorN n (fun i => if i = k then v else 0) = v := by
 induction n with
 | zero => omega
 | succ n ih =>
  rw [xorN_succ]
  by_cases e : k = n
  ·subst e
   rw [if_pos rfl, xorN_congr (g := fun _ => 0) fun i hi => if_neg (by omega), xorN_zero, UInt8.zero_xor]
  ·rw [ih (by omega), if_neg (Ne.symm e), UInt8.xor_zero]
theorem xorN_set {n k : Nat} (hk : k < n) (f g : Nat → UInt8) (h : ∀ i, i < n → i ≠ k → g i = f i) : xorN n g = xorN n f ^^^ (f k ^^^ g k) := by
 rw [← xorN_one hk (f k ^^^ g k), ← xorN_xor]
 refine xorN_congr fun i hi => ?_
 by_cases e : i = k
 ·subst e; rw [if_pos rfl, ← UInt8.xor_assoc, UInt8.xor_self, UInt8.zero_xor]
 ·rw [if_neg e, UInt8.xor_zero]; exact h i hi e
def zeroS (s : ByteArray) : Bool := s.data.toList.all fun x => x == 0
end Go.Proofs.YtdgkhjgnjfgnlaaGreat.Gfm
namespace Go.Proofs.YtdgkhjgnjfgnlaaGreat.Rf
def hasF : Nat → (Nat → Int) → Int → Bool
 | 0, _, _ => false
 | n + 1, L, x => hasF n L x || L n == x
theorem hasF_zero (L : Nat → Int) (x : Int) : hasF 0 L x = false := rfl
theorem hasF_succ (n : Nat) (L : Nat → Int) (x : Int) : hasF (n + 1) L x = (hasF n L x || L n == x) := rfl
theorem hasF_iff {n : Nat} {L : Nat → Int} {x : Int} : hasF n L x = true ↔ ∃ i, i < n ∧ L i = x := by
 induction n with
 | zero => exact ⟨fun h => (by cases h), fun ⟨i, hi, _⟩ => absurd hi (Nat.not_lt_zero _)⟩
 | succ n ih =>
  rw [hasF_succ, Bool.or_eq_true, ih, beq_iff_eq]
  constructor
  ·rintro (⟨i, hi, e⟩ | e)
   ·exact ⟨i, by omega, e⟩
   ·exact ⟨n, by omega, e⟩
  ·rintro ⟨i, hi, e⟩
   by_cases h : i = n
   ·subst h; exact .inr e
   ·exact .inl ⟨i, by omega, e⟩
theorem hasF_yes {n i : Nat} {L : Nat → Int} {x : Int} (hi : i < n) (e : L i = x) : hasF n L x = true := hasF_iff.2 ⟨i, hi, e⟩
def szO (f : Nat → ByteArray) (ln : Nat) (L : Nat → Int) : Nat → Option Int
 | 0 => some (-1)
 | n + 1 => match szO f ln L n with
  | none => none
  | some s => if hasF ln L (n : Int) then some s else if 0 ≤ s ∧ ((f n).size : Int) ≠ s then none else some ((f n).size : Int)
def szF (f : Nat → ByteArray) (ln : Nat) (L : Nat → Int) (n : Nat) : Int := (szO f ln L n).getD (-1)
theorem szO_lost {f : Nat → ByteArray} {ln n : Nat} {L : Nat → Int} {s : Int} (h : szO f ln L n = some s) (hl : hasF ln L (n : Int) = true) : szO f ln L (n + 1) = some s := by
 simp only [szO, h, hl, if_true]
theorem szO_two {f : Nat → ByteArray} {ln n : Nat} {L : Nat → Int} {s : Int} (h : szO f ln L n = some s) (hl : hasF ln L (n : Int) = false) (h0 : 0 ≤ s) (h1 : ((f n).size : Int) ≠ s) : szO f ln L (n + 1) = none := by
 simp only [szO, h, hl]; rw [if_neg (by decide), if_pos ⟨h0, h1⟩]
theorem szO_next {f : Nat → ByteArray} {ln n : Nat} {L : Nat → Int} {s : Int} (h : szO f ln L n = some s) (hl : hasF ln L (n : Int) = false) (h1 : ¬ (0 ≤ s ∧ ((f n).size : Int) ≠ s)) : szO f ln L (n + 1) = some ((f n).size : Int) := by
 simp only [szO, h, hl]; rw [if_neg (by decide), if_neg h1]
theorem szO_stays {f : Nat → ByteArray} {ln n : Nat} {L : Nat → Int} (h : szO f ln L n = none) (k : Nat) : szO f ln L (n + k) = none := by
 induction k with
 | zero => exact h
 | succ k ih => rw [← Nat.add_assoc]; simp only [szO, ih]
theorem szO_ge {f : Nat → ByteArray} {ln n : Nat} {L : Nat → Int} {s : Int} (h : szO f ln L n = some s) : -1 ≤ s := by
 induction n generalizing s with
 | zero => simp only [szO, Option.some.injEq] at h; omega
 | succ n ih =>
  cases e : szO f ln L n with
  | none => simp only [szO, e] at h; cases h
  | some s' =>
   have := ih e
   simp only [szO, e] at h
   split at h
   ·cases h; exact this
   ·split at h
    ·cases h
    ·cases h; omega
theorem szO_all {f : Nat → ByteArray} {ln n : Nat} {L : Nat → Int} {s : Int} (h : szO f ln L n = some s) : (∀ i, i < n → hasF ln L (i : Int) = false → ((f i).size : Int) = s) ∧ ((∃ i, i < n ∧ hasF ln L (i : Int) = false) ∨ s = -1) := by
 induction n generalizing s with
 | zero => simp only [szO, Option.some.injEq] at h; exact ⟨fun i hi => absurd hi (Nat.not_lt_zero _), .inr h.symm⟩
 | succ n ih =>
  cases e : szO f ln L n with
  | none => simp only [szO, e] at h; cases h
  | some s' =>
   obtain ⟨h1, h2⟩ := ih e
   cases hl : hasF ln L (n : Int) with
   | true =>
    rw [szO_lost e hl] at h
    cases h
    refine ⟨fun i hi hn => ?_, h2.imp (fun ⟨i, hi, hn⟩ => ⟨i, by omega, hn⟩) id⟩
    by_cases hin : i = n
    ·subst hin; rw [hl] at hn; cases hn
    ·exact h1 i (by omega) hn
   | false =>
    by_cases hc : 0 ≤ s' ∧ ((f n).size : Int) ≠ s'
    ·rw [szO_two e hl hc.1 hc.2] at h; cases h
    ·rw [szO_next e hl hc] at h
     cases h
     refine ⟨fun i hi hn => ?_, .inl ⟨n, by omega, hl⟩⟩
     by_cases hin : i = n
     ·subst hin; rfl
     ·have h3 := h1 i (by omega) hn
      rcases h2 with _ | h2
      ·have : 0 ≤ s' := by omega
       have : ((f n).size : Int) = s' := Decidable.byContradiction fun hne => hc ⟨this, hne⟩
       omega
      ·omega
def okL (n ln : Nat) (L : Nat → Int) : Bool := (List.range ln).all fun i => decide (0 ≤ L i) && decide (L i < (n : Int)) && !hasF i L (L i)
theorem okL_at {n ln : Nat} {L : Nat → Int} (h : okL n ln L = true) {i : Nat} (hi : i < ln) : 0 ≤ L i ∧ L i < (n : Int) ∧ hasF i L (L i) = false := by
 unfold okL at h
 rw [List.all_eq_true] at h
 have := h i (List.mem_range.2 hi)
 simpa [and_assoc] using this
theorem okL_of {n ln : Nat} {L : Nat → Int} (h : ∀ i, i < ln → 0 ≤ L i ∧ L i < (n : Int) ∧ hasF i L (L i) = false) : okL n ln L = true := by
 unfold okL
 rw [List.all_eq_true]
 intro i hi
 have := h i (List.mem_range.1 hi)
 simpa [and_assoc] using this
theorem okL_no {n ln : Nat} {L : Nat → Int} {i : Nat} (hi : i < ln) (h : ¬ (0 ≤ L i ∧ L i < (n : Int) ∧ hasF i L (L i) = false)) : okL n ln L = false := by
 cases e : okL n ln L with
 | false => rfl
 | true => exact absurd (okL_at e hi) h
def mayF (n : Nat) (f : Nat → ByteArray) (ln : Nat) (L : Nat → Int) : Int :=
 if n < 4 ∨ 10 < n then 1 else if okL n ln L = false then 1 else if ln < n ∧ (szF f ln L n < 0 ∨ 4096 < szF f ln L n) then 1 else if 2 < ln then 60 else 0
theorem mayF_cols {n ln : Nat} {f : Nat → ByteArray} {L : Nat → Int} (h : n < 4 ∨ 10 < n) : mayF n f ln L = 1 := if_pos h
theorem mayF_lost {n ln : Nat} {f : Nat → ByteArray} {L : Nat → Int} (h : ¬ (n < 4 ∨ 10 < n)) (h1 : okL n ln L = false) : mayF n f ln L = 1 := by unfold mayF; rw [if_neg h, if_pos h1]
theorem mayF_size {n ln : Nat} {f : Nat → ByteArray} {L : Nat → Int} (h : ¬ (n < 4 ∨ 10 < n)) (h1 : okL n ln L = true) (h2 : ln < n ∧ (szF f ln L n < 0 ∨ 4096 < szF f ln L n)) : mayF n f ln L = 1 := by
 unfold mayF; rw [if_neg h, if_neg (by rw [h1]; decide), if_pos h2]
theorem mayF_more {n ln : Nat} {f : Nat → ByteArray} {L : Nat → Int} (h : ¬ (n < 4 ∨ 10 < n)) (h1 : okL n ln L = true) (h2 : ¬ (ln < n ∧ (szF f ln L n < 0 ∨ 4096 < szF f ln L n))) (h3 : 2 < ln) : mayF n f ln L = 60 := by
 unfold mayF; rw [if_neg h, if_neg (by rw [h1]; decide), if_neg h2, if_pos h3]
theorem mayF_ok {n ln : Nat} {f : Nat → ByteArray} {L : Nat → Int} (h : ¬ (n < 4 ∨ 10 < n)) (h1 : okL n ln L = true) (h2 : ¬ (ln < n ∧ (szF f ln L n < 0 ∨ 4096 < szF f ln L n))) (h3 : ¬ 2 < ln) : mayF n f ln L = 0 := by
 unfold mayF; rw [if_neg h, if_neg (by rw [h1]; decide), if_neg h2, if_neg h3]
theorem mayF_tells {n ln : Nat} {f : Nat → ByteArray} {L : Nat → Int} (h : mayF n f ln L = 0) : 4 ≤ n ∧ n ≤ 10 ∧ ln ≤ 2 ∧ okL n ln L = true ∧ ∃ s : Nat, s ≤ 4096 ∧ szF f ln L n = (s : Int) ∧ ∀ i, i < n → hasF ln L (i : Int) = false → (f i).size = s := by
  by_cases h1 : n < 4 ∨ 10 < n
  · rw [mayF_cols h1] at h; omega
  · cases h2 : okL n ln L with
    | false => rw [mayF_lost h1 h2] at h; omega
    | true =>
      by_cases h3 : ln < n ∧ (szF f ln L n < 0 ∨ 4096 < szF f ln L n)
      · rw [mayF_size h1 h2 h3] at h; omega
      · by_cases h4 : 2 < ln
        · rw [mayF_more h1 h2 h3 h4] at h; omega
        · have h5 : 0 ≤ szF f ln L n ∧ szF f ln L n ≤ 4096 := by
            by_cases a : szF f ln L n < 0
            · exact absurd ⟨by omega, .inl a⟩ h3
            · by_cases b : 4096 < szF f ln L n
              · exact absurd ⟨by omega, .inr b⟩ h3
              · omega
          obtain ⟨s, hs⟩ := Int.eq_ofNat_of_zero_le h5.1
          refine ⟨by omega, by omega, by omega, rfl, s, by omega, hs, fun i hi hn => ?_⟩
          cases e : szO f ln L n with
          | none => unfold szF at hs; rw [e] at hs; simp at hs
          | some t =>
            have := (szO_all e).1 i hi hn
            unfold szF at hs; rw [e] at hs; simp at hs; omega
end Go.Proofs.YtdgkhjgnjfgnlaaGreat.Rf
