/- Two columns that are not 0: their P and Q tell them. -/
import Derived.Test.YtekpamadimachaaSynAdd
namespace Go.Proofs.Ytekpamadimachaa
namespace Gfm
/-- the text of one byte -/
def oneB (c : UInt8) : ByteArray := ⟨#[c]⟩
theorem oneB_size (c : UInt8) : (oneB c).size = 1 := rfl
theorem byt_oneB (c : UInt8) : byt (oneB c) 0 = c := rfl
/-- a at place x, b at place y, 0 elsewhere -/
def pairF (x y : Nat) (a b : UInt8) (j : Nat) : ByteArray := oneB (if j = y then b else if j = x then a else 0)
theorem pairF_split {x y : Nat} (h : x ≠ y) (a b : UInt8) (j : Nat) : (if j = y then b else if j = x then a else (0 : UInt8)) = (if j = x then a else 0) ^^^ (if j = y then b else 0) := by
  by_cases h1 : j = x
  · subst h1; rw [if_neg h, if_pos rfl, if_neg h, UInt8.xor_zero]
  · rw [if_neg h1, UInt8.zero_xor]
theorem pairP {x y : Nat} (h : x ≠ y) (hx : x < 8) (hy : y < 8) (a b : UInt8) : byt (addF 8 (pairF x y a b)) 0 = a ^^^ b := by
  rw [byt_addF]
  have : (fun i => byt (pairF x y a b i) 0) = fun j => (if j = x then a else 0) ^^^ (if j = y then b else 0) := by
    funext j; rw [← pairF_split h]; rfl
  rw [this, xorN_xor, xorN_one hx, xorN_one hy]
theorem pairQ {x y : Nat} (h : x ≠ y) (hx : x < 8) (hy : y < 8) (a b : UInt8) : byt (addF 8 (qT (pairF x y a b))) 0 = mulU a (pE x) ^^^ mulU b (pE y) := by
  rw [byt_addQ]
  have : (fun i => mulU (byt (pairF x y a b i) 0) (pE i)) = fun j => (if j = x then mulU a (pE x) else 0) ^^^ (if j = y then mulU b (pE y) else 0) := by
    funext j
    have e : byt (pairF x y a b j) 0 = (if j = x then a else 0) ^^^ (if j = y then b else 0) := by rw [← pairF_split h]; rfl
    rw [e, mulU_xor]
    congr 1
    · by_cases h1 : j = x
      · subst h1; rw [if_pos rfl, if_pos rfl]
      · rw [if_neg h1, if_neg h1, mulU_zero]
    · by_cases h1 : j = y
      · subst h1; rw [if_pos rfl, if_pos rfl]
      · rw [if_neg h1, if_neg h1, mulU_zero]
  rw [this, xorN_xor, xorN_one hx, xorN_one hy]
theorem pE_apart_all : ((List.range 8).all fun x => (List.range 8).all fun y => x == y || pw 2 x != pw 2 y) = true := by decide +kernel
theorem pE_apart {x y : Nat} (h : x ≠ y) (hx : x < 8) (hy : y < 8) : pE x ≠ pE y := by
  have := pE_apart_all
  rw [List.all_eq_true] at this
  have := this x (List.mem_range.2 hx)
  rw [List.all_eq_true] at this
  have := this y (List.mem_range.2 hy)
  rw [pE_pw, pE_pw]
  simpa [h] using this
theorem ux_move {a b c d : UInt8} (h : a ^^^ b = c ^^^ d) : a ^^^ c = b ^^^ d := by
  have e : (a ^^^ b) ^^^ (c ^^^ b) = (c ^^^ d) ^^^ (c ^^^ b) := by rw [h]
  have l : (a ^^^ b) ^^^ (c ^^^ b) = a ^^^ c := by rw [ux4, UInt8.xor_self, UInt8.xor_zero]
  have r : (c ^^^ d) ^^^ (c ^^^ b) = b ^^^ d := by rw [ux4, UInt8.xor_self, UInt8.zero_xor, UInt8.xor_comm]
  rw [l, r] at e; exact e
theorem ux_eq {a c : UInt8} (h : a ^^^ c = 0) : a = c := by
  have e : (a ^^^ c) ^^^ c = 0 ^^^ c := by rw [h]
  rw [UInt8.xor_assoc, UInt8.xor_self, UInt8.xor_zero, UInt8.zero_xor] at e
  exact e
theorem nat_xor_zero {a b : Nat} (h : a ^^^ b = 0) : a = b := by
  have e : (a ^^^ b) ^^^ b = 0 ^^^ b := by rw [h]
  rw [Nat.xor_assoc, Nat.xor_self, Nat.xor_zero, Nat.zero_xor] at e
  exact e
/-- no two pairs have the same P and Q, but the same ones -/
theorem pair_told {x y : Nat} (h : x ≠ y) (hx : x < 8) (hy : y < 8) {a b c d : UInt8} (hP : addF 8 (pairF x y a b) = addF 8 (pairF x y c d)) (hQ : addF 8 (qT (pairF x y a b)) = addF 8 (qT (pairF x y c d))) : a = c ∧ b = d := by
  have p := congrArg (fun s => byt s 0) hP
  have q := congrArg (fun s => byt s 0) hQ
  simp only [pairP h hx hy, pairQ h hx hy] at p q
  have e := ux_move p
  have g := ux_move q
  rw [← mulU_xor, ← mulU_xor, ← e] at g
  have z : a ^^^ c = 0 := by
    by_cases hz : a ^^^ c = 0
    · exact hz
    · have hne : (a ^^^ c).toNat ≠ 0 := fun e0 => hz (UInt8.toNat_inj.1 e0)
      have g2 := congrArg UInt8.toNat g
      rw [mulU_toNat, mulU_toNat] at g2
      have m : mul (a ^^^ c).toNat (pE x ^^^ pE y) = 0 := by rw [mul_xor_right, g2, Nat.xor_self]
      exact absurd (nat_xor_zero (mul_ne (UInt8.toNat_lt _) (xlt (pE_lt x) (pE_lt y)) hne m)) (pE_apart h hx hy)
  exact ⟨ux_eq z, ux_eq (by rw [← e]; exact z)⟩
theorem pairF_le (x y : Nat) (a b : UInt8) (n : Nat) : Fits 1048576 n (pairF x y a b) := fun i _ => by unfold pairF; rw [oneB_size]; decide
end Gfm
end Go.Proofs.Ytekpamadimachaa
