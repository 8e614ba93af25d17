/- The walks of gf: what double and product answer, for any bytes. -/
import Derived.Test.YtjephdeolifbpaaRows
import Derived.Test.YtjephdeolifbpaaGfMath
import Derived.Test.YtjephdeolifbpaaKit
namespace Go.Proofs.Ytjephdeolifbpaa
open Go.RowKit

namespace Gfm
theorem and128_all : allB (fun a => (a &&& 128 != 0) == decide (128 ≤ a)) = true := by decide +kernel
theorem and128 (a : Nat) (ha : a < 256) : (bits BinOp.and IntKind.u8 (a : Int) 128 != 0) = decide (128 ≤ a) := by
  have h := allB_of and128_all a ha
  have e : bits .and .u8 (a : Int) ((128 : Nat) : Int) = ((a &&& 128 : Nat) : Int) := u8_and_nat a 128 ha (by decide)
  rw [show ((128 : Nat) : Int) = 128 from rfl] at e
  rw [e, ← (by simpa using h : (a &&& 128 != 0) = decide (128 ≤ a))]
  rw [Bool.eq_iff_iff]; simp
theorem and1_all : allB (fun a => (a &&& 1 == 1) == decide (a % 2 = 1)) = true := by decide +kernel
theorem and1 (a : Nat) (ha : a < 256) : (bits BinOp.and IntKind.u8 (a : Int) 1 == 1) = decide (a % 2 = 1) := by
  have h := allB_of and1_all a ha
  have e : bits .and .u8 (a : Int) ((1 : Nat) : Int) = ((a &&& 1 : Nat) : Int) := u8_and_nat a 1 ha (by decide)
  rw [show ((1 : Nat) : Int) = 1 from rfl] at e
  rw [e, ← (by simpa using h : (a &&& 1 == 1) = decide (a % 2 = 1))]
  rw [Bool.eq_iff_iff]; simp; omega
theorem dbl_hi_all : allB (fun a => decide (a < 128) || (dbl a == (a * 2 % 256) ^^^ 29)) = true := by decide +kernel
theorem dbl_hi (a : Nat) (ha : a < 256) (h : 128 ≤ a) : bits BinOp.xor IntKind.u8 ((a : Int) * 2 % 256) 29 = ((dbl a : Nat) : Int) := by
  have h' := allB_of dbl_hi_all a ha
  have e : bits .xor .u8 ((a * 2 % 256 : Nat) : Int) ((29 : Nat) : Int) = ((a * 2 % 256 ^^^ 29 : Nat) : Int) := u8_xor_nat _ _ (by omega) (by decide)
  rw [show dbl a = (a * 2 % 256) ^^^ 29 from by simp at h'; omega, ← e]; simp
theorem dbl_lo (a : Nat) (h : a < 128) : ((a : Int) * 2 % 256) = ((dbl a : Nat) : Int) := by
  unfold dbl; rw [if_pos h]; omega
end Gfm

set_option maxHeartbeats 400000 in
theorem double_any (a : Nat) (h : a < 256) (w : World) :
    Calls Try.prog 80 #[.int .u8 a] w fun e w' => e = .returned (.int .u8 (Gfm.dbl a : Nat)) ∧ w' = w := by
  have hd := Gfm.and128 a h
  by_cases hb : a < 128
  · have hd : (bits BinOp.and IntKind.u8 (a : Int) 128 != 0) = false := by rw [hd]; simp; omega
    have e := Gfm.dbl_lo a hb
    go_enter Try.func80, Try.ntmps80
    go_wp2
    go_ret
    exact ⟨ret_int (by omega), rfl⟩
  · have hd : (bits BinOp.and IntKind.u8 (a : Int) 128 != 0) = true := by rw [hd]; simp; omega
    have e := Gfm.dbl_hi a h (by omega)
    have He : Hid (bits BinOp.xor IntKind.u8 ((a : Int) * 2 % 256) 29 = ((Gfm.dbl a : Nat) : Int)) := e
    clear e
    go_enter Try.func80, Try.ntmps80
    go_wp2
    go_ret
    exact ⟨ret_int He.out, rfl⟩

set_option maxHeartbeats 400000 in
theorem product_any (a b : Nat) (ha : a < 256) (hb : b < 256) (w : World) :
    Calls Try.prog 65 #[.int .u8 a, .int .u8 b] w fun e w' => e = .returned (.int .u8 (Gfm.mul a b : Nat)) ∧ w' = w := by
  go_enter Try.func65, Try.ntmps65
  go_wp2
  go_loop [0, 1, 5] (fun x y s => ∃ A B S : Nat, A < 256 ∧ B < 256 ∧ S < 256 ∧ S ^^^ Gfm.mul A B = Gfm.mul a b ∧ x = .int .u8 A ∧ y = .int .u8 B ∧ s = .int .u8 S) (fun _ y _ => (intOf y).toNat)
  case atStart => exact ⟨a, b, 0, ha, hb, by omega, by simp, rfl, rfl, rfl⟩
  case round =>
    obtain ⟨A, B, S, hA, hB, hS, he, rfl, rfl, rfl⟩ := hrel
    have He : Hid (S ^^^ Gfm.mul A B = Gfm.mul a b) := he; clear he
    have hm := Gfm.and1 B hB
    by_cases hz : B = 0
    · subst hz
      go_wp2
      go_ret
      have he := He.out
      rw [Gfm.mul_zero, Nat.xor_zero] at he
      exact ⟨ret_int (by rw [he]), rfl⟩
    · have hn : ((B : Int) != 0) = true := by rw [bne_iff_ne]; omega
      by_cases h1 : B % 2 = 1
      · have hm : (bits BinOp.and IntKind.u8 (B : Int) 1 == 1) = true := by rw [hm]; simpa using h1
        go_wp2_with (go_at_call 80; refine (double_any _ hA _).mono ?_; rintro e w' ⟨rfl, rfl⟩)
        refine ⟨⟨Gfm.dbl A, B / 2, S ^^^ A, Gfm.dbl_lt hA, by omega, Gfm.xlt hS hA, ?_, rfl, rfl, ?_⟩, by simp [intOf]; omega⟩
        · rw [← He.out, Gfm.mul_step hB, if_pos h1, Nat.xor_assoc]
        · rw [u8_xor_nat S A hS hA]
      · have hm : (bits BinOp.and IntKind.u8 (B : Int) 1 == 1) = false := by rw [hm]; simpa using h1
        go_wp2_with (go_at_call 80; refine (double_any _ hA _).mono ?_; rintro e w' ⟨rfl, rfl⟩)
        refine ⟨⟨Gfm.dbl A, B / 2, S, Gfm.dbl_lt hA, by omega, hS, ?_, rfl, rfl, rfl⟩, by simp [intOf]; omega⟩
        rw [← He.out, Gfm.mul_step hB, if_neg h1, Nat.zero_xor]

theorem product_int (a b : Int) (ha : 0 ≤ a ∧ a < 256) (hb : 0 ≤ b ∧ b < 256) (w : World) :
    Calls Try.prog 65 #[.int .u8 a, .int .u8 b] w fun e w' => e = .returned (.int .u8 (Gfm.mul a.toNat b.toNat : Nat)) ∧ w' = w := by
  obtain ⟨n, rfl⟩ := Int.eq_ofNat_of_zero_le ha.1
  obtain ⟨m, rfl⟩ := Int.eq_ofNat_of_zero_le hb.1
  exact product_any n m (by omega) (by omega) w

end Go.Proofs.Ytjephdeolifbpaa
