/- That the statements' own small case goes well. -/
import Derived.Test.YtphhgebalkaghaaGfPow
import Derived.Test.YtphhgebalkaghaaGfXor
namespace Go.Proofs.Ytphhgebalkaghaa
open Go.RowKit
theorem Gfm.two_128 : Gfm.mul 2 128 = 29 := by decide +kernel
theorem Gfm.exp_8 : Gfm.powI 2 8 = 29 := by decide +kernel
theorem Gfm.a_a : Gfm.xorB ⟨#[97]⟩ ⟨#[97]⟩ = ⟨#[0]⟩ := by rfl

set_option maxHeartbeats 1000000 in
theorem shown1_any (w : World) :
    Calls Try.prog 13 #[] w fun e w' => e = .returned (.bool true) ∧ Below w.heap.size w w' := by
  go_enter Try.func13, Try.ntmps13
  go_wp2_with fail
  refine (Mul_int 2 128 (by omega) (by omega) _).mono ?_
  rintro e w' ⟨rfl, rfl⟩
  rw [show ((Gfm.mul (2 : Int).toNat (128 : Int).toNat : Nat) : Int) = 29 from by rw [show (2 : Int).toNat = 2 from rfl, show (128 : Int).toNat = 128 from rfl, Gfm.two_128]; rfl]
  go_wp2_with fail
  refine (Exp_int 8 _).mono ?_
  rintro e w' ⟨rfl, rfl⟩
  rw [show ((Gfm.powI 2 8 : Nat) : Int) = 29 from by rw [Gfm.exp_8]; rfl]
  go_wp2_with fail
  refine (Xor_any ⟨#[97]⟩ ⟨#[97]⟩ (by decide) (by decide) _).mono ?_
  rintro e w' ⟨rfl, hb⟩
  rw [Gfm.a_a]
  go_wp2
  go_ret
  exact ⟨rfl, hb⟩
end Go.Proofs.Ytphhgebalkaghaa
