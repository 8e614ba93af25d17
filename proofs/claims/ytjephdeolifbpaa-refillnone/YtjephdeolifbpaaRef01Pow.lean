/- The walks of the document's own powers of a number, and of 2. -/
import Derived.Test.YtjephdeolifbpaaRef01
namespace Go.Proofs.Ytjephdeolifbpaa
open Go.RowKit

namespace Gfm
theorem tmod_neg {n : Int} (h : n.tmod 255 < 0) : n.tmod 255 + 255 = n % 255 := by
  have e := tmod_eq_if n 255
  rw [e] at h ⊢
  split at h <;> split <;> omega
theorem tmod_pos {n : Int} (h : ¬ n.tmod 255 < 0) : n.tmod 255 = n % 255 := by
  have e := tmod_eq_if n 255
  rw [e] at h ⊢
  split at h <;> split <;> omega
theorem tmod_low (n : Int) : -255 < n.tmod 255 := by
  have e := tmod_eq_if n 255
  rw [e]; split <;> omega
end Gfm

set_option maxHeartbeats 1000000 in
theorem refPow_some (a : Nat) (ha : a < 256) (hz : a ≠ 0) (n : Int) (hn : n ≠ 0) (w : World) :
    Calls Try.prog 73 #[.int .u8 a, .int .i64 n] w fun e w' => e = .returned (.int .u8 (Gfm.powI a n : Nat)) ∧ w' = w := by
  have hn' : (n == 0) = false := by simpa using hn
  have hz' : ((a : Int) == 0) = false := by simp; omega
  obtain ⟨k, hk⟩ : ∃ k : Nat, n % 255 = k := ⟨(n % 255).toNat, by omega⟩
  have hk2 : k < 255 := by omega
  have He : Hid (Gfm.powI a n = Gfm.pw a k) := by show _ = _; rw [Gfm.powI_else hn hz, hk]; rfl
  have hlow := Gfm.tmod_low n
  obtain ⟨T, hT⟩ : ∃ T, n.tmod 255 = T := ⟨_, rfl⟩
  by_cases ht : n.tmod 255 < 0
  · have hkk := (Gfm.tmod_neg ht).trans hk
    rw [hT] at ht hkk hlow
    clear hk hn hz
    go_enter Try.func73, Try.ntmps73
    go_wp2
    go_loop [6, 7] (fun x i => ∃ j : Nat, j ≤ k ∧ i = .int .i64 j ∧ x = .int .u8 (Gfm.pw a j : Nat)) (fun _ i => k - (intOf i).toNat)
    case atStart => exact ⟨0, by omega, rfl, rfl⟩
    case round =>
      obtain ⟨j, hj, rfl, rfl⟩ := hrel
      have hp := Gfm.pw_lt (a := a) j
      by_cases hjk : j < k
      · have Hs : Hid (Gfm.pw a (j + 1) = Gfm.mul (Gfm.pw a j) a) := rfl
        obtain ⟨x, hx⟩ : ∃ x, Gfm.pw a j = x := ⟨_, rfl⟩
        rw [hx] at hp Hs
        rw [hx]
        clear hx
        go_wp2_with fail
        refine (refMul_any x a hp ha _).mono ?_
        rintro e w' ⟨rfl, rfl⟩
        go_wp2
        go_round
        case rel => exact ⟨j + 1, by omega, by go_num, by rw [Hs.out]⟩
        case measure => simp [intOf]; omega
      · have hjj : j = k := by omega
        have E : Hid (Gfm.powI a n = Gfm.pw a j) := by show _ = _; rw [He.out, hjj]
        clear hjj
        go_wp2
        go_ret
        exact ⟨ret_int (by rw [E.out]), rfl⟩
  · have hkk := (Gfm.tmod_pos ht).trans hk
    rw [hT] at ht hkk hlow
    clear hk hn hz
    go_enter Try.func73, Try.ntmps73
    go_wp2
    go_loop [6, 7] (fun x i => ∃ j : Nat, j ≤ k ∧ i = .int .i64 j ∧ x = .int .u8 (Gfm.pw a j : Nat)) (fun _ i => k - (intOf i).toNat)
    case atStart => exact ⟨0, by omega, rfl, rfl⟩
    case round =>
      obtain ⟨j, hj, rfl, rfl⟩ := hrel
      have hp := Gfm.pw_lt (a := a) j
      by_cases hjk : j < k
      · have Hs : Hid (Gfm.pw a (j + 1) = Gfm.mul (Gfm.pw a j) a) := rfl
        obtain ⟨x, hx⟩ : ∃ x, Gfm.pw a j = x := ⟨_, rfl⟩
        rw [hx] at hp Hs
        rw [hx]
        clear hx
        go_wp2_with fail
        refine (refMul_any x a hp ha _).mono ?_
        rintro e w' ⟨rfl, rfl⟩
        go_wp2
        go_round
        case rel => exact ⟨j + 1, by omega, by go_num, by rw [Hs.out]⟩
        case measure => simp [intOf]; omega
      · have hjj : j = k := by omega
        have E : Hid (Gfm.powI a n = Gfm.pw a j) := by show _ = _; rw [He.out, hjj]
        clear hjj
        go_wp2
        go_ret
        exact ⟨ret_int (by rw [E.out]), rfl⟩

set_option maxHeartbeats 400000 in
theorem refPow_zero (a : Nat) (w : World) :
    Calls Try.prog 73 #[.int .u8 a, .int .i64 0] w fun e w' => e = .returned (.int .u8 (Gfm.powI a 0 : Nat)) ∧ w' = w := by
  have e := Gfm.powI_zero a
  go_enter Try.func73, Try.ntmps73
  go_wp2
  go_ret
  exact ⟨rfl, rfl⟩

set_option maxHeartbeats 400000 in
theorem refExp_any (n : Int) (w : World) :
    Calls Try.prog 49 #[.int .i64 n] w fun e w' => e = .returned (.int .u8 (Gfm.powI 2 n : Nat)) ∧ w' = w := by
  have h : Calls Try.prog 73 #[.int .u8 2, .int .i64 n] w fun e w' => e = .returned (.int .u8 (Gfm.powI 2 n : Nat)) ∧ w' = w := by
    by_cases hn : n = 0
    · subst hn; exact refPow_zero 2 w
    · exact refPow_some 2 (by decide) (by decide) n hn w
  go_enter Try.func49, Try.ntmps49
  go_wp2_with fail
  refine h.mono ?_
  rintro e w' ⟨rfl, rfl⟩
  go_wp2
  go_ret
  exact ⟨rfl, rfl⟩
end Go.Proofs.Ytjephdeolifbpaa
