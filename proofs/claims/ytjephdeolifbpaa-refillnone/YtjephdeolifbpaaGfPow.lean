/- The walks of gf: powers, inverses, quotients. -/
import Derived.Test.YtjephdeolifbpaaGfWalk
namespace Go.Proofs.Ytjephdeolifbpaa
open Go.RowKit

namespace Gfm
theorem around_eq (n : Int) : (wrap64 (n.tmod 255 + 255)).tmod 255 = n % 255 := by
  have e : n.tmod 255 = if 0 ≤ n then n % 255 else -((-n) % 255) := tmod_eq_if n 255
  have hb : -255 < n.tmod 255 ∧ n.tmod 255 < 255 := by rw [e]; split <;> omega
  rw [IntWalk.wrap64_in _ (by omega), tmod_eq_if, if_pos (by omega), e]
  split <;> omega
/- what power answers -/
def powI (a : Nat) (n : Int) : Nat := if n = 0 then 1 else if a = 0 then 0 else pw a (n % 255).toNat
theorem powI_zero (a : Nat) : powI a 0 = 1 := by unfold powI; rw [if_pos rfl]
theorem powI_nought {n : Int} (h : n ≠ 0) : powI 0 n = 0 := by unfold powI; rw [if_neg h, if_pos rfl]
theorem powI_else {a : Nat} {n : Int} (h : n ≠ 0) (ha : a ≠ 0) : powI a n = pw a (n % 255).toNat := by unfold powI; rw [if_neg h, if_neg ha]
theorem powI_ne {a : Nat} (n : Int) (ha : a ≠ 0) : powI a n = pw a (n % 255).toNat := by
  by_cases h : n = 0
  · subst h; rw [powI_zero]; rfl
  · exact powI_else h ha
theorem powI_lt (a : Nat) (n : Int) : powI a n < 256 := by
  unfold powI; split
  · omega
  · split
    · omega
    · exact pw_lt _
/- is there an inverse -/
def nz (a : Nat) : Bool := decide (a ≠ 0)
theorem nz_of {a : Nat} (h : ¬ a = 0) : nz a = true := decide_eq_true h
theorem nz_zero : nz 0 = false := rfl
theorem inv_zero : inv 0 = 0 := zero_pw 254 (by omega)
theorem andi_one (L : Int) (h0 : 0 ≤ L) (h1 : L ≤ 9223372036854775807) : bits BinOp.and IntKind.i64 L 1 = L % 2 := by
  obtain ⟨n, rfl⟩ := Int.eq_ofNat_of_zero_le h0
  have h := i64_and_nat n 1 (by omega) (by decide)
  rw [show ((1 : Nat) : Int) = 1 from rfl, Nat.and_one_is_mod] at h
  rw [h]; omega
end Gfm

set_option maxHeartbeats 400000 in
theorem around_any (n : Int) (w : World) :
    Calls Try.prog 88 #[.int .i64 n] w fun e w' => e = .returned (.int .i64 (n % 255)) ∧ w' = w := by
  have e := Gfm.around_eq n
  go_enter Try.func88, Try.ntmps88
  go_wp2
  go_ret
  exact ⟨ret_int rfl, rfl⟩

set_option maxHeartbeats 1000000 in
theorem power_any (a : Nat) (ha : a < 256) (n : Int) (w : World) :
    Calls Try.prog 81 #[.int .u8 a, .int .i64 n] w fun e w' => e = .returned (.int .u8 (Gfm.powI a n : Nat)) ∧ w' = w := by
  by_cases hn : n = 0
  · subst hn
    have e := Gfm.powI_zero a
    go_enter Try.func81, Try.ntmps81
    go_wp2
    go_ret
    exact ⟨rfl, rfl⟩
  · have hn' : (n == 0) = false := by simpa using hn
    by_cases hz : a = 0
    · subst hz
      have e := Gfm.powI_nought hn
      have hz' : (((0 : Nat) : Int) == 0) = true := by decide
      have He : Hid (Gfm.powI 0 n = 0) := e
      clear e
      go_enter Try.func81, Try.ntmps81
      go_wp2
      go_ret
      exact ⟨ret_int (by rw [He.out]; rfl), rfl⟩
    · have hz' : ((a : Int) == 0) = false := by simp; omega
      obtain ⟨k, hk⟩ : ∃ k : Nat, n % 255 = k := ⟨(n % 255).toNat, by omega⟩
      have hk2 : k < 255 := by omega
      have He : Hid (Gfm.powI a n = Gfm.pw a k) := by rw [Gfm.powI_else hn hz, hk]; rfl
      have Hk : Hid (n % 255 = k) := hk
      clear hk
      go_enter Try.func81, Try.ntmps81
      go_wp2_with (go_at_call 88; refine (around_any _ _).mono ?_; rintro e w' ⟨rfl, rfl⟩)
      rw [Hk.out]
      clear Hk hn hn' hz'
      go_loop [0, 5, 6] (fun x o l => ∃ A O L : Nat, A < 256 ∧ O < 256 ∧ L < 255 ∧ Gfm.mul O (Gfm.pw A L) = Gfm.pw a k ∧ x = .int .u8 A ∧ o = .int .u8 O ∧ l = .int .i64 L) (fun _ _ l => (intOf l).toNat)
      case atStart => exact ⟨a, 1, k, ha, by omega, hk2, Gfm.one_mul (Gfm.pw_lt _), rfl, rfl, rfl⟩
      case round =>
        obtain ⟨A, O, L, hA, hO, hL, he, rfl, rfl, rfl⟩ := hrel
        have hm := Gfm.andi_one (L : Int) (by omega) (by omega)
        by_cases hl : L = 0
        · subst hl
          have e : O = Gfm.pw a k := by rw [← he]; exact (Gfm.mul_one hO).symm
          clear he
          have E : Hid (O = Gfm.pw a k) := e
          clear e
          go_wp2
          go_ret
          exact ⟨ret_int (by rw [He.out, ← E.out]), rfl⟩
        · have hpos : (0 : Int) < (L : Int) := by omega
          rw [Gfm.pw_step hA hO] at he
          have Hs : Hid (Gfm.mul (if L % 2 = 1 then Gfm.mul O A else O) (Gfm.pw (Gfm.mul A A) (L / 2)) = Gfm.pw a k) := he
          clear he
          by_cases h1 : L % 2 = 1
          · have hm2 : ((L : Int) % 2 == 1) = true := by rw [beq_iff_eq]; omega
            go_wp2_with fail
            refine (product_any O A hO hA _).mono ?_
            rintro e w' ⟨rfl, rfl⟩
            go_wp2_with fail
            refine (product_any A A hA hA _).mono ?_
            rintro e w' ⟨rfl, rfl⟩
            go_wp2
            refine ⟨⟨Gfm.mul A A, Gfm.mul O A, L / 2, Gfm.mul_lt hA, Gfm.mul_lt hO, by omega, ?_, rfl, rfl, rfl⟩, by simp [intOf]; omega⟩
            have := Hs.out
            rw [if_pos h1] at this
            exact this
          · have hm2 : ((L : Int) % 2 == 1) = false := by rw [beq_eq_false_iff_ne]; omega
            go_wp2_with fail
            refine (product_any A A hA hA _).mono ?_
            rintro e w' ⟨rfl, rfl⟩
            go_wp2
            refine ⟨⟨Gfm.mul A A, O, L / 2, Gfm.mul_lt hA, hO, by omega, ?_, rfl, rfl, rfl⟩, by simp [intOf]; omega⟩
            have := Hs.out
            rw [if_neg h1] at this
            exact this

theorem power_int (a : Int) (ha : 0 ≤ a ∧ a < 256) (n : Int) (w : World) :
    Calls Try.prog 81 #[.int .u8 a, .int .i64 n] w fun e w' => e = .returned (.int .u8 (Gfm.powI a.toNat n : Nat)) ∧ w' = w := by
  obtain ⟨m, rfl⟩ := Int.eq_ofNat_of_zero_le ha.1
  exact power_any m (by omega) n w

set_option maxHeartbeats 400000 in
theorem Pow_int (a : Int) (ha : 0 ≤ a ∧ a < 256) (n : Int) (w : World) :
    Calls Try.prog 66 #[.int .u8 a, .int .i64 n] w fun e w' => e = .returned (.int .u8 (Gfm.powI a.toNat n : Nat)) ∧ w' = w := by
  go_enter Try.func66, Try.ntmps66
  go_wp2_with (go_at_call 81; refine (power_int _ ha _ _).mono ?_; rintro e w' ⟨rfl, rfl⟩)
  go_ret
  exact ⟨rfl, rfl⟩

set_option maxHeartbeats 400000 in
theorem Exp_int (n : Int) (w : World) :
    Calls Try.prog 43 #[.int .i64 n] w fun e w' => e = .returned (.int .u8 (Gfm.powI 2 n : Nat)) ∧ w' = w := by
  go_enter Try.func43, Try.ntmps43
  go_wp2_with (go_at_call 66; refine (Pow_int 2 (by omega) _ _).mono ?_; rintro e w' ⟨rfl, rfl⟩)
  go_ret
  exact ⟨rfl, rfl⟩

set_option maxHeartbeats 400000 in
theorem Inv_any (a : Nat) (ha : a < 256) (w : World) :
    Calls Try.prog 71 #[.int .u8 a] w fun e w' => e = .returned (.tuple #[.int .u8 (Gfm.inv a : Nat), .bool (Gfm.nz a)]) ∧ w' = w := by
  by_cases hz : a = 0
  · subst hz
    have h0 : (((0 : Nat) : Int) == 0) = true := by decide
    go_enter Try.func71, Try.ntmps71
    go_wp2
    go_ret2
    exact ⟨ret_two (by rw [Gfm.inv_zero]; rfl) rfl, rfl⟩
  · have h0 : ((a : Int) == 0) = false := by simp; omega
    have hp : Gfm.powI a (-1) = Gfm.inv a := Gfm.powI_ne (-1) hz
    have Hp : Hid (Gfm.powI a (-1) = Gfm.inv a) := hp
    have Hz : Hid (¬ a = 0) := hz
    clear hp hz
    go_enter Try.func71, Try.ntmps71
    go_wp2_with (go_at_call 81; refine (power_any a ha _ _).mono ?_; rintro e w' ⟨rfl, rfl⟩)
    go_ret2
    exact ⟨ret_two (by rw [← Hp.out]; rfl) (by rw [Gfm.nz_of Hz.out]; rfl), rfl⟩

theorem Inv_int (a : Int) (ha : 0 ≤ a ∧ a < 256) (w : World) :
    Calls Try.prog 71 #[.int .u8 a] w fun e w' => e = .returned (.tuple #[.int .u8 (Gfm.inv a.toNat : Nat), .bool (Gfm.nz a.toNat)]) ∧ w' = w := by
  obtain ⟨m, rfl⟩ := Int.eq_ofNat_of_zero_le ha.1
  exact Inv_any m (by omega) w

end Go.Proofs.Ytjephdeolifbpaa
