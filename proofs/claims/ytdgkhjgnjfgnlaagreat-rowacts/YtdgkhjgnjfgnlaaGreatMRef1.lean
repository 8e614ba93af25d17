import Derived.Test.YtdgkhjgnjfgnlaaGreatMGfA
namespace Go.Proofs.YtdgkhjgnjfgnlaaGreat
open Go.RowKit
namespace Gfm
theorem dbl_ref_all : allB (fun x => if 256 ≤ x * 2 then (x * 2) ^^^ 285 == dbl x else x * 2 == dbl x) = true := by decide +kernel
theorem dbl_ref_hi {x : Nat} (hx : x < 256) (h : 256 ≤ x * 2) : (x * 2) ^^^ 285 = dbl x := by
 have := allB_of dbl_ref_all x hx
 rw [if_pos h] at this; simpa using this
theorem dbl_ref_lo {x : Nat} (hx : x < 256) (h : ¬ 256 ≤ x * 2) : x * 2 = dbl x := by
 have := allB_of dbl_ref_all x hx
 rw [if_neg h] at this; simpa using this
theorem andi_bit (L : Nat) (h : L < 256) : (bits BinOp.and IntKind.i64 (L : Int) 1 == 1) = decide (L % 2 = 1) := by
 rw [andi_one (L : Int) (by omega) (by omega), Bool.eq_iff_iff]; simp; omega
end Gfm
set_option maxRecDepth 10000 in
set_option maxRecDepth 100000 in
set_option maxHeartbeats 1000000 in
theorem refMul_any (a b : Nat) (ha : a < 256) (hb : b < 256) (w : World) :
  Calls Tryz.prog 91 #[.int .u8 a, .int .u8 b] w fun e w' => e = .returned (.int .u8 (Gfm.mul a b : Nat)) ∧ w' = w := by
 go_enter Tryz.func91, Tryz.ntmps91
 go_wp2
 go_loop [5, 6, 7] (fun n x i => ∃ N X I : Nat, N < 256 ∧ X < 256 ∧ I ≤ 8 ∧ N ^^^ Gfm.mulN (8 - I) X (b / 2 ^ I) = Gfm.mul a b ∧ n = .int .i64 N ∧ x = .int .i64 X ∧ i = .int .i64 I) (fun _ _ i => 8 - (intOf i).toNat)
 case atStart => exact ⟨0, a, 0, by omega, ha, by omega, by simp [Gfm.mul], rfl, by go_num, rfl⟩
 case round =>
  obtain ⟨N, X, I, hN, hX, hI, he, rfl, rfl, rfl⟩ := hrel
  have He : Hid (N ^^^ Gfm.mulN (8 - I) X (b / 2 ^ I) = Gfm.mul a b) := he
  clear he
  by_cases h8 : I < 8
  ·have e8 : 8 - I = (8 - (I + 1)) + 1 := by omega
   have hq : b / 2 ^ I / 2 = b / 2 ^ (I + 1) := by rw [Nat.div_div_eq_div_mul, Nat.pow_succ]
   have hle : b / 2 ^ I ≤ b := Nat.div_le_self _ _
   have hc : ((b / 2 ^ I : Nat) : Int) = (b : Int) / 2 ^ I := by simp
   have hm := Gfm.andi_bit (b / 2 ^ I) (by omega)
   rw [hc] at hm
   have x1 := i64_xor_nat N X (by omega) (by omega)
   have x2 := i64_xor_nat (X * 2) 285 (by omega) (by omega)
   rw [show ((X * 2 : Nat) : Int) = (X : Int) * 2 from by omega, show ((285 : Nat) : Int) = 285 from rfl] at x2
   have hx := Gfm.xlt hN hX
   have hd := Gfm.dbl_lt hX
   have hs := He.out
   rw [e8, Gfm.mulN, hq] at hs
   have Hs : Hid (N ^^^ ((if b / 2 ^ I % 2 = 1 then X else 0) ^^^ Gfm.mulN (8 - (I + 1)) (Gfm.dbl X) (b / 2 ^ (I + 1))) = Gfm.mul a b) := hs
   clear hs He hq e8
   by_cases h1 : b / 2 ^ I % 2 = 1
   ·have hs := Hs.out
    rw [if_pos h1, ← Nat.xor_assoc] at hs
    have Hs : Hid (N ^^^ X ^^^ Gfm.mulN (8 - (I + 1)) (Gfm.dbl X) (b / 2 ^ (I + 1)) = Gfm.mul a b) := hs
    clear hs
    have ht : (bits BinOp.and IntKind.i64 ((b : Int) / 2 ^ I) 1 == 1) = true := by rw [hm]; exact decide_eq_true h1
    clear hm hc h1
    by_cases h2 : 256 ≤ X * 2
    ·have e := Gfm.dbl_ref_hi hX h2
     rw [e] at x2
     clear e
     go_wp2
     go_round
     case rel => exact ⟨N ^^^ X, Gfm.dbl X, I + 1, hx, hd, by omega, Hs.out, rfl, rfl, by go_num⟩
     case measure => simp [intOf]; omega
    ·have e := Gfm.dbl_ref_lo hX h2
     have E : Hid (X * 2 = Gfm.dbl X) := e
     clear e x2
     go_wp2
     go_round
     case rel => exact ⟨N ^^^ X, Gfm.dbl X, I + 1, hx, hd, by omega, Hs.out, rfl, by rw [← E.out]; go_num, by go_num⟩
     case measure => simp [intOf]; omega
   ·have hs := Hs.out
    rw [if_neg h1, Nat.zero_xor] at hs
    have Hs : Hid (N ^^^ Gfm.mulN (8 - (I + 1)) (Gfm.dbl X) (b / 2 ^ (I + 1)) = Gfm.mul a b) := hs
    clear hs
    have ht : (bits BinOp.and IntKind.i64 ((b : Int) / 2 ^ I) 1 == 1) = false := by rw [hm]; exact decide_eq_false h1
    clear hm hc h1 x1
    by_cases h2 : 256 ≤ X * 2
    ·have e := Gfm.dbl_ref_hi hX h2
     rw [e] at x2
     clear e
     go_wp2
     go_round
     case rel => exact ⟨N, Gfm.dbl X, I + 1, hN, hd, by omega, Hs.out, rfl, rfl, by go_num⟩
     case measure => simp [intOf]; omega
    ·have e := Gfm.dbl_ref_lo hX h2
     have E : Hid (X * 2 = Gfm.dbl X) := e
     clear e x2
     go_wp2
     go_round
     case rel => exact ⟨N, Gfm.dbl X, I + 1, hN, hd, by omega, Hs.out, rfl, by rw [← E.out]; go_num, by go_num⟩
     case measure => simp [intOf]; omega
  ·have h8' : I = 8 := by omega
   subst h8'
   have he : N = Gfm.mul a b := by have := He.out; simpa [Gfm.mulN] using this
   have Hf : Hid (N = Gfm.mul a b) := he
   clear he
   go_wp2
   go_ret
   exact ⟨ret_int (by rw [← Hf.out]), rfl⟩
theorem refMul_u8 (x : UInt8) (b : Nat) (hb : b < 256) (w : World) :
  Calls Tryz.prog 91 #[.int .u8 (x.toNat : Int), .int .u8 b] w fun e w' => e = .returned (.int .u8 (((Gfm.mulU x b).toNat : Nat) : Int)) ∧ w' = w := by
 rw [Gfm.mulU_toNat]; exact refMul_any _ b x.toNat_lt hb w
theorem byte_at {s : ByteArray} {k : Nat} (hk : k < s.size) : s.data.toList.getD k 0 = s[k] := by
 have hk' : k < s.data.toList.length := by simpa using hk
 rw [List.getD_eq_getElem?_getD, List.getElem?_eq_getElem hk']; rfl
end Go.Proofs.YtdgkhjgnjfgnlaaGreat
namespace Go.Proofs.YtdgkhjgnjfgnlaaGreat
open Go.RowKit
namespace Gfm
theorem tmod_neg {n : Int} (h : n.tmod 255 < 0) : n.tmod 255 + 255 = n % 255 := by
 have e := tmod_eq_if n 255
 rw [e] at h ⊢
 split at h <;> split <;> omega
theorem tmod_pos {n : Int} (h : ¬ n.tmod 255 < 0) : n.tmod 255 = n % 255 := by
 have e := tmod_eq_if n 255
 rw [e] at h ⊢
 split at h <;> split <;> omega
theorem tmod_low (n : Int) : -255 < n.tmod 255 := by
 have e := tmod_eq_if n 255
 rw [e]; split <;> omega
end Gfm
set_option maxRecDepth 100000 in
set_option maxHeartbeats 1000000 in
theorem refPow_some (a : Nat) (ha : a < 256) (hz : a ≠ 0) (n : Int) (hn : n ≠ 0) (w : World) :
  Calls Tryz.prog 92 #[.int .u8 a, .int .i64 n] w fun e w' => e = .returned (.int .u8 (Gfm.powI a n : Nat)) ∧ w' = w := by
 have hn' : (n == 0) = false := by simpa using hn
 have hz' : ((a : Int) == 0) = false := by simp; omega
 obtain ⟨k, hk⟩ : ∃ k : Nat, n % 255 = k := ⟨(n % 255).toNat, by omega⟩
 have hk2 : k < 255 := by omega
 have He : Hid (Gfm.powI a n = Gfm.pw a k) := by show _ = _; rw [Gfm.powI_else hn hz, hk]; rfl
 have hlow := Gfm.tmod_low n
 obtain ⟨T, hT⟩ : ∃ T, n.tmod 255 = T := ⟨_, rfl⟩
 by_cases ht : n.tmod 255 < 0
 ·have hkk := (Gfm.tmod_neg ht).trans hk
  rw [hT] at ht hkk hlow
  clear hk hn hz
  go_enter Tryz.func92, Tryz.ntmps92
  go_wp2
  go_loop [6, 7] (fun x i => ∃ j : Nat, j ≤ k ∧ i = .int .i64 j ∧ x = .int .u8 (Gfm.pw a j : Nat)) (fun _ i => k - (intOf i).toNat)
  case atStart => exact ⟨0, by omega, rfl, rfl⟩
  case round =>
   obtain ⟨j, hj, rfl, rfl⟩ := hrel
   have hp := Gfm.pw_lt (a := a) j
   by_cases hjk : j < k
   ·have Hs : Hid (Gfm.pw a (j + 1) = Gfm.mul (Gfm.pw a j) a) := rfl
    obtain ⟨x, hx⟩ : ∃ x, Gfm.pw a j = x := ⟨_, rfl⟩
    rw [hx] at hp Hs
    rw [hx]
    clear hx
    go_wp2_with fail
    refine (refMul_any x a hp ha _).mono ?_
    rintro e w' ⟨rfl, rfl⟩
    go_wp2
    go_round
    case rel => exact ⟨j + 1, by omega, by go_num, by rw [Hs.out]⟩
    case measure => simp [intOf]; omega
   ·have hjj : j = k := by omega
    have E : Hid (Gfm.powI a n = Gfm.pw a j) := by show _ = _; rw [He.out, hjj]
    clear hjj
    go_wp2
    go_ret
    exact ⟨ret_int (by rw [E.out]), rfl⟩
 ·have hkk := (Gfm.tmod_pos ht).trans hk
  rw [hT] at ht hkk hlow
  clear hk hn hz
  go_enter Tryz.func92, Tryz.ntmps92
  go_wp2
  go_loop [6, 7] (fun x i => ∃ j : Nat, j ≤ k ∧ i = .int .i64 j ∧ x = .int .u8 (Gfm.pw a j : Nat)) (fun _ i => k - (intOf i).toNat)
  case atStart => exact ⟨0, by omega, rfl, rfl⟩
  case round =>
   obtain ⟨j, hj, rfl, rfl⟩ := hrel
   have hp := Gfm.pw_lt (a := a) j
   by_cases hjk : j < k
   ·have Hs : Hid (Gfm.pw a (j + 1) = Gfm.mul (Gfm.pw a j) a) := rfl
    obtain ⟨x, hx⟩ : ∃ x, Gfm.pw a j = x := ⟨_, rfl⟩
    rw [hx] at hp Hs
    rw [hx]
    clear hx
    go_wp2_with fail
    refine (refMul_any x a hp ha _).mono ?_
    rintro e w' ⟨rfl, rfl⟩
    go_wp2
    go_round
    case rel => exact ⟨j + 1, by omega, by go_num, by rw [Hs.out]⟩
    case measure => simp [intOf]; omega
   ·have hjj : j = k := by omega
    have E : Hid (Gfm.powI a n = Gfm.pw a j) := by show _ = _; rw [He.out, hjj]
    clear hjj
    go_wp2
    go_ret
    exact ⟨ret_int (by rw [E.out]), rfl⟩
set_option maxRecDepth 100000 in
set_option maxHeartbeats 400000 in
theorem refPow_zero (a : Nat) (w : World) :
  Calls Tryz.prog 92 #[.int .u8 a, .int .i64 0] w fun e w' => e = .returned (.int .u8 (Gfm.powI a 0 : Nat)) ∧ w' = w := by
 have e := Gfm.powI_zero a
 go_enter Tryz.func92, Tryz.ntmps92
 go_wp2
 go_ret
 exact ⟨rfl, rfl⟩
set_option maxRecDepth 100000 in
set_option maxHeartbeats 400000 in
theorem refExp_any (n : Int) (w : World) :
  Calls Tryz.prog 64 #[.int .i64 n] w fun e w' => e = .returned (.int .u8 (Gfm.powI 2 n : Nat)) ∧ w' = w := by
 have h : Calls Tryz.prog 92 #[.int .u8 2, .int .i64 n] w fun e w' => e = .returned (.int .u8 (Gfm.powI 2 n : Nat)) ∧ w' = w := by
  by_cases hn : n = 0
  ·subst hn; exact refPow_zero 2 w
  ·exact refPow_some 2 (by decide) (by decide) n hn w
 go_enter Tryz.func64, Tryz.ntmps64
 go_wp2_with fail
 refine h.mono ?_
 rintro e w' ⟨rfl, rfl⟩
 go_wp2
 go_ret
 exact ⟨rfl, rfl⟩
end Go.Proofs.YtdgkhjgnjfgnlaaGreat
