/- Plans: the walks of what the program asks of numbers' bits. -/
import Derived.Test.YtlkbdhejfmljlaaDoorPpMath
import Derived.Test.YtlkbdhejfmljlaaDoorRef15Rd
import Derived.Test.YtlkbdhejfmljlaaDoorLayTz
namespace Go.Proofs.YtlkbdhejfmljlaaDoor
open Go.RowKit Go.Shelf
attribute [local go_sem] Oper.semAt_some

/-- the library's table of places -/
def Tz (w : World) : Prop := TabAt 1 Lib.deBruijn64tab w
theorem Tz.pos {w : World} (h : Tz w) : 1 < w.heap.size := World.block_lt_of_cell? w _ (h 0 (by decide))
theorem Tz.kept {w w' : World} (h : Tz w) (hb : Below w.heap.size w w') : Tz w' := fun j hj => (hb.cell (p := ⟨1, j, none⟩) h.pos).trans (h j hj)

theorem tz64_any (x : Nat) (hx : x < 18446744073709551616) (w : World) (hT : Tz w) :
    Calls Tryd.prog 39 #[.int .u64 (x : Int)] w fun e w' => e = .returned (.int .i64 ((Lib.ctz 64 x : Nat) : Int)) ∧ w' = w :=
  Any7.bits_TrailingZeros64 Tryd.tzA x hx w (fun _ => hT)

theorem tz_any (x : Nat) (hx : x < 18446744073709551616) (w : World) (hT : Tz w) :
    Calls Tryd.prog 31 #[.int .u64 (x : Int)] w fun e w' => e = .returned (.int .i64 ((Lib.ctz 64 x : Nat) : Int)) ∧ w' = w := by
  have c := tz64_any x hx w hT
  obtain ⟨k, hk⟩ : ∃ k, k = Lib.ctz 64 x := ⟨_, rfl⟩
  rw [← hk] at c ⊢
  clear hk
  go_enter Tryd.func31, Tryd.ntmps31
  go_wp2_with fail
  refine c.mono ?_
  rintro e w1 ⟨rfl, rfl⟩
  go_wp2
  go_ret
  exact ⟨rfl, rfl⟩

set_option maxRecDepth 100000 in
set_option maxHeartbeats 4000000 in
theorem ones64_any (x : Nat) (hx : x < 1024) (w : World) :
    Calls Tryd.prog 41 #[.int .u64 (x : Int)] w fun e w' => e = .returned (.int .i64 (Rs.cnt x : Nat)) ∧ w' = w := by
  go_enter Tryd.func41, Tryd.ntmps41
  go_wp2
  go_ret
  refine ⟨congrArg Ending.returned (congrArg (Value.int IntKind.i64) ?_), rfl⟩
  obtain ⟨y, rfl⟩ : ∃ y : Fin 1024, x = y.val := ⟨⟨x, hx⟩, rfl⟩
  clear hx
  revert y
  decide +kernel

theorem ones_any (x : Nat) (hx : x < 1024) (w : World) :
    Calls Tryd.prog 36 #[.int .u64 (x : Int)] w fun e w' => e = .returned (.int .i64 (Rs.cnt x : Nat)) ∧ w' = w := by
  have c := ones64_any x hx w
  obtain ⟨k, hk⟩ : ∃ k, k = Rs.cnt x := ⟨_, rfl⟩
  rw [← hk] at c ⊢
  clear hk hx
  go_enter Tryd.func36, Tryd.ntmps36
  go_wp2_with fail
  refine c.mono ?_
  rintro e w1 ⟨rfl, rfl⟩
  go_wp2
  go_ret
  exact ⟨rfl, rfl⟩

theorem count_any (x : Nat) (hx : x < 1024) (w : World) :
    Calls Tryd.prog 26 #[.int .u64 (x : Int)] w fun e w' => e = .returned (.int .i64 (Rs.cnt x : Nat)) ∧ w' = w := by
  have c := ones_any x hx w
  obtain ⟨k, hk⟩ : ∃ k, k = Rs.cnt x := ⟨_, rfl⟩
  rw [← hk] at c ⊢
  clear hk hx
  go_enter Tryd.func26, Tryd.ntmps26
  go_wp2_with fail
  refine c.mono ?_
  rintro e w1 ⟨rfl, rfl⟩
  go_wp2
  go_ret
  exact ⟨rfl, rfl⟩

theorem Rs.u64_and (a b : Nat) (ha : a < 18446744073709551616) (hb : b < 18446744073709551616) : bits .and .u64 (a : Int) (b : Int) = ((a &&& b : Nat) : Int) := by
  have h : a &&& b < 2 ^ 64 := Nat.and_lt_two_pow _ hb
  have e : (BitVec.ofInt 64 (a : Int) &&& BitVec.ofInt 64 (b : Int)).toNat = a &&& b := by rw [BitVec.toNat_and, ofInt_u64 a ha, ofInt_u64 b hb]
  show IntKind.u64.wrap ((BitVec.ofInt 64 (a : Int) &&& BitVec.ofInt 64 (b : Int)).toNat : Int) = _
  rw [e, IntKind.wrap_u64]; omega
theorem Rs.u64_diff (a b : Nat) (ha : a < 18446744073709551616) (hb : b < 18446744073709551616) : bits .andNot .u64 (a : Int) (b : Int) = ((Rs.diff a b : Nat) : Int) := by
  unfold Rs.diff
  have h : a &&& (2 ^ 64 - (b + 1)) < 18446744073709551616 := Nat.lt_of_le_of_lt Nat.and_le_left ha
  have e : (BitVec.ofInt 64 (a : Int) &&& ~~~BitVec.ofInt 64 (b : Int)).toNat = a &&& (2 ^ 64 - (b + 1)) := by
    rw [BitVec.toNat_and, BitVec.toNat_not, ofInt_u64 a ha, ofInt_u64 b hb, Nat.sub_sub, Nat.add_comm 1 b]
  show IntKind.u64.wrap ((BitVec.ofInt 64 (a : Int) &&& ~~~BitVec.ofInt 64 (b : Int)).toNat : Int) = _
  rw [e, IntKind.wrap_u64]; omega
theorem Rs.bit_of (x k : Nat) (hx : x < 1024) : (bits .and .u64 ((x : Int) / 2 ^ min k 64) 1 == 1) = x.testBit k := by
  have e : (x : Int) / 2 ^ min k 64 = ((x / 2 ^ min k 64 : Nat) : Int) := by rw [Int.natCast_ediv, Int.natCast_pow]; rfl
  have hd : x / 2 ^ min k 64 < 18446744073709551616 := Nat.lt_of_le_of_lt (Nat.div_le_self _ _) (by omega)
  rw [e, show (1 : Int) = ((1 : Nat) : Int) from rfl, Rs.u64_and _ 1 hd (by decide), Nat.and_one_is_mod]
  by_cases hk : k ≤ 64
  · rw [Nat.min_eq_left hk, Nat.testBit_eq_decide_div_mod_eq]
    by_cases h : x / 2 ^ k % 2 = 1
    · rw [h]; rfl
    · rw [decide_eq_false h, beq_eq_false_iff_ne]; omega
  · have e2 : x / 2 ^ min k 64 = 0 := by rw [Nat.min_eq_right (by omega)]; exact Nat.div_eq_of_lt (by omega)
    rw [e2, Rs.high hx (by omega)]; rfl

/-- first(n) -/
theorem first_any (N : Nat) (hN : N ≤ 10) (w : World) :
    Calls Tryd.prog 37 #[.int .i64 (N : Int)] w fun e w' => e = .returned (.int .u64 ((2 ^ N - 1 : Nat) : Int)) ∧ w' = w := by
  go_enter Tryd.func37, Tryd.ntmps37
  go_wp2
  go_ret
  refine ⟨congrArg Ending.returned (congrArg (Value.int IntKind.u64) ?_), rfl⟩
  obtain ⟨y, rfl⟩ : ∃ y : Fin 11, N = y.val := ⟨⟨N, by omega⟩, rfl⟩
  clear hN
  revert y
  decide +kernel

/-- whether a role is one of them -/
theorem roleHas_any (x : Nat) (hx : x < 1024) (role : Int) (w : World) :
    Calls Tryd.prog 29 #[.int .u64 (x : Int), .int .i64 role] w fun e w' => e = .returned (.bool (decide (0 ≤ role) && x.testBit role.toNat)) ∧ w' = w := by
  by_cases h0 : 0 ≤ role
  · obtain ⟨k, rfl⟩ : ∃ k : Nat, role = (k : Int) := ⟨role.toNat, by omega⟩
    have t0 : decide ((0 : Int) ≤ (k : Int)) = true := decide_eq_true h0
    go_enter Tryd.func29, Tryd.ntmps29
    go_wp2
    go_ret
    refine ⟨ret_bool ?_, rfl⟩
    rw [Rs.bit_of x k hx, t0, Bool.true_and, Int.toNat_natCast]
  · have t0 : decide ((0 : Int) ≤ role) = false := decide_eq_false h0
    clear h0
    go_enter Tryd.func29, Tryd.ntmps29
    go_wp2
    go_ret
    exact ⟨ret_bool (by rw [t0]; rfl), rfl⟩
end Go.Proofs.YtlkbdhejfmljlaaDoor
