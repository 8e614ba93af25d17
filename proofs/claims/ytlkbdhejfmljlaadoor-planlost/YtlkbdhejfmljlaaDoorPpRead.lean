/- Plans: the walk of the program's Read. -/
import Derived.Test.YtlkbdhejfmljlaaDoorPpTests
import Derived.Test.YtlkbdhejfmljlaaDoorPlSays
namespace Go.Proofs.YtlkbdhejfmljlaaDoor
open Go.RowKit
attribute [local go_sem] Oper.semAt_some

theorem Job.lost_iff {N : Nat} {B : Nat → Bool} {L : List Int} {d p r l : Nat} (J : Job N B L d p r l) (role : Int) (h0 : 0 ≤ role) : l.testBit role.toNat = Pl.hasB L role := by
  by_cases h : role.toNat < 10
  · rw [J.hl.has _ h]
    unfold Pl.gone
    rw [Int.toNat_of_nonneg h0]
  · rw [Rs.high J.hl.lt (by omega)]
    symm
    cases hg : Pl.hasB L role with
    | false => rfl
    | true =>
      have := J.top role.toNat (by unfold Pl.gone; rw [Int.toNat_of_nonneg h0]; exact hg)
      have := J.n8
      omega

set_option maxRecDepth 100000 in
set_option maxHeartbeats 8000000 in
theorem Read_any (w : World) (hT : Tz w) (n role : Int) (a : Option Addr) (cap : Nat) (L : List Int) (hL : L.length ≤ 1000000) (hR : RowI .i64 w a L.length (fun j => L.getD j 0)) :
    Calls Tryd.prog 13 #[.int .i64 n, .int .i64 role, .slice a L.length cap] w (ReadSays w n role L) := by
  cases hro : Pl.rolesB n L with
  | false =>
    have E : Pl.readE n role L = 1 ∧ Pl.readL n role L = [] := ⟨by unfold Pl.readE; rw [hro]; rfl, by unfold Pl.readL; rw [hro]; rfl⟩
    unfold ReadSays
    rw [E.1, E.2]
    have HRO : Hid (Calls Tryd.prog 27 #[.int .i64 n, .slice a L.length cap] w (Same15 w (.tuple #[.agg #[.int .u64 0, .int .u64 0, .int .u64 0, .int .u64 0], .bool false]))) := row_no w n a cap L hL hR hro
    clear hR hro E hT
    go_enter Tryd.func13, Tryd.ntmps13
    go_wp2_with fail
    refine HRO.out.mono ?_
    rintro e w1 ⟨rfl, hb⟩
    have B1 : Hid (Below w.heap.size w (w1.alloc (.cells #[.int .u64 0, .int .u64 0, .int .u64 0, .int .u64 0] 47))) := below2 hb (job_below w1 _ _)
    clear hb HRO
    go_wp2
    go_ret2
    exact ⟨⟨_, rfl, none, 0, rfl, RowI.nil _ _ _ _⟩, B1.out⟩
  | true =>
    obtain ⟨q2, q8⟩ := Pl.rolesB_n hro
    obtain ⟨N, rfl⟩ : ∃ N : Nat, n = (N : Int) := ⟨n.toNat, by omega⟩
    have HRO : Hid (Calls Tryd.prog 27 #[.int .i64 (N : Int), .slice a L.length cap] w fun e w' => (∃ d p l : Nat, Job N (fun _ => false) L d p 0 l ∧ e = .returned (.tuple #[.agg #[.int .u64 (d : Int), .int .u64 (p : Int), .int .u64 0, .int .u64 (l : Int)], .bool true])) ∧ Below w.heap.size w w') := row_yes w N a cap L hL hR hro
    have HT : Hid (Tz w) := hT
    obtain ⟨c1, hc1⟩ : ∃ c1, (decide (0 ≤ role) && decide (role ≤ (N : Int) + 1)) = c1 := ⟨_, rfl⟩
    obtain ⟨c2, hc2⟩ : ∃ c2, Pl.hasB L role = c2 := ⟨_, rfl⟩
    obtain ⟨c3, hc3⟩ : ∃ c3, decide (2 < L.length) = c3 := ⟨_, rfl⟩
    have hE : Pl.readE (N : Int) role L = (if c1 then (if c2 then (if c3 then 60 else 0) else 0) else 1) := by
      unfold Pl.readE
      rw [hro, Bool.true_and, hc1, hc2]
      by_cases h : 2 < L.length
      · rw [decide_eq_true h] at hc3; rw [if_neg (show ¬ L.length ≤ 2 by omega), ← hc3]; rfl
      · rw [decide_eq_false h] at hc3; rw [if_pos (show L.length ≤ 2 by omega), ← hc3]; rfl
    have hLs : Pl.readL (N : Int) role L = (if c1 then (if c2 then (if c3 then [] else Pl.leftT L (N + 2)) else [role]) else []) := by
      unfold Pl.readL
      rw [hro, Bool.true_and, hc1, hc2, Int.toNat_natCast]
      by_cases h : 2 < L.length
      · rw [decide_eq_true h] at hc3; rw [if_neg (show ¬ L.length ≤ 2 by omega), ← hc3]; rfl
      · rw [decide_eq_false h] at hc3; rw [if_pos (show L.length ≤ 2 by omega), ← hc3]; rfl
    unfold ReadSays
    rw [hE, hLs]
    have HCS : Hid ((decide (0 ≤ role) && decide (role ≤ (N : Int) + 1)) = c1 ∧ Pl.hasB L role = c2 ∧ decide (2 < L.length) = c3) := ⟨hc1, hc2, hc3⟩
    clear hE hLs hc1 hc2 hc3 hro hT hR q2 q8
    go_enter Tryd.func13, Tryd.ntmps13
    go_wp2_with fail
    refine HRO.out.mono ?_
    rintro e w1 ⟨⟨d, p, l, hj, rfl⟩, hb⟩
    have HJ : Hid (Job N (fun _ => false) L d p 0 l) := hj
    have x8 := Box4.new w1 47 (.int .u64 (d : Int)) (.int .u64 (p : Int)) (.int .u64 0) (.int .u64 (l : Int))
    have X8 : Hid (Box4 (w1.alloc (.cells #[.int .u64 (d : Int), .int .u64 (p : Int), .int .u64 0, .int .u64 (l : Int)] 47)) w1.heap.size (.int .u64 (d : Int)) (.int .u64 (p : Int)) (.int .u64 0) (.int .u64 (l : Int)) ∧ Below w.heap.size w (w1.alloc (.cells #[.int .u64 (d : Int), .int .u64 (p : Int), .int .u64 0, .int .u64 (l : Int)] 47))) := ⟨x8, below2 hb (job_below w1 _ _)⟩
    have hlast : w1.heap.size < (w1.alloc (.cells #[.int .u64 (d : Int), .int .u64 (p : Int), .int .u64 0, .int .u64 (l : Int)] 47)).heap.size := X8.out.1.lt
    obtain ⟨A, hA⟩ : ∃ A, A = d ||| p := ⟨_, rfl⟩
    have CA : Hid (∀ W, Calls Tryd.prog 28 #[.agg #[.int .u64 (d : Int), .int .u64 (p : Int), .int .u64 0, .int .u64 (l : Int)]] W (Same15 W (.int .u64 (A : Int)))) := fun W => by rw [hA]; exact all_any d p 0 l hj.hd.lt hj.hp.lt W
    have CH1 : Hid (∀ W, Calls Tryd.prog 29 #[.int .u64 (A : Int), .int .i64 role] W fun e w' => e = .returned (.bool c1) ∧ w' = W) := fun W => by
      have h := roleHas_any A (by rw [hA]; exact (hj.hd.or hj.hp).lt) role W
      rw [hA, Rs.all_test hj.n8 hj.hd hj.hp] at h
      have e : (decide (0 ≤ role) && decide (role.toNat < N + 2)) = c1 := by
        rw [← HCS.out.1]
        by_cases h0 : 0 ≤ role
        · rw [decide_eq_true h0, Bool.true_and, Bool.true_and]
          exact decide_eq_decide.2 (by omega)
        · rw [decide_eq_false h0]; rfl
      rw [e] at h
      rw [hA]; exact h
    have CH2 : Hid (c1 = true → ∀ W, Calls Tryd.prog 29 #[.int .u64 (l : Int), .int .i64 role] W fun e w' => e = .returned (.bool c2) ∧ w' = W) := fun hc W => by
      have h := roleHas_any l hj.hl.lt role W
      have h0 : 0 ≤ role := by
        have h1 := HCS.out.1
        rw [hc] at h1
        simp only [Bool.and_eq_true, decide_eq_true_eq] at h1
        exact h1.1
      rw [decide_eq_true h0, Bool.true_and, hj.lost_iff role h0, HCS.out.2.1] at h
      exact h
    have CB : Hid (∀ W, Calls Tryd.prog 19 #[.agg #[.int .u64 (d : Int), .int .u64 (p : Int), .int .u64 0, .int .u64 (l : Int)]] W (Same15 W (.bool c3))) := fun W => by
      have h := beyond_any d p 0 l hj.hl.lt W
      rw [hj.cnt, HCS.out.2.2] at h
      exact h
    obtain ⟨z, hz⟩ : ∃ z, z = Rs.diff (d ||| p) l := ⟨_, rfl⟩
    have CL : Hid (∀ W, Calls Tryd.prog 30 #[.agg #[.int .u64 (d : Int), .int .u64 (p : Int), .int .u64 0, .int .u64 (l : Int)]] W (Same15 W (.int .u64 (z : Int)))) := fun W => by rw [hz]; exact left_any d p 0 l hj.hd.lt hj.hp.lt hj.hl.lt W
    have CI : Hid (∀ W, Below w.heap.size w W → Calls Tryd.prog 21 #[.int .u64 (z : Int)] W fun e w' => ∃ v, e = .returned v ∧ Row15 W (Pl.leftT L (N + 2)) v w') := fun W hW => by
      have h := list_any z (by rw [hz]; exact hj.left_is.lt) W (HT.out.kept hW)
      rw [hz, hj.left_reads] at h
      rw [hz]; exact h
    clear hj x8 hb hA hz HRO
    obtain ⟨k0, k1, k2, k3, _, _, _, _⟩ := X8.out.1
    have tk1 : True := trivial
    cases c1 with
    | false =>
      go_wp2_with (first | (go_at_call 28; refine (CA.out _).mono ?_; rintro e w2 ⟨rfl, hb2⟩; have hlast2 : w1.heap.size < w2.heap.size := Nat.lt_of_lt_of_le hlast hb2.size; obtain ⟨x0, x1, x2, x3, _, _, _, _⟩ := X8.out.1.kept hb2; have X2 : Hid (Box4 w2 w1.heap.size (.int .u64 (d : Int)) (.int .u64 (p : Int)) (.int .u64 0) (.int .u64 (l : Int)) ∧ Below w.heap.size w w2) := ⟨X8.out.1.kept hb2, below2 X8.out.2 hb2⟩; clear hb2) | (go_at_call 29; have _t := tk1; refine (CH1.out _).mono ?_; rintro e w3 ⟨rfl, rfl⟩; clear _t tk1))
      go_ret2
      exact ⟨⟨_, rfl, none, 0, rfl, RowI.nil _ _ _ _⟩, X2.out.2⟩
    | true =>
      have CH3 : Hid (∀ W, Calls Tryd.prog 29 #[.int .u64 (l : Int), .int .i64 role] W fun e w' => e = .returned (.bool c2) ∧ w' = W) := CH2.out rfl
      clear CH2
      cases c2 with
      | false =>
        go_wp2_with (first | (go_at_call 28; refine (CA.out _).mono ?_; rintro e w2 ⟨rfl, hb2⟩; have hlast2 : w1.heap.size < w2.heap.size := Nat.lt_of_lt_of_le hlast hb2.size; obtain ⟨x0, x1, x2, x3, _, _, _, _⟩ := X8.out.1.kept hb2; have X2 : Hid (Box4 w2 w1.heap.size (.int .u64 (d : Int)) (.int .u64 (p : Int)) (.int .u64 0) (.int .u64 (l : Int)) ∧ Below w.heap.size w w2) := ⟨X8.out.1.kept hb2, below2 X8.out.2 hb2⟩; clear hb2) | (go_at_call 29; have _t := tk1; refine (CH1.out _).mono ?_; rintro e w3 ⟨rfl, rfl⟩; clear _t tk1) | (go_at_call 29; refine (CH3.out _).mono ?_; rintro e w4 ⟨rfl, rfl⟩))
        go_ret2
        exact ⟨⟨_, rfl, Rd15.of_owns (Row15.one (Below.refl _ _) role).1⟩, below2 X2.out.2 (Row15.one (Below.refl _ _) role).2⟩
      | true =>
        cases c3 with
        | true =>
          go_wp2_with (first | (go_at_call 28; refine (CA.out _).mono ?_; rintro e w2 ⟨rfl, hb2⟩; have hlast2 : w1.heap.size < w2.heap.size := Nat.lt_of_lt_of_le hlast hb2.size; obtain ⟨x0, x1, x2, x3, _, _, _, _⟩ := X8.out.1.kept hb2; have X2 : Hid (Box4 w2 w1.heap.size (.int .u64 (d : Int)) (.int .u64 (p : Int)) (.int .u64 0) (.int .u64 (l : Int)) ∧ Below w.heap.size w w2) := ⟨X8.out.1.kept hb2, below2 X8.out.2 hb2⟩; clear hb2) | (go_at_call 29; have _t := tk1; refine (CH1.out _).mono ?_; rintro e w3 ⟨rfl, rfl⟩; clear _t tk1) | (go_at_call 29; refine (CH3.out _).mono ?_; rintro e w4 ⟨rfl, rfl⟩) | (go_at_call 19; refine (CB.out _).mono ?_; rintro e w5 ⟨rfl, hb5⟩; have hlast5 : w1.heap.size < w5.heap.size := Nat.lt_of_lt_of_le hlast2 hb5.size; obtain ⟨q0, q1, q2, q3, _, _, _, _⟩ := X2.out.1.kept hb5; have X5 : Hid (Below w.heap.size w w5) := below2 X2.out.2 hb5; clear hb5))
          go_ret2
          exact ⟨⟨_, rfl, none, 0, rfl, RowI.nil _ _ _ _⟩, X5.out⟩
        | false =>
          go_wp2_with (first | (go_at_call 28; refine (CA.out _).mono ?_; rintro e w2 ⟨rfl, hb2⟩; have hlast2 : w1.heap.size < w2.heap.size := Nat.lt_of_lt_of_le hlast hb2.size; obtain ⟨x0, x1, x2, x3, _, _, _, _⟩ := X8.out.1.kept hb2; have X2 : Hid (Box4 w2 w1.heap.size (.int .u64 (d : Int)) (.int .u64 (p : Int)) (.int .u64 0) (.int .u64 (l : Int)) ∧ Below w.heap.size w w2) := ⟨X8.out.1.kept hb2, below2 X8.out.2 hb2⟩; clear hb2) | (go_at_call 29; have _t := tk1; refine (CH1.out _).mono ?_; rintro e w3 ⟨rfl, rfl⟩; clear _t tk1) | (go_at_call 29; refine (CH3.out _).mono ?_; rintro e w4 ⟨rfl, rfl⟩) | (go_at_call 19; refine (CB.out _).mono ?_; rintro e w5 ⟨rfl, hb5⟩; have hlast5 : w1.heap.size < w5.heap.size := Nat.lt_of_lt_of_le hlast2 hb5.size; obtain ⟨q0, q1, q2, q3, _, _, _, _⟩ := X2.out.1.kept hb5; have X5 : Hid (Below w.heap.size w w5) := below2 X2.out.2 hb5; clear hb5) | (go_at_call 30; refine (CL.out _).mono ?_; rintro e w6 ⟨rfl, hb6⟩; have X6 : Hid (Below w.heap.size w w6) := below2 X5.out hb6; clear hb6) | (go_at_call 21; refine (CI.out _ X6.out).mono ?_; rintro e w7 ⟨v, rfl, hr7⟩))
          go_ret2
          exact ⟨⟨_, rfl, Rd15.of_owns hr7.1⟩, below2 X6.out hr7.2⟩
end Go.Proofs.YtlkbdhejfmljlaaDoor
