/- PlanFull. -/
import Derived.Test.YtlkbdhejfmljlaaDoorPlBool
import Derived.OpenShut
namespace Go.Proofs.YtlkbdhejfmljlaaDoor.planFull
open Go.RowKit
attribute [local go_sem] Oper.semAt_some

set_option maxRecDepth 100000 in
set_option maxHeartbeats 8000000 in
theorem core {w : World} (PS0 : PlanSays w) (A C q N k : Nat) (hA : (A : Int).tmod 7 = (q : Int)) (hqn : (2 : Int) + (q : Int) = (N : Int)) (hn2 : 2 ≤ N) (hn8 : N ≤ 8) (hA8 : A < 256) (hC8 : C < 256) (hCk : (C : Int).tmod ((N : Int) + 1) = (k : Int)) (hk : k < N + 1):
    Calls Tryd.prog 7 #[.int .u8 (A : Nat), .int .u8 (C : Nat)] w fun e w' => e = .returned (.bool true) ∧ Below w.heap.size w w' := by
  have SH : Hid (∀ W, Below w.heap.size w W → Calls Tryd.prog 8 #[] W fun e w' => e = .returned (.bool true) ∧ Below W.heap.size W w') := fun W hW => shown15_any PS0 W hW
  have PS : Hid (PlanSays w) := PS0
  obtain ⟨e1, e2, e3⟩ := Pl.full_says N (by omega) hn2 k hk
  have E1 : Hid (Pl.chooseE (N : Int) N [] = 0) := e1
  have E2 : Hid (Pl.chooseW (N : Int) N (Pl.first k) [] = Pl.wantW N k) := e2
  have E3 : Hid ((Pl.chooseR (N : Int) N (Pl.first k) []).length = Pl.wantR N k) := e3
  obtain ⟨i0, q1, q2, q3, q4⟩ := info_parts (show (Tryd.prog.info? 4).map (fun i => (i.zero, i.size, i.bytes)) = some (some (.bool false), 1, 1) by kernel_rfl)
  have HI0 : Hid (Tryd.prog.info? 4 = some i0 ∧ i0.zero = some (.bool false) ∧ i0.size = 1 ∧ i0.bytes = 1) := ⟨q1, q2, q3, q4⟩
  have A0 : Hid (RowO w (Pl.first k) 0 (.slice (some ⟨w.heap.size, 0, none⟩) 0 0) (w.alloc (.cells #[] 4))) := RowO.made _ _
  clear PS0 e1 e2 e3 q1 q2 q3 q4
  go_enter Tryd.func7, Tryd.ntmps7
  go_wp2_with fail
  go_loopg [7, 8] N (fun gg s7 s8 wr => ∃ t : Nat, t ≤ N ∧ gg = N - t ∧ s8 = .int .i64 (t : Int) ∧ RowO w (Pl.first k) t s7 wr)
  case atStart => exact ⟨0, Nat.zero_le _, rfl, rfl, A0.out⟩
  case round =>
    obtain ⟨t, ht, rfl, rfl, hA⟩ := hrel
    clear A0
    obtain ⟨v, hv⟩ : ∃ v, v = u7 := ⟨u7, rfl⟩
    subst hv
    have HA : Hid (RowO w (Pl.first k) t v wr) := hA
    have hsz := hA.2.size
    by_cases hlt : t < N
    · have hi2 : (t : Int) < (N : Int) := by omega
      obtain ⟨q1, q2, q3, q4⟩ := HI0.out
      by_cases htk : t < k
      · have hb : Hid (Pl.first k t = true) := decide_eq_true htk
        have u1 : decide ((t : Int) < (k : Int)) = true := decide_eq_true (by omega)
        have u2 : decide (t < k) = true := decide_eq_true htk
        clear htk hA
        go_wp2_with (at_builtin; refine wpList_append_own _ rfl _ _ 22 rfl w.heap.size 4 i0 (.bool false) 1 1 Tryd.underlying22 q1 q2 q3 q4 rfl (by decide) v t (bV (Pl.first k) t) rfl (HA.out.1.alloc _) ⟨wr.heap.size, 0, none⟩ 1 1 [.bool true] rfl rfl (cell_one_new _ _ _) (by simp [Value.oneCell']) (by unfold maxLen; omega) (by omega) (by simp; omega) ?_; go_loud (intro v' w1 hown' hgrow _; have R1 := HA.out.grown hb.out hown' hgrow; obtain ⟨g', cap', rfl⟩ := ownsRow_succ hown'))
        go_roundg (N - (t + 1))
        case measure => omega
        case rel => exact ⟨t + 1, by omega, rfl, by go_num, R1⟩
      · have hb : Hid (Pl.first k t = false) := decide_eq_false htk
        have u1 : decide ((t : Int) < (k : Int)) = false := decide_eq_false (by omega)
        have u2 : decide (t < k) = false := decide_eq_false htk
        clear htk hA
        go_wp2_with (at_builtin; refine wpList_append_own _ rfl _ _ 22 rfl w.heap.size 4 i0 (.bool false) 1 1 Tryd.underlying22 q1 q2 q3 q4 rfl (by decide) v t (bV (Pl.first k) t) rfl (HA.out.1.alloc _) ⟨wr.heap.size, 0, none⟩ 1 1 [.bool false] rfl rfl (cell_one_new _ _ _) (by simp [Value.oneCell']) (by unfold maxLen; omega) (by omega) (by simp; omega) ?_; go_loud (intro v' w1 hown' hgrow _; have R1 := HA.out.grown hb.out hown' hgrow; obtain ⟨g', cap', rfl⟩ := ownsRow_succ hown'))
        go_roundg (N - (t + 1))
        case measure => omega
        case rel => exact ⟨t + 1, by omega, rfl, by go_num, R1⟩
    · have hi2 : ¬ (t : Int) < (N : Int) := by omega
      have htN : t = N := by omega
      subst htN
      obtain ⟨ga, gc, rfl⟩ := hA.head
      obtain ⟨hrow, hcap⟩ := hA.rowB
      have hch := PS.out.choose wr hA.2 (t : Int) ga t gc (Pl.first k) ⟨by omega, by omega⟩ (by omega) hcap hrow none 0 [] (Nat.le_refl _) (by decide) (RowI.nil _ _ _ _)
      rw [List.length_nil] at hch
      obtain ⟨rn, hrn⟩ : ∃ rn, Pl.wantR t k = rn := ⟨_, rfl⟩
      obtain ⟨cw, hcw⟩ : ∃ cw, Pl.wantW t k = cw := ⟨_, rfl⟩
      obtain ⟨cp, hcp⟩ : ∃ cp, Pl.chooseP (t : Int) t (Pl.first k) [] = cp := ⟨_, rfl⟩
      obtain ⟨cr, hcr⟩ : ∃ cr, Pl.chooseR (t : Int) t (Pl.first k) [] = cr := ⟨_, rfl⟩
      have HCH : Hid (Calls Tryd.prog 9 #[.int .i64 (t : Int), .slice ga t gc, .slice none 0 0] wr (ChooseQ cw cr cp rn cp.length 0 wr)) := hch.mono fun _ _ h => h.q (E2.out.trans hcw) hcr hcp (by rw [← hcr]; exact E3.out.trans hrn) rfl E1.out
      have BR : Hid (Below w.heap.size w wr) := hA.2
      clear hA HA hrow hcap hch hcp hcr hlt E1 E2 E3 ht
      go_wp2_with fail
      refine HCH.out.mono ?_
      rintro e w2 ⟨⟨ar, kr, aw, kw, rfl, hr, hw⟩, b2⟩
      have x9 := Box15.new w2 26 (.int .i64 cw) (.slice ar rn kr) (.slice aw cp.length kw)
      have B2 : Hid (Below w.heap.size w (w2.alloc (.cells #[.int .i64 cw, .slice ar rn kr, .slice aw cp.length kw] 26))) := below2 (below2 BR.out b2) ((Below.refl _ w2).alloc (Nat.le_refl _) _)
      obtain ⟨k0', k1', _, _, _, _⟩ := x9
      generalize cp.length = lw at B2 k0' k1' ⊢
      clear hr hw b2 HCH BR
      by_cases h0 : k = 0
      · obtain rfl : (0 : Int) = cw := by rw [← hcw]; unfold Pl.wantW; rw [if_pos h0]
        obtain rfl : 0 = rn := by rw [← hrn]; unfold Pl.wantR; rw [if_pos h0]
        have u1 : ((k : Int) == (t : Int)) = false := by rw [beq_eq_false_iff_ne]; omega
        have u2 : ((k : Int) == 0) = true := by rw [h0]; rfl
        have u3 : decide ((t : Int) - (k : Int) < (k : Int) + 2) = false := decide_eq_false (by omega)
        clear hrn hcw
        obtain ⟨M, hM⟩ : ∃ M : Nat, M = min (k + 2) (t - k) := ⟨_, rfl⟩
        have hmin : ∀ (ts : Array TypeId) (ty : TypeId) (W : World), (Builtin.min_ ts ty #[.int .i64 ((k : Int) + 2), .int .i64 ((t : Int) - (k : Int))]).run Tryd.prog W = .ok (.int .i64 (M : Int)) W := by
          intro ts ty W
          have e : (if (t : Int) - (k : Int) < (k : Int) + 2 then (t : Int) - (k : Int) else (k : Int) + 2) = (M : Int) := by split <;> omega
          simp [Builtin.min_, Builtin.min2]
          omega
        clear h0
        clear hM
        go_wp2_with fail
        refine (SH.out _ B2.out).mono ?_
        rintro e w3 ⟨rfl, b3⟩
        have B3 : Hid (Below w.heap.size w w3) := below2 B2.out b3
        clear b3
        go_wp2
        go_ret
        exact ⟨rfl, B3.out⟩
      · by_cases hN : k = t
        · obtain rfl : (1 : Int) = cw := by rw [← hcw]; unfold Pl.wantW; rw [if_neg h0, if_pos hN]
          have hrn' : rn = 0 := by rw [← hrn]; unfold Pl.wantR; rw [if_neg h0]; omega
          have u1 : ((k : Int) == (t : Int)) = true := by rw [hN]; simp
          have u2 : ((k : Int) == 0) = false := by rw [beq_eq_false_iff_ne]; omega
          have u3 : decide ((t : Int) - (k : Int) < (k : Int) + 2) = true := decide_eq_true (by omega)
          clear hrn hcw
          obtain ⟨M, hM⟩ : ∃ M : Nat, M = min (k + 2) (t - k) := ⟨_, rfl⟩
          have hmin : ∀ (ts : Array TypeId) (ty : TypeId) (W : World), (Builtin.min_ ts ty #[.int .i64 ((k : Int) + 2), .int .i64 ((t : Int) - (k : Int))]).run Tryd.prog W = .ok (.int .i64 (M : Int)) W := by
            intro ts ty W
            have e : (if (t : Int) - (k : Int) < (k : Int) + 2 then (t : Int) - (k : Int) else (k : Int) + 2) = (M : Int) := by split <;> omega
            simp [Builtin.min_, Builtin.min2]
            omega
          have u4 : ((rn : Int) == (M : Int)) = true := by rw [beq_iff_eq]; omega
          clear h0 hN hrn'
          clear hM
          go_wp2_with fail
          refine (SH.out _ B2.out).mono ?_
          rintro e w3 ⟨rfl, b3⟩
          have B3 : Hid (Below w.heap.size w w3) := below2 B2.out b3
          clear b3
          go_wp2
          go_ret
          exact ⟨rfl, B3.out⟩
        · have u1 : ((k : Int) == (t : Int)) = false := by rw [beq_eq_false_iff_ne]; omega
          have u2 : ((k : Int) == 0) = false := by rw [beq_eq_false_iff_ne]; omega
          by_cases hb : t - k < k + 2
          · obtain rfl : (3 : Int) = cw := by rw [← hcw]; unfold Pl.wantW; rw [if_neg h0, if_neg hN, if_pos hb]
            have hrn' : rn = min (k + 2) (t - k) := by rw [← hrn]; unfold Pl.wantR; rw [if_neg h0]
            have u3 : decide ((t : Int) - (k : Int) < (k : Int) + 2) = true := decide_eq_true (by omega)
            clear hrn hcw
            obtain ⟨M, hM⟩ : ∃ M : Nat, M = min (k + 2) (t - k) := ⟨_, rfl⟩
            have hmin : ∀ (ts : Array TypeId) (ty : TypeId) (W : World), (Builtin.min_ ts ty #[.int .i64 ((k : Int) + 2), .int .i64 ((t : Int) - (k : Int))]).run Tryd.prog W = .ok (.int .i64 (M : Int)) W := by
              intro ts ty W
              have e : (if (t : Int) - (k : Int) < (k : Int) + 2 then (t : Int) - (k : Int) else (k : Int) + 2) = (M : Int) := by split <;> omega
              simp [Builtin.min_, Builtin.min2]
              omega
            have u4 : ((rn : Int) == (M : Int)) = true := by rw [beq_iff_eq]; omega
            clear h0 hN hrn'
            clear hM
            go_wp2_with fail
            refine (SH.out _ B2.out).mono ?_
            rintro e w3 ⟨rfl, b3⟩
            have B3 : Hid (Below w.heap.size w w3) := below2 B2.out b3
            clear b3
            go_wp2
            go_ret
            exact ⟨rfl, B3.out⟩
          · obtain rfl : (2 : Int) = cw := by rw [← hcw]; unfold Pl.wantW; rw [if_neg h0, if_neg hN, if_neg hb]
            have hrn' : rn = min (k + 2) (t - k) := by rw [← hrn]; unfold Pl.wantR; rw [if_neg h0]
            have u3 : decide ((t : Int) - (k : Int) < (k : Int) + 2) = false := decide_eq_false (by omega)
            clear hrn hcw
            obtain ⟨M, hM⟩ : ∃ M : Nat, M = min (k + 2) (t - k) := ⟨_, rfl⟩
            have hmin : ∀ (ts : Array TypeId) (ty : TypeId) (W : World), (Builtin.min_ ts ty #[.int .i64 ((k : Int) + 2), .int .i64 ((t : Int) - (k : Int))]).run Tryd.prog W = .ok (.int .i64 (M : Int)) W := by
              intro ts ty W
              have e : (if (t : Int) - (k : Int) < (k : Int) + 2 then (t : Int) - (k : Int) else (k : Int) + 2) = (M : Int) := by split <;> omega
              simp [Builtin.min_, Builtin.min2]
              omega
            have u4 : ((rn : Int) == (M : Int)) = true := by rw [beq_iff_eq]; omega
            clear h0 hN hrn'
            clear hM
            go_wp2_with fail
            refine (SH.out _ B2.out).mono ?_
            rintro e w3 ⟨rfl, b3⟩
            have B3 : Hid (Below w.heap.size w w3) := below2 B2.out b3
            clear b3
            go_wp2
            go_ret
            exact ⟨rfl, B3.out⟩

theorem walk_of (w : World) (PS : PlanSays w) (a0 : Int) (w0 : (Lit.int .u8 a0).wf = true) (a1 : Int) (w1 : (Lit.int .u8 a1).wf = true) :
    Calls Tryd.prog 7 #[.int .u8 a0, .int .u8 a1] w fun e w' => e = .returned (.bool true) ∧ Below w.heap.size w w' := by
  have h0 := bounds_u8 w0
  have h1 := bounds_u8 w1
  obtain ⟨A, rfl⟩ : ∃ A : Nat, a0 = (A : Int) := ⟨a0.toNat, by omega⟩
  obtain ⟨C, rfl⟩ : ∃ C : Nat, a1 = (C : Int) := ⟨a1.toNat, by omega⟩
  have tm : ∀ x y : Nat, (x : Int).tmod ((2 + A % 7 : Nat) + (y : Int)) = ((x % (2 + A % 7 + y) : Nat) : Int) := fun x y => by
    rw [Int.tmod_eq_emod_of_nonneg (by omega), ← Int.natCast_add, ← Int.natCast_emod]
  exact core PS A C (A % 7) (2 + A % 7) (C % (2 + A % 7 + 1)) (by rw [Int.tmod_eq_emod_of_nonneg (by omega)]; omega) (by omega) (by omega) (by omega) (by omega) (by omega) (tm C 1) (Nat.mod_lt _ (by omega))
end Go.Proofs.YtlkbdhejfmljlaaDoor.planFull
