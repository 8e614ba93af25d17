/- The document's own plans: the walk of what the way 3 reads. -/
import Derived.Test.YtlkbdhejfmljlaaDoorRef15Rk
namespace Go.Proofs.YtlkbdhejfmljlaaDoor
open Go.RowKit
attribute [local go_sem] Oper.semAt_some

set_option maxRecDepth 100000 in
set_option maxHeartbeats 16000000 in
theorem rreads15_3 (w : World) (N : Nat) (h2 : 2 ≤ N) (h8 : N ≤ 8) (a0 : Option Addr) (k0 : Nat) (B : Nat → Bool) (hB : RowB w a0 N B) (a : Option Addr) (cap : Nat) (L : List Int) (hL : L.length ≤ 1000000) (hR : RowI .i64 w a L.length (fun j => L.getD j 0)) :
    Calls Tryd.prog 24 #[.int .i64 (N : Int), .slice a0 N k0, .slice a L.length cap, .int .i64 3] w (ReadsAns w N B L 3) := by
  have HH : Hid (∀ W x, Below w.heap.size w W → Calls Tryd.prog 23 #[.slice a L.length cap, .int .i64 x] W fun r w' => r = .returned (.bool (Pl.hasB L x)) ∧ w' = W) := fun W x hW => rhas15_any W a cap L hL (hR.below hW) x
  have HBR : Hid (∀ W, Below w.heap.size w W → RowB W a0 N B) := fun W hW => hB.below hW
  have kb0 : Below w.heap.size w (w.alloc (.cells #[] 3)) := (Below.refl _ w).alloc (Nat.le_refl _) _
  have KB0 : Hid (Below w.heap.size w (w.alloc (.cells #[] 3))) := kb0
  have A0 : Hid (At15 w N B L 3 0 (.slice (some ⟨w.heap.size, 0, none⟩) 0 0) (w.alloc (.cells #[] 3))) := ⟨row_none15 w _ (Nat.le_refl _), kb0⟩
  obtain ⟨i0, q1, q2, q3, q4⟩ := info_parts (show (Tryd.prog.info? 3).map (fun i => (i.zero, i.size, i.bytes)) = some (some (.int .i64 0), 1, 8) by kernel_rfl)
  have HI0 : Hid (Tryd.prog.info? 3 = some i0 ∧ i0.zero = some (.int .i64 0) ∧ i0.size = 1 ∧ i0.bytes = 8) := ⟨q1, q2, q3, q4⟩
  obtain ⟨m, hm⟩ : ∃ m, m = L.length := ⟨_, rfl⟩
  rw [← hm] at HH ⊢
  obtain ⟨g1, hg1⟩ : ∃ g1, Pl.hasB L (N : Int) = g1 := ⟨_, rfl⟩
  obtain ⟨g2, hg2⟩ : ∃ g2, Pl.hasB L ((N : Int) + 1) = g2 := ⟨_, rfl⟩
  obtain ⟨bt, hbt⟩ : ∃ bt, bt = (g1 && g2) := ⟨_, rfl⟩
  have HBT : Hid (Pl.both N L = bt) := by show _ = _; unfold Pl.both Pl.gone; rw [hbt, ← hg1, ← hg2]; rfl
  have hw1 : IntKind.i64.wrap ((N : Int) + 1) = (N : Int) + 1 := by rw [IntKind.wrap_i64]; omega
  clear hB hR kb0 hL hm q1 q2 q3 q4
  go_enter Tryd.func24, Tryd.ntmps24
  cases g1 with
  | false =>
    clear hbt
    go_wp2_with fail
    refine (HH.out _ _ KB0.out).mono ?_
    rw [hg1]
    rintro e w2 ⟨rfl, rfl⟩
    go_wp2_with fail
    go_loopg [10, 11, 13] (N + 2) (fun g s10 s11 s13 wr => ∃ t : Nat, t ≤ N + 2 ∧ g = N + 2 - t ∧ s13 = .int .i64 (t : Int) ∧ s11 = .bool (Pl.isT N B L 3 t) ∧ At15 w N B L 3 t s10 wr)
    case atStart => exact ⟨0, Nat.zero_le _, rfl, rfl, rfl, A0.out⟩
    case round =>
      obtain ⟨t, ht, rfl, rfl, rfl, hA⟩ := hrel
      clear A0 KB0 hg1 hg2
      obtain ⟨v, hv⟩ : ∃ v, v = u10 := ⟨u10, rfl⟩
      subst hv
      have HA : Hid (At15 w N B L 3 t v wr) := hA
      have hsz := hA.2.size
      have IS := Pl.isT_succ (N := N) (B := B) (L := L) 3 t
      obtain ⟨s, hs⟩ : ∃ s, s = Pl.isT N B L 3 t := ⟨_, rfl⟩
      have HIS : Hid (s = Pl.isT N B L 3 t) := hs
      rw [← hs] at IS ⊢
      obtain ⟨g, hg⟩ : ∃ g, Pl.hasB L (t : Int) = g := ⟨_, rfl⟩
      have HG : Hid (Pl.gone L t = g) := hg
      have HS1 : Hid (Pl.isT N B L 3 (t + 1) = (s && Pl.stR N B L 3 t)) := IS
      clear hs IS
      by_cases hlt : t < N + 2
      · have hi2 : (t : Int) < (N : Int) + 2 := by omega
        have hcall := HH.out wr (t : Int) hA.2
        rw [hg] at hcall
        have HCALL : Hid (Calls Tryd.prog 23 #[.slice a m cap, .int .i64 (t : Int)] wr fun r w' => r = .returned (.bool g) ∧ w' = wr) := hcall
        clear hcall hg
        by_cases htn : t < N
        · obtain ⟨bb, bo, rfl, hcb⟩ := HBR.out wr hA.2 t htn
          obtain ⟨bi, hbi⟩ : ∃ bi, bi = B t := ⟨_, rfl⟩
          rw [← hbi] at hcb
          have HBI : Hid (B t = bi) := hbi.symm
          have hd : (t : Int) < (N : Int) := by omega
          clear hbi hA
          cases s with
          | false =>
            cases bi with
            | false =>
              cases g with
              | false =>
                have HZ3 : Hid ((decide (t < N) && !B t) = true) := by show _ = _; rw [decide_eq_true htn, HBI.out]; rfl
                have HDT : Hid (decide (t < N) = true) := decide_eq_true htn
                have HIN : Hid (Pl.inR N B L 3 t = true) := by show _ = _; exact (Pl.inR_3 HZ3.out)
                have hst : Pl.stR N B L 3 t = true := (by rw [Pl.stR_3 HDT.out rfl HG.out, HBI.out]; first | rfl | simp)
                rw [hst] at HS1
                have HS2 : Hid (Pl.isT N B L 3 (t + 1) = (false && true)) := HS1.out
                clear hst HS1
                obtain ⟨ln, hln⟩ : ∃ ln, ln = (Pl.readsT N B L 3 t).length := ⟨_, rfl⟩
                have hle := Pl.readsT_len (N := N) (B := B) (L := L) 3 t
                rw [← hln] at hle
                have ow := HA.out.1
                rw [← hln] at ow
                have OW : Hid (wr.ownsRow w.heap.size 3 1 v ln (iV15 (Pl.readsT N B L 3 t))) := ow
                have HLN : Hid (ln = (Pl.readsT N B L 3 t).length) := hln
                obtain ⟨q1, q2, q3, q4⟩ := HI0.out
                clear ow hln
                go_wp2_with (first | (go_at_call 23; refine HCALL.out.mono ?_; rintro e w2 ⟨rfl, rfl⟩) | (at_builtin; refine wpList_append_own _ rfl _ _ 23 rfl w.heap.size 3 i0 (.int .i64 0) 1 8 Tryd.underlying23 q1 q2 q3 q4 rfl (by decide) v ln (iV15 (Pl.readsT N B L 3 t)) rfl (OW.out.alloc _) ⟨w2.heap.size, 0, none⟩ 1 1 [.int .i64 (t : Int)] rfl rfl (cell_one_new _ _ _) (by simp [Value.oneCell']) (by unfold maxLen; omega) (by omega) (by simp; omega) ?_; go_loud (intro v' w1 hown' hgrow _; obtain ⟨g', cap', rfl⟩ := ownsRow_succ hown')))
                go_roundg (N + 2 - (t + 1))
                case measure => omega
                case rel => exact ⟨t + 1, by omega, rfl, by go_num, by rw [HS2.out]; first | done | rfl, HA.out.grown HIN.out HLN.out hown' hgrow⟩
              | true =>
                have HZ3 : Hid ((decide (t < N) && !B t) = true) := by show _ = _; rw [decide_eq_true htn, HBI.out]; rfl
                have HDT : Hid (decide (t < N) = true) := decide_eq_true htn
                have HIN : Hid (Pl.inR N B L 3 t = true) := by show _ = _; exact (Pl.inR_3 HZ3.out)
                have hst : Pl.stR N B L 3 t = false := (by rw [Pl.stR_3 HDT.out rfl HG.out, HBI.out]; first | rfl | simp)
                rw [hst] at HS1
                have HS2 : Hid (Pl.isT N B L 3 (t + 1) = (false && false)) := HS1.out
                clear hst HS1
                obtain ⟨ln, hln⟩ : ∃ ln, ln = (Pl.readsT N B L 3 t).length := ⟨_, rfl⟩
                have hle := Pl.readsT_len (N := N) (B := B) (L := L) 3 t
                rw [← hln] at hle
                have ow := HA.out.1
                rw [← hln] at ow
                have OW : Hid (wr.ownsRow w.heap.size 3 1 v ln (iV15 (Pl.readsT N B L 3 t))) := ow
                have HLN : Hid (ln = (Pl.readsT N B L 3 t).length) := hln
                obtain ⟨q1, q2, q3, q4⟩ := HI0.out
                clear ow hln
                go_wp2_with (first | (go_at_call 23; refine HCALL.out.mono ?_; rintro e w2 ⟨rfl, rfl⟩) | (at_builtin; refine wpList_append_own _ rfl _ _ 23 rfl w.heap.size 3 i0 (.int .i64 0) 1 8 Tryd.underlying23 q1 q2 q3 q4 rfl (by decide) v ln (iV15 (Pl.readsT N B L 3 t)) rfl (OW.out.alloc _) ⟨w2.heap.size, 0, none⟩ 1 1 [.int .i64 (t : Int)] rfl rfl (cell_one_new _ _ _) (by simp [Value.oneCell']) (by unfold maxLen; omega) (by omega) (by simp; omega) ?_; go_loud (intro v' w1 hown' hgrow _; obtain ⟨g', cap', rfl⟩ := ownsRow_succ hown')))
                go_roundg (N + 2 - (t + 1))
                case measure => omega
                case rel => exact ⟨t + 1, by omega, rfl, by go_num, by rw [HS2.out]; first | done | rfl, HA.out.grown HIN.out HLN.out hown' hgrow⟩
            | true =>
              cases g with
              | false =>
                have HZ3 : Hid ((decide (t < N) && !B t) = false) := by show _ = _; rw [decide_eq_true htn, HBI.out]; rfl
                have HDT : Hid (decide (t < N) = true) := decide_eq_true htn
                have HIN : Hid (Pl.inR N B L 3 t = false) := by show _ = _; exact (Pl.inR_3 HZ3.out)
                have hst : Pl.stR N B L 3 t = true := (by rw [Pl.stR_3 HDT.out rfl HG.out, HBI.out]; first | rfl | simp)
                rw [hst] at HS1
                have HS2 : Hid (Pl.isT N B L 3 (t + 1) = (false && true)) := HS1.out
                clear hst HS1
                go_wp2_with (go_at_call 23; refine HCALL.out.mono ?_; rintro e w2 ⟨rfl, rfl⟩)
                go_roundg (N + 2 - (t + 1))
                case measure => omega
                case rel => exact ⟨t + 1, by omega, rfl, by go_num, by rw [HS2.out]; first | done | rfl, HA.out.kept HIN.out⟩
              | true =>
                have HZ3 : Hid ((decide (t < N) && !B t) = false) := by show _ = _; rw [decide_eq_true htn, HBI.out]; rfl
                have HDT : Hid (decide (t < N) = true) := decide_eq_true htn
                have HIN : Hid (Pl.inR N B L 3 t = false) := by show _ = _; exact (Pl.inR_3 HZ3.out)
                have hst : Pl.stR N B L 3 t = true := (by rw [Pl.stR_3 HDT.out rfl HG.out, HBI.out]; first | rfl | simp)
                rw [hst] at HS1
                have HS2 : Hid (Pl.isT N B L 3 (t + 1) = (false && true)) := HS1.out
                clear hst HS1
                go_wp2_with (go_at_call 23; refine HCALL.out.mono ?_; rintro e w2 ⟨rfl, rfl⟩)
                go_roundg (N + 2 - (t + 1))
                case measure => omega
                case rel => exact ⟨t + 1, by omega, rfl, by go_num, by rw [HS2.out]; first | done | rfl, HA.out.kept HIN.out⟩
          | true =>
            cases bi with
            | false =>
              cases g with
              | false =>
                have HZ3 : Hid ((decide (t < N) && !B t) = true) := by show _ = _; rw [decide_eq_true htn, HBI.out]; rfl
                have HDT : Hid (decide (t < N) = true) := decide_eq_true htn
                have HIN : Hid (Pl.inR N B L 3 t = true) := by show _ = _; exact (Pl.inR_3 HZ3.out)
                have hst : Pl.stR N B L 3 t = true := (by rw [Pl.stR_3 HDT.out rfl HG.out, HBI.out]; first | rfl | simp)
                rw [hst] at HS1
                have HS2 : Hid (Pl.isT N B L 3 (t + 1) = (true && true)) := HS1.out
                clear hst HS1
                obtain ⟨ln, hln⟩ : ∃ ln, ln = (Pl.readsT N B L 3 t).length := ⟨_, rfl⟩
                have hle := Pl.readsT_len (N := N) (B := B) (L := L) 3 t
                rw [← hln] at hle
                have ow := HA.out.1
                rw [← hln] at ow
                have OW : Hid (wr.ownsRow w.heap.size 3 1 v ln (iV15 (Pl.readsT N B L 3 t))) := ow
                have HLN : Hid (ln = (Pl.readsT N B L 3 t).length) := hln
                obtain ⟨q1, q2, q3, q4⟩ := HI0.out
                clear ow hln
                go_wp2_with (first | (go_at_call 23; refine HCALL.out.mono ?_; rintro e w2 ⟨rfl, rfl⟩) | (at_builtin; refine wpList_append_own _ rfl _ _ 23 rfl w.heap.size 3 i0 (.int .i64 0) 1 8 Tryd.underlying23 q1 q2 q3 q4 rfl (by decide) v ln (iV15 (Pl.readsT N B L 3 t)) rfl (OW.out.alloc _) ⟨w2.heap.size, 0, none⟩ 1 1 [.int .i64 (t : Int)] rfl rfl (cell_one_new _ _ _) (by simp [Value.oneCell']) (by unfold maxLen; omega) (by omega) (by simp; omega) ?_; go_loud (intro v' w1 hown' hgrow _; obtain ⟨g', cap', rfl⟩ := ownsRow_succ hown')))
                go_roundg (N + 2 - (t + 1))
                case measure => omega
                case rel => exact ⟨t + 1, by omega, rfl, by go_num, by rw [HS2.out]; first | done | rfl, HA.out.grown HIN.out HLN.out hown' hgrow⟩
              | true =>
                have HZ3 : Hid ((decide (t < N) && !B t) = true) := by show _ = _; rw [decide_eq_true htn, HBI.out]; rfl
                have HDT : Hid (decide (t < N) = true) := decide_eq_true htn
                have HIN : Hid (Pl.inR N B L 3 t = true) := by show _ = _; exact (Pl.inR_3 HZ3.out)
                have hst : Pl.stR N B L 3 t = false := (by rw [Pl.stR_3 HDT.out rfl HG.out, HBI.out]; first | rfl | simp)
                rw [hst] at HS1
                have HS2 : Hid (Pl.isT N B L 3 (t + 1) = (true && false)) := HS1.out
                clear hst HS1
                obtain ⟨ln, hln⟩ : ∃ ln, ln = (Pl.readsT N B L 3 t).length := ⟨_, rfl⟩
                have hle := Pl.readsT_len (N := N) (B := B) (L := L) 3 t
                rw [← hln] at hle
                have ow := HA.out.1
                rw [← hln] at ow
                have OW : Hid (wr.ownsRow w.heap.size 3 1 v ln (iV15 (Pl.readsT N B L 3 t))) := ow
                have HLN : Hid (ln = (Pl.readsT N B L 3 t).length) := hln
                obtain ⟨q1, q2, q3, q4⟩ := HI0.out
                clear ow hln
                go_wp2_with (first | (go_at_call 23; refine HCALL.out.mono ?_; rintro e w2 ⟨rfl, rfl⟩) | (at_builtin; refine wpList_append_own _ rfl _ _ 23 rfl w.heap.size 3 i0 (.int .i64 0) 1 8 Tryd.underlying23 q1 q2 q3 q4 rfl (by decide) v ln (iV15 (Pl.readsT N B L 3 t)) rfl (OW.out.alloc _) ⟨w2.heap.size, 0, none⟩ 1 1 [.int .i64 (t : Int)] rfl rfl (cell_one_new _ _ _) (by simp [Value.oneCell']) (by unfold maxLen; omega) (by omega) (by simp; omega) ?_; go_loud (intro v' w1 hown' hgrow _; obtain ⟨g', cap', rfl⟩ := ownsRow_succ hown')))
                go_roundg (N + 2 - (t + 1))
                case measure => omega
                case rel => exact ⟨t + 1, by omega, rfl, by go_num, by rw [HS2.out]; first | done | rfl, HA.out.grown HIN.out HLN.out hown' hgrow⟩
            | true =>
              cases g with
              | false =>
                have HZ3 : Hid ((decide (t < N) && !B t) = false) := by show _ = _; rw [decide_eq_true htn, HBI.out]; rfl
                have HDT : Hid (decide (t < N) = true) := decide_eq_true htn
                have HIN : Hid (Pl.inR N B L 3 t = false) := by show _ = _; exact (Pl.inR_3 HZ3.out)
                have hst : Pl.stR N B L 3 t = true := (by rw [Pl.stR_3 HDT.out rfl HG.out, HBI.out]; first | rfl | simp)
                rw [hst] at HS1
                have HS2 : Hid (Pl.isT N B L 3 (t + 1) = (true && true)) := HS1.out
                clear hst HS1
                go_wp2_with (go_at_call 23; refine HCALL.out.mono ?_; rintro e w2 ⟨rfl, rfl⟩)
                go_roundg (N + 2 - (t + 1))
                case measure => omega
                case rel => exact ⟨t + 1, by omega, rfl, by go_num, by rw [HS2.out]; first | done | rfl, HA.out.kept HIN.out⟩
              | true =>
                have HZ3 : Hid ((decide (t < N) && !B t) = false) := by show _ = _; rw [decide_eq_true htn, HBI.out]; rfl
                have HDT : Hid (decide (t < N) = true) := decide_eq_true htn
                have HIN : Hid (Pl.inR N B L 3 t = false) := by show _ = _; exact (Pl.inR_3 HZ3.out)
                have hst : Pl.stR N B L 3 t = true := (by rw [Pl.stR_3 HDT.out rfl HG.out, HBI.out]; first | rfl | simp)
                rw [hst] at HS1
                have HS2 : Hid (Pl.isT N B L 3 (t + 1) = (true && true)) := HS1.out
                clear hst HS1
                go_wp2_with (go_at_call 23; refine HCALL.out.mono ?_; rintro e w2 ⟨rfl, rfl⟩)
                go_roundg (N + 2 - (t + 1))
                case measure => omega
                case rel => exact ⟨t + 1, by omega, rfl, by go_num, by rw [HS2.out]; first | done | rfl, HA.out.kept HIN.out⟩
        · have hd : ¬ (t : Int) < (N : Int) := by omega
          clear hA
          cases s with
          | false =>
            cases g with
            | false =>
              have HZ3 : Hid ((decide (t < N) && !B t) = false) := by show _ = _; rw [decide_eq_false htn]; rfl
              have HDT : Hid (decide (t < N) = false) := decide_eq_false htn
              have HIN : Hid (Pl.inR N B L 3 t = false) := by show _ = _; exact (Pl.inR_3 HZ3.out)
              have hst : Pl.stR N B L 3 t = true := (by rw [Pl.stR_3 HDT.out rfl HG.out]; first | rfl | simp)
              rw [hst] at HS1
              have HS2 : Hid (Pl.isT N B L 3 (t + 1) = (false && true)) := HS1.out
              clear hst HS1
              go_wp2_with (go_at_call 23; refine HCALL.out.mono ?_; rintro e w2 ⟨rfl, rfl⟩)
              go_roundg (N + 2 - (t + 1))
              case measure => omega
              case rel => exact ⟨t + 1, by omega, rfl, by go_num, by rw [HS2.out]; first | done | rfl, HA.out.kept HIN.out⟩
            | true =>
              have HZ3 : Hid ((decide (t < N) && !B t) = false) := by show _ = _; rw [decide_eq_false htn]; rfl
              have HDT : Hid (decide (t < N) = false) := decide_eq_false htn
              have HIN : Hid (Pl.inR N B L 3 t = false) := by show _ = _; exact (Pl.inR_3 HZ3.out)
              have hst : Pl.stR N B L 3 t = true := (by rw [Pl.stR_3 HDT.out rfl HG.out]; first | rfl | simp)
              rw [hst] at HS1
              have HS2 : Hid (Pl.isT N B L 3 (t + 1) = (false && true)) := HS1.out
              clear hst HS1
              go_wp2_with (go_at_call 23; refine HCALL.out.mono ?_; rintro e w2 ⟨rfl, rfl⟩)
              go_roundg (N + 2 - (t + 1))
              case measure => omega
              case rel => exact ⟨t + 1, by omega, rfl, by go_num, by rw [HS2.out]; first | done | rfl, HA.out.kept HIN.out⟩
          | true =>
            cases g with
            | false =>
              have HZ3 : Hid ((decide (t < N) && !B t) = false) := by show _ = _; rw [decide_eq_false htn]; rfl
              have HDT : Hid (decide (t < N) = false) := decide_eq_false htn
              have HIN : Hid (Pl.inR N B L 3 t = false) := by show _ = _; exact (Pl.inR_3 HZ3.out)
              have hst : Pl.stR N B L 3 t = true := (by rw [Pl.stR_3 HDT.out rfl HG.out]; first | rfl | simp)
              rw [hst] at HS1
              have HS2 : Hid (Pl.isT N B L 3 (t + 1) = (true && true)) := HS1.out
              clear hst HS1
              go_wp2_with (go_at_call 23; refine HCALL.out.mono ?_; rintro e w2 ⟨rfl, rfl⟩)
              go_roundg (N + 2 - (t + 1))
              case measure => omega
              case rel => exact ⟨t + 1, by omega, rfl, by go_num, by rw [HS2.out]; first | done | rfl, HA.out.kept HIN.out⟩
            | true =>
              have HZ3 : Hid ((decide (t < N) && !B t) = false) := by show _ = _; rw [decide_eq_false htn]; rfl
              have HDT : Hid (decide (t < N) = false) := decide_eq_false htn
              have HIN : Hid (Pl.inR N B L 3 t = false) := by show _ = _; exact (Pl.inR_3 HZ3.out)
              have hst : Pl.stR N B L 3 t = true := (by rw [Pl.stR_3 HDT.out rfl HG.out]; first | rfl | simp)
              rw [hst] at HS1
              have HS2 : Hid (Pl.isT N B L 3 (t + 1) = (true && true)) := HS1.out
              clear hst HS1
              go_wp2_with (go_at_call 23; refine HCALL.out.mono ?_; rintro e w2 ⟨rfl, rfl⟩)
              go_roundg (N + 2 - (t + 1))
              case measure => omega
              case rel => exact ⟨t + 1, by omega, rfl, by go_num, by rw [HS2.out]; first | done | rfl, HA.out.kept HIN.out⟩
      · have hi2 : ¬ (t : Int) < (N : Int) + 2 := by omega
        have htN : t = N + 2 := by omega
        have HE : Hid (At15 w N B L 3 (N + 2) v wr) := by rw [htN] at HA; exact HA
        have HSE : Hid (Pl.isT N B L 3 (N + 2) = s) := by show _ = _; rw [HIS.out, htN]
        have hblo := hA.2
        have HBLO : Hid (Below w.heap.size w wr) := hblo
        clear hA hblo htN hg
        cases s with
        | true =>
          have HC : Hid (Pl.canB N B L 3 = true) := by show _ = _; unfold Pl.canB; rw [HSE.out]; rfl
          go_wp2
          go_ret2
          exact reads_end HE.out HC.out
        | false =>
          have HC : Hid (Pl.canB N B L 3 = false) := by show _ = _; unfold Pl.canB; rw [HSE.out]; rfl
          go_wp2
          go_ret2
          exact reads_not HBLO.out HC.out
  | true =>
    clear hbt
    go_wp2_with fail
    refine (HH.out _ _ KB0.out).mono ?_
    rw [hg1]
    rintro e w2 ⟨rfl, rfl⟩
    go_wp2_with fail
    refine (HH.out _ _ KB0.out).mono ?_
    rw [hg2]
    rintro e w2 ⟨rfl, rfl⟩
    go_wp2_with fail
    go_loopg [10, 11, 13] (N + 2) (fun g s10 s11 s13 wr => ∃ t : Nat, t ≤ N + 2 ∧ g = N + 2 - t ∧ s13 = .int .i64 (t : Int) ∧ s11 = .bool (Pl.isT N B L 3 t) ∧ At15 w N B L 3 t s10 wr)
    case atStart => exact ⟨0, Nat.zero_le _, rfl, rfl, rfl, A0.out⟩
    case round =>
      obtain ⟨t, ht, rfl, rfl, rfl, hA⟩ := hrel
      clear A0 KB0 hg1 hg2
      obtain ⟨v, hv⟩ : ∃ v, v = u10 := ⟨u10, rfl⟩
      subst hv
      have HA : Hid (At15 w N B L 3 t v wr) := hA
      have hsz := hA.2.size
      have IS := Pl.isT_succ (N := N) (B := B) (L := L) 3 t
      obtain ⟨s, hs⟩ : ∃ s, s = Pl.isT N B L 3 t := ⟨_, rfl⟩
      have HIS : Hid (s = Pl.isT N B L 3 t) := hs
      rw [← hs] at IS ⊢
      obtain ⟨g, hg⟩ : ∃ g, Pl.hasB L (t : Int) = g := ⟨_, rfl⟩
      have HG : Hid (Pl.gone L t = g) := hg
      have HS1 : Hid (Pl.isT N B L 3 (t + 1) = (s && Pl.stR N B L 3 t)) := IS
      clear hs IS
      by_cases hlt : t < N + 2
      · have hi2 : (t : Int) < (N : Int) + 2 := by omega
        have hcall := HH.out wr (t : Int) hA.2
        rw [hg] at hcall
        have HCALL : Hid (Calls Tryd.prog 23 #[.slice a m cap, .int .i64 (t : Int)] wr fun r w' => r = .returned (.bool g) ∧ w' = wr) := hcall
        clear hcall hg
        by_cases htn : t < N
        · obtain ⟨bb, bo, rfl, hcb⟩ := HBR.out wr hA.2 t htn
          obtain ⟨bi, hbi⟩ : ∃ bi, bi = B t := ⟨_, rfl⟩
          rw [← hbi] at hcb
          have HBI : Hid (B t = bi) := hbi.symm
          have hd : (t : Int) < (N : Int) := by omega
          clear hbi hA
          cases s with
          | false =>
            cases bi with
            | false =>
              cases g with
              | false =>
                have HZ3 : Hid ((decide (t < N) && !B t) = true) := by show _ = _; rw [decide_eq_true htn, HBI.out]; rfl
                have HDT : Hid (decide (t < N) = true) := decide_eq_true htn
                have HIN : Hid (Pl.inR N B L 3 t = true) := by show _ = _; exact (Pl.inR_3 HZ3.out)
                have hst : Pl.stR N B L 3 t = true := (by rw [Pl.stR_3 HDT.out rfl HG.out, HBI.out]; first | rfl | simp)
                rw [hst] at HS1
                have HS2 : Hid (Pl.isT N B L 3 (t + 1) = (false && true)) := HS1.out
                clear hst HS1
                obtain ⟨ln, hln⟩ : ∃ ln, ln = (Pl.readsT N B L 3 t).length := ⟨_, rfl⟩
                have hle := Pl.readsT_len (N := N) (B := B) (L := L) 3 t
                rw [← hln] at hle
                have ow := HA.out.1
                rw [← hln] at ow
                have OW : Hid (wr.ownsRow w.heap.size 3 1 v ln (iV15 (Pl.readsT N B L 3 t))) := ow
                have HLN : Hid (ln = (Pl.readsT N B L 3 t).length) := hln
                obtain ⟨q1, q2, q3, q4⟩ := HI0.out
                clear ow hln
                go_wp2_with (first | (go_at_call 23; refine HCALL.out.mono ?_; rintro e w2 ⟨rfl, rfl⟩) | (at_builtin; refine wpList_append_own _ rfl _ _ 23 rfl w.heap.size 3 i0 (.int .i64 0) 1 8 Tryd.underlying23 q1 q2 q3 q4 rfl (by decide) v ln (iV15 (Pl.readsT N B L 3 t)) rfl (OW.out.alloc _) ⟨w2.heap.size, 0, none⟩ 1 1 [.int .i64 (t : Int)] rfl rfl (cell_one_new _ _ _) (by simp [Value.oneCell']) (by unfold maxLen; omega) (by omega) (by simp; omega) ?_; go_loud (intro v' w1 hown' hgrow _; obtain ⟨g', cap', rfl⟩ := ownsRow_succ hown')))
                go_roundg (N + 2 - (t + 1))
                case measure => omega
                case rel => exact ⟨t + 1, by omega, rfl, by go_num, by rw [HS2.out]; first | done | rfl, HA.out.grown HIN.out HLN.out hown' hgrow⟩
              | true =>
                have HZ3 : Hid ((decide (t < N) && !B t) = true) := by show _ = _; rw [decide_eq_true htn, HBI.out]; rfl
                have HDT : Hid (decide (t < N) = true) := decide_eq_true htn
                have HIN : Hid (Pl.inR N B L 3 t = true) := by show _ = _; exact (Pl.inR_3 HZ3.out)
                have hst : Pl.stR N B L 3 t = false := (by rw [Pl.stR_3 HDT.out rfl HG.out, HBI.out]; first | rfl | simp)
                rw [hst] at HS1
                have HS2 : Hid (Pl.isT N B L 3 (t + 1) = (false && false)) := HS1.out
                clear hst HS1
                obtain ⟨ln, hln⟩ : ∃ ln, ln = (Pl.readsT N B L 3 t).length := ⟨_, rfl⟩
                have hle := Pl.readsT_len (N := N) (B := B) (L := L) 3 t
                rw [← hln] at hle
                have ow := HA.out.1
                rw [← hln] at ow
                have OW : Hid (wr.ownsRow w.heap.size 3 1 v ln (iV15 (Pl.readsT N B L 3 t))) := ow
                have HLN : Hid (ln = (Pl.readsT N B L 3 t).length) := hln
                obtain ⟨q1, q2, q3, q4⟩ := HI0.out
                clear ow hln
                go_wp2_with (first | (go_at_call 23; refine HCALL.out.mono ?_; rintro e w2 ⟨rfl, rfl⟩) | (at_builtin; refine wpList_append_own _ rfl _ _ 23 rfl w.heap.size 3 i0 (.int .i64 0) 1 8 Tryd.underlying23 q1 q2 q3 q4 rfl (by decide) v ln (iV15 (Pl.readsT N B L 3 t)) rfl (OW.out.alloc _) ⟨w2.heap.size, 0, none⟩ 1 1 [.int .i64 (t : Int)] rfl rfl (cell_one_new _ _ _) (by simp [Value.oneCell']) (by unfold maxLen; omega) (by omega) (by simp; omega) ?_; go_loud (intro v' w1 hown' hgrow _; obtain ⟨g', cap', rfl⟩ := ownsRow_succ hown')))
                go_roundg (N + 2 - (t + 1))
                case measure => omega
                case rel => exact ⟨t + 1, by omega, rfl, by go_num, by rw [HS2.out]; first | done | rfl, HA.out.grown HIN.out HLN.out hown' hgrow⟩
            | true =>
              cases g with
              | false =>
                have HZ3 : Hid ((decide (t < N) && !B t) = false) := by show _ = _; rw [decide_eq_true htn, HBI.out]; rfl
                have HDT : Hid (decide (t < N) = true) := decide_eq_true htn
                have HIN : Hid (Pl.inR N B L 3 t = false) := by show _ = _; exact (Pl.inR_3 HZ3.out)
                have hst : Pl.stR N B L 3 t = true := (by rw [Pl.stR_3 HDT.out rfl HG.out, HBI.out]; first | rfl | simp)
                rw [hst] at HS1
                have HS2 : Hid (Pl.isT N B L 3 (t + 1) = (false && true)) := HS1.out
                clear hst HS1
                go_wp2_with (go_at_call 23; refine HCALL.out.mono ?_; rintro e w2 ⟨rfl, rfl⟩)
                go_roundg (N + 2 - (t + 1))
                case measure => omega
                case rel => exact ⟨t + 1, by omega, rfl, by go_num, by rw [HS2.out]; first | done | rfl, HA.out.kept HIN.out⟩
              | true =>
                have HZ3 : Hid ((decide (t < N) && !B t) = false) := by show _ = _; rw [decide_eq_true htn, HBI.out]; rfl
                have HDT : Hid (decide (t < N) = true) := decide_eq_true htn
                have HIN : Hid (Pl.inR N B L 3 t = false) := by show _ = _; exact (Pl.inR_3 HZ3.out)
                have hst : Pl.stR N B L 3 t = true := (by rw [Pl.stR_3 HDT.out rfl HG.out, HBI.out]; first | rfl | simp)
                rw [hst] at HS1
                have HS2 : Hid (Pl.isT N B L 3 (t + 1) = (false && true)) := HS1.out
                clear hst HS1
                go_wp2_with (go_at_call 23; refine HCALL.out.mono ?_; rintro e w2 ⟨rfl, rfl⟩)
                go_roundg (N + 2 - (t + 1))
                case measure => omega
                case rel => exact ⟨t + 1, by omega, rfl, by go_num, by rw [HS2.out]; first | done | rfl, HA.out.kept HIN.out⟩
          | true =>
            cases bi with
            | false =>
              cases g with
              | false =>
                have HZ3 : Hid ((decide (t < N) && !B t) = true) := by show _ = _; rw [decide_eq_true htn, HBI.out]; rfl
                have HDT : Hid (decide (t < N) = true) := decide_eq_true htn
                have HIN : Hid (Pl.inR N B L 3 t = true) := by show _ = _; exact (Pl.inR_3 HZ3.out)
                have hst : Pl.stR N B L 3 t = true := (by rw [Pl.stR_3 HDT.out rfl HG.out, HBI.out]; first | rfl | simp)
                rw [hst] at HS1
                have HS2 : Hid (Pl.isT N B L 3 (t + 1) = (true && true)) := HS1.out
                clear hst HS1
                obtain ⟨ln, hln⟩ : ∃ ln, ln = (Pl.readsT N B L 3 t).length := ⟨_, rfl⟩
                have hle := Pl.readsT_len (N := N) (B := B) (L := L) 3 t
                rw [← hln] at hle
                have ow := HA.out.1
                rw [← hln] at ow
                have OW : Hid (wr.ownsRow w.heap.size 3 1 v ln (iV15 (Pl.readsT N B L 3 t))) := ow
                have HLN : Hid (ln = (Pl.readsT N B L 3 t).length) := hln
                obtain ⟨q1, q2, q3, q4⟩ := HI0.out
                clear ow hln
                go_wp2_with (first | (go_at_call 23; refine HCALL.out.mono ?_; rintro e w2 ⟨rfl, rfl⟩) | (at_builtin; refine wpList_append_own _ rfl _ _ 23 rfl w.heap.size 3 i0 (.int .i64 0) 1 8 Tryd.underlying23 q1 q2 q3 q4 rfl (by decide) v ln (iV15 (Pl.readsT N B L 3 t)) rfl (OW.out.alloc _) ⟨w2.heap.size, 0, none⟩ 1 1 [.int .i64 (t : Int)] rfl rfl (cell_one_new _ _ _) (by simp [Value.oneCell']) (by unfold maxLen; omega) (by omega) (by simp; omega) ?_; go_loud (intro v' w1 hown' hgrow _; obtain ⟨g', cap', rfl⟩ := ownsRow_succ hown')))
                go_roundg (N + 2 - (t + 1))
                case measure => omega
                case rel => exact ⟨t + 1, by omega, rfl, by go_num, by rw [HS2.out]; first | done | rfl, HA.out.grown HIN.out HLN.out hown' hgrow⟩
              | true =>
                have HZ3 : Hid ((decide (t < N) && !B t) = true) := by show _ = _; rw [decide_eq_true htn, HBI.out]; rfl
                have HDT : Hid (decide (t < N) = true) := decide_eq_true htn
                have HIN : Hid (Pl.inR N B L 3 t = true) := by show _ = _; exact (Pl.inR_3 HZ3.out)
                have hst : Pl.stR N B L 3 t = false := (by rw [Pl.stR_3 HDT.out rfl HG.out, HBI.out]; first | rfl | simp)
                rw [hst] at HS1
                have HS2 : Hid (Pl.isT N B L 3 (t + 1) = (true && false)) := HS1.out
                clear hst HS1
                obtain ⟨ln, hln⟩ : ∃ ln, ln = (Pl.readsT N B L 3 t).length := ⟨_, rfl⟩
                have hle := Pl.readsT_len (N := N) (B := B) (L := L) 3 t
                rw [← hln] at hle
                have ow := HA.out.1
                rw [← hln] at ow
                have OW : Hid (wr.ownsRow w.heap.size 3 1 v ln (iV15 (Pl.readsT N B L 3 t))) := ow
                have HLN : Hid (ln = (Pl.readsT N B L 3 t).length) := hln
                obtain ⟨q1, q2, q3, q4⟩ := HI0.out
                clear ow hln
                go_wp2_with (first | (go_at_call 23; refine HCALL.out.mono ?_; rintro e w2 ⟨rfl, rfl⟩) | (at_builtin; refine wpList_append_own _ rfl _ _ 23 rfl w.heap.size 3 i0 (.int .i64 0) 1 8 Tryd.underlying23 q1 q2 q3 q4 rfl (by decide) v ln (iV15 (Pl.readsT N B L 3 t)) rfl (OW.out.alloc _) ⟨w2.heap.size, 0, none⟩ 1 1 [.int .i64 (t : Int)] rfl rfl (cell_one_new _ _ _) (by simp [Value.oneCell']) (by unfold maxLen; omega) (by omega) (by simp; omega) ?_; go_loud (intro v' w1 hown' hgrow _; obtain ⟨g', cap', rfl⟩ := ownsRow_succ hown')))
                go_roundg (N + 2 - (t + 1))
                case measure => omega
                case rel => exact ⟨t + 1, by omega, rfl, by go_num, by rw [HS2.out]; first | done | rfl, HA.out.grown HIN.out HLN.out hown' hgrow⟩
            | true =>
              cases g with
              | false =>
                have HZ3 : Hid ((decide (t < N) && !B t) = false) := by show _ = _; rw [decide_eq_true htn, HBI.out]; rfl
                have HDT : Hid (decide (t < N) = true) := decide_eq_true htn
                have HIN : Hid (Pl.inR N B L 3 t = false) := by show _ = _; exact (Pl.inR_3 HZ3.out)
                have hst : Pl.stR N B L 3 t = true := (by rw [Pl.stR_3 HDT.out rfl HG.out, HBI.out]; first | rfl | simp)
                rw [hst] at HS1
                have HS2 : Hid (Pl.isT N B L 3 (t + 1) = (true && true)) := HS1.out
                clear hst HS1
                go_wp2_with (go_at_call 23; refine HCALL.out.mono ?_; rintro e w2 ⟨rfl, rfl⟩)
                go_roundg (N + 2 - (t + 1))
                case measure => omega
                case rel => exact ⟨t + 1, by omega, rfl, by go_num, by rw [HS2.out]; first | done | rfl, HA.out.kept HIN.out⟩
              | true =>
                have HZ3 : Hid ((decide (t < N) && !B t) = false) := by show _ = _; rw [decide_eq_true htn, HBI.out]; rfl
                have HDT : Hid (decide (t < N) = true) := decide_eq_true htn
                have HIN : Hid (Pl.inR N B L 3 t = false) := by show _ = _; exact (Pl.inR_3 HZ3.out)
                have hst : Pl.stR N B L 3 t = true := (by rw [Pl.stR_3 HDT.out rfl HG.out, HBI.out]; first | rfl | simp)
                rw [hst] at HS1
                have HS2 : Hid (Pl.isT N B L 3 (t + 1) = (true && true)) := HS1.out
                clear hst HS1
                go_wp2_with (go_at_call 23; refine HCALL.out.mono ?_; rintro e w2 ⟨rfl, rfl⟩)
                go_roundg (N + 2 - (t + 1))
                case measure => omega
                case rel => exact ⟨t + 1, by omega, rfl, by go_num, by rw [HS2.out]; first | done | rfl, HA.out.kept HIN.out⟩
        · have hd : ¬ (t : Int) < (N : Int) := by omega
          clear hA
          cases s with
          | false =>
            cases g with
            | false =>
              have HZ3 : Hid ((decide (t < N) && !B t) = false) := by show _ = _; rw [decide_eq_false htn]; rfl
              have HDT : Hid (decide (t < N) = false) := decide_eq_false htn
              have HIN : Hid (Pl.inR N B L 3 t = false) := by show _ = _; exact (Pl.inR_3 HZ3.out)
              have hst : Pl.stR N B L 3 t = true := (by rw [Pl.stR_3 HDT.out rfl HG.out]; first | rfl | simp)
              rw [hst] at HS1
              have HS2 : Hid (Pl.isT N B L 3 (t + 1) = (false && true)) := HS1.out
              clear hst HS1
              go_wp2_with (go_at_call 23; refine HCALL.out.mono ?_; rintro e w2 ⟨rfl, rfl⟩)
              go_roundg (N + 2 - (t + 1))
              case measure => omega
              case rel => exact ⟨t + 1, by omega, rfl, by go_num, by rw [HS2.out]; first | done | rfl, HA.out.kept HIN.out⟩
            | true =>
              have HZ3 : Hid ((decide (t < N) && !B t) = false) := by show _ = _; rw [decide_eq_false htn]; rfl
              have HDT : Hid (decide (t < N) = false) := decide_eq_false htn
              have HIN : Hid (Pl.inR N B L 3 t = false) := by show _ = _; exact (Pl.inR_3 HZ3.out)
              have hst : Pl.stR N B L 3 t = true := (by rw [Pl.stR_3 HDT.out rfl HG.out]; first | rfl | simp)
              rw [hst] at HS1
              have HS2 : Hid (Pl.isT N B L 3 (t + 1) = (false && true)) := HS1.out
              clear hst HS1
              go_wp2_with (go_at_call 23; refine HCALL.out.mono ?_; rintro e w2 ⟨rfl, rfl⟩)
              go_roundg (N + 2 - (t + 1))
              case measure => omega
              case rel => exact ⟨t + 1, by omega, rfl, by go_num, by rw [HS2.out]; first | done | rfl, HA.out.kept HIN.out⟩
          | true =>
            cases g with
            | false =>
              have HZ3 : Hid ((decide (t < N) && !B t) = false) := by show _ = _; rw [decide_eq_false htn]; rfl
              have HDT : Hid (decide (t < N) = false) := decide_eq_false htn
              have HIN : Hid (Pl.inR N B L 3 t = false) := by show _ = _; exact (Pl.inR_3 HZ3.out)
              have hst : Pl.stR N B L 3 t = true := (by rw [Pl.stR_3 HDT.out rfl HG.out]; first | rfl | simp)
              rw [hst] at HS1
              have HS2 : Hid (Pl.isT N B L 3 (t + 1) = (true && true)) := HS1.out
              clear hst HS1
              go_wp2_with (go_at_call 23; refine HCALL.out.mono ?_; rintro e w2 ⟨rfl, rfl⟩)
              go_roundg (N + 2 - (t + 1))
              case measure => omega
              case rel => exact ⟨t + 1, by omega, rfl, by go_num, by rw [HS2.out]; first | done | rfl, HA.out.kept HIN.out⟩
            | true =>
              have HZ3 : Hid ((decide (t < N) && !B t) = false) := by show _ = _; rw [decide_eq_false htn]; rfl
              have HDT : Hid (decide (t < N) = false) := decide_eq_false htn
              have HIN : Hid (Pl.inR N B L 3 t = false) := by show _ = _; exact (Pl.inR_3 HZ3.out)
              have hst : Pl.stR N B L 3 t = true := (by rw [Pl.stR_3 HDT.out rfl HG.out]; first | rfl | simp)
              rw [hst] at HS1
              have HS2 : Hid (Pl.isT N B L 3 (t + 1) = (true && true)) := HS1.out
              clear hst HS1
              go_wp2_with (go_at_call 23; refine HCALL.out.mono ?_; rintro e w2 ⟨rfl, rfl⟩)
              go_roundg (N + 2 - (t + 1))
              case measure => omega
              case rel => exact ⟨t + 1, by omega, rfl, by go_num, by rw [HS2.out]; first | done | rfl, HA.out.kept HIN.out⟩
      · have hi2 : ¬ (t : Int) < (N : Int) + 2 := by omega
        have htN : t = N + 2 := by omega
        have HE : Hid (At15 w N B L 3 (N + 2) v wr) := by rw [htN] at HA; exact HA
        have HSE : Hid (Pl.isT N B L 3 (N + 2) = s) := by show _ = _; rw [HIS.out, htN]
        have hblo := hA.2
        have HBLO : Hid (Below w.heap.size w wr) := hblo
        clear hA hblo htN hg
        cases s with
        | true =>
          have HC : Hid (Pl.canB N B L 3 = true) := by show _ = _; unfold Pl.canB; rw [HSE.out]; rfl
          go_wp2
          go_ret2
          exact reads_end HE.out HC.out
        | false =>
          have HC : Hid (Pl.canB N B L 3 = false) := by show _ = _; unfold Pl.canB; rw [HSE.out]; rfl
          go_wp2
          go_ret2
          exact reads_not HBLO.out HC.out
end Go.Proofs.YtlkbdhejfmljlaaDoor
