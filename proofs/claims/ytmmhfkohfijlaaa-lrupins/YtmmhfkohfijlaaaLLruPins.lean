/- For every key and every number the law LruPins returns true: what is pinned so often has to be unpinned as often; what is not there is not pinned. No condition. -/
import Derived.Test.YtmmhfkohfijlaaaLrMine
import Derived.Deep.LoopGhost
import Derived.ProofKit
import Derived.OpenShut
import Derived.Below
import Derived.ChangeOld
namespace Go.Proofs.Ytmmhfkohfijlaaa.lruPins
open Go.ChangeShapes Go.WideShapes Go.ChangeAt Go.RowKit Lr

theorem one_idx (k : Int) (n : Nat) : idx [(k, n)] k = 0 := by simp [idx]
theorem one_pins (k : Int) (n : Nat) : pins [(k, n)] k = n := by simp [pins, one_idx]
theorem one_pinE (k : Int) (n : Nat) : pinE [(k, n)] k = 0 := by simp [pinE, one_idx]
theorem one_pin (k : Int) (n : Nat) : pin [(k, n)] k = [(k, n + 1)] := by simp [pin, pinTo, one_idx, one_pins]
theorem one_unpinE (k : Int) (n : Nat) : unpinE [(k, n + 1)] k = 0 := by simp [unpinE, one_idx, one_pins]
theorem one_unpin (k : Int) (n : Nat) : unpin [(k, n + 1)] k = [(k, n)] := by simp [unpin, pinTo, one_idx, one_pins]
theorem one_unpinE0 (k : Int) : unpinE [(k, 0)] k = 5 := by simp [unpinE, one_idx, one_pins]
theorem one_unpin0 (k : Int) : unpin [(k, 0)] k = [(k, 0)] := by simp [unpin, one_idx, one_pins]
theorem one_dropE (k : Int) (n : Nat) : dropE [(k, n + 1)] k = 5 := by simp [dropE, one_idx, one_pins]
theorem one_drop (k : Int) (n : Nat) : drop [(k, n + 1)] k = [(k, n + 1)] := by simp [drop, one_idx, one_pins]
theorem one_dropE0 (k : Int) : dropE [(k, 0)] k = 0 := by simp [dropE, one_idx, one_pins]
theorem one_drop0 (k : Int) : drop [(k, 0)] k = [] := by simp [drop, one_idx, one_pins]
theorem none_idx (k : Int) : idx [] k = 0 := rfl

set_option maxRecDepth 100000 in
set_option maxHeartbeats 8000000 in
theorem walk (key : Int) (wk : (Lit.int .i64 key).wf = true) (n : Int) (wn : (Lit.int .u8 n).wf = true) (w : World) :
    Calls Try.prog 7 #[.int .i64 key, .int .u8 n] w fun e w' => e = .returned (.bool true) ∧ Below w.heap.size w w' := by
  have hk : Ok key := by have := bounds_i64 wk; exact ⟨by omega, by omega⟩
  obtain ⟨N, rfl, hN⟩ : ∃ N : Nat, n = (N : Int) ∧ N < 256 := by have := bounds_u8 wn; exact ⟨n.toNat, by omega, by omega⟩
  have HK : Hid (Ok key) := hk
  clear wk wn hk
  go_enter Try.func7, Try.ntmps7
  go_wp2_with fail
  refine (New_mine 2 w.heap.size (by decide) (by decide) w (Nat.le_refl _)).mono ?_
  rintro e w1 ⟨p, rfl, m1, b1⟩
  have M1 : Hid (Lr.Mine w1 w.heap.size p 2 []) := m1
  have B1 : Hid (Below w.heap.size w w1) := b1
  clear m1 b1
  go_wp2_with fail
  refine (shown14_any w1).mono ?_
  rintro e w2 ⟨rfl, b2⟩
  have M2 : Hid (Lr.Mine w2 w.heap.size p 2 []) := M1.out.below b2
  have B2 : Hid (Below w.heap.size w w2) := B1.out.trans (b2.mono B1.out.size)
  clear b2
  go_wp2_with fail
  refine (Pin_mine M2.out HK.out (by rw [show pins [] key = 0 from rfl]; decide)).mono ?_
  rw [show pinE [] key = 3 from rfl, show pin [] key = [] from rfl]
  rintro e w3 ⟨rfl, m3, b3⟩
  have M3 : Hid (Lr.Mine w3 w.heap.size p 2 []) := m3
  have B3 : Hid (Below w.heap.size w w3) := B2.out.trans b3
  clear m3 b3
  go_wp2_with fail
  refine (Unpin_mine M3.out HK.out (by rw [show pins [] key = 0 from rfl]; decide)).mono ?_
  rw [show unpinE [] key = 3 from rfl, show unpin [] key = [] from rfl]
  rintro e w4 ⟨rfl, m4, b4⟩
  have M4 : Hid (Lr.Mine w4 w.heap.size p 2 []) := m4
  have B4 : Hid (Below w.heap.size w w4) := B3.out.trans b4
  clear m4 b4
  go_wp2_with fail
  refine (Drop_mine M4.out HK.out).mono ?_
  rw [show dropE [] key = 3 from rfl, show drop [] key = [] from rfl]
  rintro e w5 ⟨rfl, m5, b5⟩
  have M5 : Hid (Lr.Mine w5 w.heap.size p 2 []) := m5
  have B5 : Hid (Below w.heap.size w w5) := B4.out.trans b5
  clear m5 b5
  go_wp2_with fail
  refine (Pinned_mine M5.out HK.out).mono ?_
  rw [show pins [] key = 0 from rfl]
  rintro e w6 ⟨rfl, rfl⟩
  go_wp2_with fail
  refine (Put_mine M5.out HK.out).mono ?_
  rw [show put 2 [] key = [(key, 0)] from rfl]
  rintro e w7 ⟨rfl, m7, b7⟩
  have M7 : Hid (Lr.Mine w7 w.heap.size p 2 [(key, 0)]) := m7
  have B7 : Hid (Below w.heap.size w w7) := B5.out.trans b7
  clear m7 b7 M1 B1 M2 B2 M3 B3 M4 B4 M5 B5
  go_wp2_with fail
  go_loopg [6] N (fun g i wr => ∃ j : Nat, j ≤ N ∧ g = N - j ∧ i = .int .i64 (j : Int) ∧ Lr.Mine wr w.heap.size p 2 [(key, j)] ∧ Below w.heap.size w wr)
  case atStart => exact ⟨0, Nat.zero_le _, rfl, rfl, M7.out, B7.out⟩
  case round =>
    obtain ⟨j, hj, rfl, rfl, m, b⟩ := hrel
    have M : Hid (Lr.Mine wr w.heap.size p 2 [(key, j)]) := m
    have B : Hid (Below w.heap.size w wr) := b
    clear m b M7 B7
    by_cases hlt : j < N
    · go_wp2_with fail
      refine (Pin_mine M.out HK.out (by rw [one_pins]; omega)).mono ?_
      rw [one_pinE, one_pin]
      rintro e v1 ⟨rfl, m1, b1⟩
      have M1 : Hid (Lr.Mine v1 w.heap.size p 2 [(key, j + 1)]) := m1
      have B1 : Hid (Below w.heap.size w v1) := B.out.trans b1
      clear m1 b1
      go_wp2_with fail
      refine (Pinned_mine M1.out HK.out).mono ?_
      rw [one_pins]
      rintro e v2 ⟨rfl, rfl⟩
      go_wp2_with fail
      refine (Drop_mine M1.out HK.out).mono ?_
      rw [one_dropE, one_drop]
      rintro e v3 ⟨rfl, m3, b3⟩
      have M3 : Hid (Lr.Mine v3 w.heap.size p 2 [(key, j + 1)]) := m3
      have B3 : Hid (Below w.heap.size w v3) := B1.out.trans b3
      clear m3 b3
      go_wp2
      go_roundg (N - (j + 1))
      case measure => omega
      case rel => exact ⟨j + 1, by omega, rfl, by go_num, M3.out, B3.out⟩
    · have hjN : j = N := by omega
      have MN : Hid (Lr.Mine wr w.heap.size p 2 [(key, N)]) := by rw [hjN] at M; exact M
      clear hjN M
      have hn1 : ¬ (j : Int) < (N : Int) := by omega
      clear hlt hj
      go_wp2_with fail
      go_loopg [7] N (fun g i wr => ∃ j : Nat, j ≤ N ∧ g = N - j ∧ i = .int .i64 (j : Int) ∧ Lr.Mine wr w.heap.size p 2 [(key, N - j)] ∧ Below w.heap.size w wr)
      case atStart => exact ⟨0, Nat.zero_le _, rfl, rfl, MN.out, B.out⟩
      case round =>
        obtain ⟨j, hj, rfl, rfl, m, b⟩ := hrel
        have M : Hid (Lr.Mine wr w.heap.size p 2 [(key, N - j)]) := m
        have B : Hid (Below w.heap.size w wr) := b
        clear m b MN hn1
        by_cases hlt : j < N
        · obtain ⟨t, ht⟩ : ∃ t, N - j = t + 1 := ⟨N - j - 1, by omega⟩
          have hpin : ((N : Int) - 1 - (j : Int)) = (t : Int) := by omega
          have M0 : Hid (Lr.Mine wr w.heap.size p 2 [(key, t + 1)]) := by rw [ht] at M; exact M
          have HT : Hid (N - (j + 1) = t) := by show _ = _; omega
          have htN : t < 256 := by omega
          clear M ht
          go_wp2_with fail
          refine (Unpin_mine M0.out HK.out (by rw [one_pins]; omega)).mono ?_
          rw [one_unpinE, one_unpin]
          rintro e v1 ⟨rfl, m1, b1⟩
          have M1 : Hid (Lr.Mine v1 w.heap.size p 2 [(key, t)]) := m1
          have B1 : Hid (Below w.heap.size w v1) := B.out.trans b1
          clear m1 b1
          go_wp2_with fail
          refine (Pinned_mine M1.out HK.out).mono ?_
          rw [one_pins]
          rintro e v2 ⟨rfl, rfl⟩
          go_wp2
          go_roundg (N - (j + 1))
          case measure => omega
          case rel => exact ⟨j + 1, by omega, rfl, by go_num, by rw [HT.out]; exact M1.out, B1.out⟩
        · have hjN : j = N := by omega
          have M0 : Hid (Lr.Mine wr w.heap.size p 2 [(key, 0)]) := by rw [show N - j = 0 by omega] at M; exact M
          have hn2 : ¬ (j : Int) < (N : Int) := by omega
          clear M hj hjN hlt
          go_wp2_with fail
          refine (Unpin_mine M0.out HK.out (by rw [one_pins]; decide)).mono ?_
          rw [one_unpinE0, one_unpin0]
          rintro e v1 ⟨rfl, m1, b1⟩
          have M1 : Hid (Lr.Mine v1 w.heap.size p 2 [(key, 0)]) := m1
          have B1 : Hid (Below w.heap.size w v1) := B.out.trans b1
          clear m1 b1
          go_wp2_with fail
          refine (Drop_mine M1.out HK.out).mono ?_
          rw [one_dropE0, one_drop0]
          rintro e v2 ⟨rfl, m2, b2⟩
          have M2 : Hid (Lr.Mine v2 w.heap.size p 2 []) := m2
          have B2 : Hid (Below w.heap.size w v2) := B1.out.trans b2
          clear m2 b2
          go_wp2_with fail
          refine (Keys_mine M2.out).mono ?_
          rintro e v3 ⟨⟨a, cap, rfl, _, _⟩, _, b3⟩
          have B3 : Hid (Below w.heap.size w v3) := B2.out.trans (b3.mono B2.out.size)
          clear b3
          simp only [List.length_nil]
          go_wp2
          go_ret
          exact ⟨rfl, B3.out⟩

theorem own : ownKnob Try.prog.godebug = none := by kernel_rfl
set_option linter.unusedVariables false in
set_option maxRecDepth 100000 in
theorem lifted (os : Os) (started : os.Started) (H : Type) (enc : TypeId × Value → H) :
    ReturnsInHanded {} Try.checked os 7 .any (Rows.lruPinsSpec.pre6 enc Try.prog Try.f7 Rows.lruPinsRow.domain false) (Rows.lruPinsSpec.post enc Try.prog Try.f7 false true false false) := by
  refine returnsInHanded_of_change (C := Try.checked) own started (by kernel_rfl) Try.func7
    (ChangeSpec.witness6 (enc := enc) (C := Try.checked) false ⟨#[], #[.int .i64 0, .int .u8 0], []⟩ 8 (by kernel_rfl) (by kernel_rfl) (by kernel_rfl) (by kernel_rfl)) ?_
  intro W base args ds gs before hval0 hW hcnd _
  have hval : ∀ (j : Nat) t v, Try.f7.params[j]? = some t → args[j]? = some v → Value.okWide Try.prog W .any base t v := hval0
  have hW' := hW
  obtain ⟨p, q, hA0, hV, rfl, hfz, hnd⟩ := hW
  have hA : DataW.TrodAll enc Try.prog W 0 (fun _ => true) true Try.f7.params.toList args.toList ds p := hA0
  rw [Try.params7] at hA hval
  obtain ⟨v0, vs0, d0, ds0, p0, q0, hargs, rfl, rfl, h0, r0⟩ := trodAll_cons hA
  obtain ⟨v1, vs1, d1, ds1, p1, q1, rfl, rfl, rfl, h1, r1⟩ := trodAll_cons r0
  obtain ⟨rfl, rfl, rfl⟩ := trodAll_nil r1
  obtain rfl : args = #[v0, v1] := by cases args; simp_all
  obtain ⟨rfl, rfl⟩ := trodVars_none hV
  obtain ⟨a0, rfl, rfl, rfl, w0⟩ := open_int Try.underlying3 (hval 0 3 v0 rfl rfl) h0
  obtain ⟨a1, rfl, rfl, rfl, w1⟩ := open_int Try.underlying5 (hval 1 5 v1 rfl rfl) h1
  clear hA0 hval0
  simp only [List.append_nil] at hW'
  refine (walk a0 w0 a1 w1 W).mono fun e W' ⟨he, hg⟩ => ?_
  subst he
  exact ⟨_, rfl, _, _, _, [], [], [], hW', trodAll_mk1 (shut_bool Try.underlying4 _), (trodAll_cons_mk (shut_int Try.underlying3 w0) (trodAll_cons_mk (shut_int Try.underlying5 w1) trodAll_mk0)), rfl, hg.frame _, fun h => by cases h⟩
/-- For every input the law returns true, and each argument reads as it did. -/
theorem proved : Rows.LruPinsSaid :=
  OpenClaim.holds_of_wide 7 Try.f7 rfl rfl rfl rfl rfl rfl rfl ⟨rfl, rfl, rfl, rfl, rfl⟩ rfl rfl rfl rfl rfl (by kernel_rfl) Try.func7 (by kernel_rfl)
    (of_decide_eq_true (by kernel_rfl)) (by unfold Func.isWrapper; first | (rw [if_pos (by decide +kernel)]; kernel_rfl) | (rw [if_neg (by decide +kernel)]; exact ⟨rfl, rfl⟩))
    (fun os started H enc _ => lifted os started H enc)
end Go.Proofs.Ytmmhfkohfijlaaa.lruPins
