/- For every text and every size the law CrcSeals returns true: what is sealed has the size that was asked for, and is opened to what was sealed, with bytes 0 behind; what has no room is not sealed (up to the law's own bound on lengths; beyond it the law says nothing). No condition. -/
import Derived.Test.YtphhgebalkaghabCrcOpen
import Derived.ProofKit
import Derived.OpenShut
import Derived.ShutString
namespace Go.Proofs.Ytphhgebalkaghab.crcSeals
open Go.ChangeShapes Go.WideShapes Go.ChangeAt Go.RowKit
open Go.ChangeMaps (open_string shut_string)

set_option maxHeartbeats 2000000 in
theorem walk_nat (s : ByteArray) (a : Nat) (hs : s.size ≤ maxLen) (ha : a < 65536) (w : World) :
    Calls Try.prog 4 #[.string s, .int .u16 a] w fun e w' => e = .returned (.bool true) ∧ Below w.heap.size w w' := by
  unfold maxLen at hs
  by_cases h1 : 200 < s.size
  · go_enter Try.func4, Try.ntmps4
    go_wp2_with fail
    refine (shown2_any _).mono ?_
    rintro e w1 ⟨rfl, hb1⟩
    go_wp2
    go_ret
    exact ⟨rfl, hb1⟩
  · obtain ⟨n, hn⟩ : ∃ n : Nat, n = a % 300 := ⟨_, rfl⟩
    have hnl : n < 300 := by omega
    have hr : (a : Int).tmod 300 = (n : Int) := by rw [Int.tmod_eq_emod_of_nonneg (by omega)]; omega
    clear hn
    by_cases h2 : 4 ≤ n ∧ s.size ≤ n - 4
    · obtain ⟨h4, h5⟩ := h2
      have hl : s.data.toList.length = s.size := by simp
      have hz : (Crc.sealB s n).size = n := by
        show (Crc.sealL _ _).toArray.size = _
        rw [List.size_toArray, Crc.sealL_length _ n h4 (by omega)]
      have ho : Crc.opens (Crc.sealB s n).data.toList = true := by
        show Crc.opens (Crc.sealL _ _).toArray.toList = _
        rw [List.toList_toArray, Crc.opens_seal _ n h4 (by omega)]
      have hh := Crc.headB_seal s n h4 h5
      obtain ⟨p, hp⟩ : ∃ p, p = Crc.headB (Crc.sealB s n) := ⟨_, rfl⟩
      have hpl : p.data.toList = s.data.toList ++ List.replicate (n - 4 - s.size) 0 := by
        rw [hp, hh]; show Crc.padL _ _ = _; unfold Crc.padL; rw [hl]
      have hps : p.size = n - 4 := by
        have : p.data.toList.length = p.size := by simp
        rw [← this, hpl]; simp; omega
      have q1 : ((n : Int) == (n : Int)) = true := by simp
      have q2 : p.extract 0 s.size = s := by
        apply ByteArray.ext
        apply Array.toList_inj.1
        rw [ByteArray.data_extract, Array.toList_extract, hpl, List.extract_eq_take_drop, List.drop_zero, Nat.sub_zero, ← hl, List.take_left']
        rfl
      have q3 : ∀ j (h : j < p.size), s.size ≤ j → p[j] = 0 := by
        intro j h hj
        have h' : j < p.data.toList.length := by simpa using h
        have e : p[j] = p.data.toList[j] := rfl
        rw [e]
        simp only [hpl]
        rw [List.getElem_append_right (by omega)]
        simp
      have Hp : Hid (Crc.headB (Crc.sealB s n) = p) := hp.symm
      have Hz : Hid ((Crc.sealB s n).size = n) := hz
      have Hps : Hid (p.size = n - 4) := hps
      have Hq : Hid (∀ j (h : j < p.size), s.size ≤ j → p[j] = 0) := q3
      obtain ⟨t, ht⟩ : ∃ t, t = Crc.sealB s n := ⟨_, rfl⟩
      rw [← ht] at hz ho
      have Ht : Hid (Crc.sealB s n = t) := ht.symm
      have q4 : ((t.size : Int) != (n : Int)) = false := by rw [hz]; simp
      have q5 : ((p.size : Int) != (n : Int) - 4) = false := by rw [bne_eq_false_iff_eq]; omega
      have q6 : (s.size : Int) ≤ (p.size : Int) := by omega
      have q7 : ((4 : Int) ≤ (n : Int)) := by omega
      have q8 : (s.size : Int) ≤ (n : Int) - 4 := by omega
      have Htz : Hid (t.size = n) := hz
      have Hpt : Hid (Crc.headB t = p) := by show Crc.headB t = p; rw [ht]; exact hp.symm
      clear hh hp hpl hps q3 ht hz hl q1
      go_enter Try.func4, Try.ntmps4
      go_wp2_with fail
      refine (shown2_any _).mono ?_
      rintro e w1 ⟨rfl, hb1⟩
      go_wp2_with fail
      refine (Seal_yes s n h4 (by omega) h5 _).mono ?_
      rintro e w2 ⟨rfl, hb2⟩
      rw [Ht.out]
      go_wp2_with fail
      refine (Open_yes t (by rw [Htz.out]; omega) ho _).mono ?_
      rintro e w3 ⟨rfl, hb3⟩
      rw [Hpt.out]
      go_wp2
      go_loop [10] (fun i => ∃ k : Nat, s.size ≤ k ∧ k ≤ p.size ∧ i = .int .i64 k) (fun i => p.size - (intOf i).toNat)
      case atStart => exact ⟨s.size, Nat.le_refl _, by omega, rfl⟩
      case round =>
        obtain ⟨k, hk1, hk2, rfl⟩ := hrel
        have hpz : p.size ≤ 300 := by rw [Hps.out]; omega
        by_cases hlt : k < p.size
        · have h0 : p[k].toNat = 0 := by rw [Hq.out k hlt hk1]; rfl
          go_wp2
          go_round
          case rel => exact ⟨k + 1, by omega, by omega, by go_num⟩
          case measure => simp [intOf]; omega
        · go_wp2
          go_ret
          exact ⟨rfl, below2 (below2 hb1 hb2) hb3⟩
    · by_cases h4 : n < 4
      · clear h2
        go_enter Try.func4, Try.ntmps4
        go_wp2_with fail
        refine (shown2_any _).mono ?_
        rintro e w1 ⟨rfl, hb1⟩
        go_wp2_with fail
        refine (Seal_no s n (by omega) (by omega) (by omega) _).mono ?_
        rintro e w' ⟨rfl, rfl⟩
        go_wp2
        go_ret
        exact ⟨rfl, hb1⟩
      · have h5 : ¬ (s.size : Int) ≤ (n : Int) - 4 := by omega
        have h4' : (4 : Int) ≤ (n : Int) := by omega
        clear h2
        go_enter Try.func4, Try.ntmps4
        go_wp2_with fail
        refine (shown2_any _).mono ?_
        rintro e w1 ⟨rfl, hb1⟩
        go_wp2_with fail
        refine (Seal_no s n (by omega) (by omega) (by omega) _).mono ?_
        rintro e w' ⟨rfl, rfl⟩
        go_wp2
        go_ret
        exact ⟨rfl, hb1⟩
theorem walk (a0 : ByteArray) (w0 : a0.size ≤ maxLen) (a1 : Int) (w1 : (Lit.int .u16 a1).wf = true) (w : World) :
    Calls Try.prog 4 #[.string a0, .int .u16 a1] w fun e w' => e = .returned (.bool true) ∧ Below w.heap.size w w' := by
  have b1 := bounds_u16 w1
  obtain ⟨a, rfl⟩ := Int.eq_ofNat_of_zero_le b1.1
  exact walk_nat a0 a w0 (by omega) w

theorem own : ownKnob Try.prog.godebug = none := by kernel_rfl
set_option linter.unusedVariables false in
set_option maxRecDepth 100000 in
theorem lifted (os : Os) (started : os.Started) (H : Type) (enc : TypeId × Value → H) :
    ReturnsInHanded {} Try.checked os 4 .any (Rows.crcSealsSpec.pre6 enc Try.prog Try.f4 Rows.crcSealsRow.domain false) (Rows.crcSealsSpec.post enc Try.prog Try.f4 false true false false) := by
  refine returnsInHanded_of_change (C := Try.checked) own started (by kernel_rfl) Try.func4
    (ChangeSpec.witness6 (enc := enc) (C := Try.checked) false ⟨#[], #[.string ByteArray.empty, .int .u16 0], []⟩ 8 (by kernel_rfl) (by kernel_rfl) (by kernel_rfl) (by kernel_rfl)) ?_
  intro W base args ds gs before hval0 hW hcnd _
  have hval : ∀ (j : Nat) t v, Try.f4.params[j]? = some t → args[j]? = some v → Value.okWide Try.prog W .any base t v := hval0
  have hW' := hW
  obtain ⟨p, q, hA0, hV, rfl, hfz, hnd⟩ := hW
  have hA : DataW.TrodAll enc Try.prog W 0 (fun _ => true) true Try.f4.params.toList args.toList ds p := hA0
  rw [Try.params4] at hA hval
  obtain ⟨v0, vs0, d0, ds0, p0, q0, hargs, rfl, rfl, h0, r0⟩ := trodAll_cons hA
  obtain ⟨v1, vs1, d1, ds1, p1, q1, rfl, rfl, rfl, h1, r1⟩ := trodAll_cons r0
  obtain ⟨rfl, rfl, rfl⟩ := trodAll_nil r1
  obtain rfl : args = #[v0, v1] := by cases args; simp_all
  obtain ⟨rfl, rfl⟩ := trodVars_none hV
  obtain ⟨a0, rfl, rfl, rfl, w0⟩ := open_string Try.underlying9 (hval 0 9 v0 rfl rfl) h0
  obtain ⟨a1, rfl, rfl, rfl, w1⟩ := open_int Try.underlying22 (hval 1 22 v1 rfl rfl) h1
  clear hA0 hval0
  simp only [List.append_nil] at hW'
  refine (walk a0 w0 a1 w1 W).mono fun e W' ⟨he, hg⟩ => ?_
  subst he
  exact ⟨_, rfl, _, _, _, [], [], [], hW', trodAll_mk1 (shut_bool Try.underlying4 _), (trodAll_cons_mk (shut_string Try.underlying9 w0) (trodAll_cons_mk (shut_int Try.underlying22 w1) trodAll_mk0)), rfl, hg.frame _, fun h => by cases h⟩
/-- For every input the law returns true, and each argument reads as it did. -/
theorem proved : Rows.CrcSealsSaid :=
  OpenClaim.holds_of_wide 4 Try.f4 rfl rfl rfl rfl rfl rfl rfl ⟨rfl, rfl, rfl, rfl, rfl⟩ rfl rfl rfl rfl rfl (by kernel_rfl) Try.func4 (by kernel_rfl)
    (of_decide_eq_true (by kernel_rfl)) (by unfold Func.isWrapper; first | (rw [if_pos (by decide +kernel)]; kernel_rfl) | (rw [if_neg (by decide +kernel)]; exact ⟨rfl, rfl⟩))
    (fun os started H enc _ => lifted os started H enc)
end Go.Proofs.Ytphhgebalkaghab.crcSeals
