/- For every two texts and every two numbers the law GfLinear returns true: texts times sums are sums; a text added to itself is bytes 0; the longer one's length stays (up to the law's own bound on lengths; beyond it the law says nothing). No condition. -/
import Derived.Test.YtphhgebalkaghaaGfShown
import Derived.Test.YtphhgebalkaghaaGfTimes
import Derived.ProofKit
import Derived.OpenShut
import Derived.ShutString
namespace Go.Proofs.Ytphhgebalkaghaa.gfLinear
open Go.ChangeShapes Go.WideShapes Go.ChangeAt Go.RowKit
open Go.ChangeMaps (open_string shut_string)

theorem b_ext {x y : ByteArray} (h : x.data.toList = y.data.toList) : x = y := ByteArray.ext (Array.toList_inj.1 h)
theorem times_xor (s t : ByteArray) (a : Nat) : Gfm.timesB (Gfm.xorB s t) a = Gfm.xorB (Gfm.timesB s a) (Gfm.timesB t a) := by
  apply b_ext
  show Gfm.timesL (Gfm.xorL _ _) a = Gfm.xorL (Gfm.timesL _ a) (Gfm.timesL _ a)
  generalize s.data.toList = p
  generalize t.data.toList = q
  induction p generalizing q with
  | nil => rfl
  | cons x p ih =>
    cases q with
    | nil => rfl
    | cons y q =>
      show Gfm.mulU (x ^^^ y) a :: Gfm.timesL (Gfm.xorL p q) a = (Gfm.mulU x a ^^^ Gfm.mulU y a) :: Gfm.xorL (Gfm.timesL p a) (Gfm.timesL q a)
      rw [ih]
      congr 1
      apply UInt8.toNat_inj.1
      rw [Gfm.mulU_toNat, UInt8.toNat_xor, UInt8.toNat_xor, Gfm.mulU_toNat, Gfm.mulU_toNat, Gfm.mul_xor_left _ x.toNat_lt y.toNat_lt]
theorem times_times (s : ByteArray) {a b : Nat} (ha : a < 256) (hb : b < 256) : Gfm.timesB (Gfm.timesB s a) b = Gfm.timesB s (Gfm.mul a b) := by
  apply b_ext
  show Gfm.timesL (Gfm.timesL _ a) b = Gfm.timesL _ _
  unfold Gfm.timesL
  rw [List.map_map]
  apply List.map_congr_left
  intro x _
  apply UInt8.toNat_inj.1
  show (Gfm.mulU (Gfm.mulU x a) b).toNat = _
  rw [Gfm.mulU_toNat, Gfm.mulU_toNat, Gfm.mulU_toNat, Gfm.mul_assoc x.toNat_lt ha hb]
theorem xor_times (s : ByteArray) (a b : Nat) : Gfm.xorB (Gfm.timesB s a) (Gfm.timesB s b) = Gfm.timesB s (a ^^^ b) := by
  apply b_ext
  show Gfm.xorL (Gfm.timesL _ a) (Gfm.timesL _ b) = Gfm.timesL _ (a ^^^ b)
  generalize s.data.toList = p
  induction p with
  | nil => rfl
  | cons x p ih =>
    show (Gfm.mulU x a ^^^ Gfm.mulU x b) :: Gfm.xorL (Gfm.timesL p a) (Gfm.timesL p b) = Gfm.mulU x (a ^^^ b) :: Gfm.timesL p (a ^^^ b)
    rw [ih]
    congr 1
    apply UInt8.toNat_inj.1
    rw [UInt8.toNat_xor, Gfm.mulU_toNat, Gfm.mulU_toNat, Gfm.mulU_toNat, Gfm.mul_xor_right]
theorem times_one (s : ByteArray) : Gfm.timesB s 1 = s := by
  apply b_ext
  show Gfm.timesL _ 1 = _
  unfold Gfm.timesL
  conv => rhs; rw [← List.map_id s.data.toList]
  apply List.map_congr_left
  intro x _
  apply UInt8.toNat_inj.1
  rw [Gfm.mulU_toNat, Gfm.mul_one x.toNat_lt]; rfl
theorem xor_back (s t : ByteArray) : (Gfm.xorB (Gfm.xorB s t) t).extract 0 s.size = s := by
  apply b_ext
  have hl : s.data.toList.length = s.size := by simp
  rw [ByteArray.data_extract, Array.toList_extract]
  show (Gfm.xorL (Gfm.xorL s.data.toList t.data.toList) t.data.toList).extract 0 s.size = _
  rw [List.extract_eq_take_drop, ← hl]
  apply Gfm.list_ext
  · rw [List.length_take, List.length_drop, Gfm.xorL_length, Gfm.xorL_length]; omega
  · intro j hj
    rw [List.length_take] at hj
    rw [List.getD_eq_getElem?_getD, List.getElem?_take, if_pos (by omega), List.drop_zero, ← List.getD_eq_getElem?_getD, Gfm.xorL_getD, Gfm.xorL_getD, UInt8.xor_assoc, UInt8.xor_self, UInt8.xor_zero]

set_option maxHeartbeats 1000000 in
theorem walk_nat (s t : ByteArray) (a b : Nat) (hs : s.size ≤ maxLen) (ht : t.size ≤ maxLen) (ha : a < 256) (hb : b < 256) (w : World) :
    Calls Try.prog 6 #[.string s, .string t, .int .u8 a, .int .u8 b] w fun e w' => e = .returned (.bool true) ∧ Below w.heap.size w w' := by
  unfold maxLen at hs ht
  by_cases h1 : 1024 < s.size
  · go_enter Try.func6, Try.ntmps6
    go_wp2_with fail
    refine (shown1_any _).mono ?_
    rintro e w1 ⟨rfl, hb1⟩
    go_wp2
    go_ret
    exact ⟨rfl, hb1⟩
  · by_cases h2 : 1024 < t.size
    · go_enter Try.func6, Try.ntmps6
      go_wp2_with fail
      refine (shown1_any _).mono ?_
      rintro e w1 ⟨rfl, hb1⟩
      go_wp2
      go_ret
      exact ⟨rfl, hb1⟩
    · have z1 := Gfm.xorB_size s t
      have z2 := Gfm.xorB_size (Gfm.xorB s t) t
      have z3 := Gfm.timesB_size s a
      have z4 := Gfm.timesB_size t a
      have z5 := Gfm.timesB_size s b
      have Z3 : Hid ((Gfm.timesB s a).size = s.size) := z3
      have Z4 : Hid ((Gfm.timesB t a).size = t.size) := z4
      have Z5 : Hid ((Gfm.timesB s b).size = s.size) := z5
      have Z1 : Hid ((Gfm.xorB s t).size = max s.size t.size) := z1
      have l1 : (Gfm.xorB s t).size ≤ 1024 := by omega
      obtain ⟨M, hM⟩ : ∃ M, M = max s.size t.size := ⟨_, rfl⟩
      have hmx : (if s.size < t.size then (t.size : Int) else (s.size : Int)) = (M : Int) := by split <;> omega
      have q1 : (((Gfm.xorB s t).size : Int) == (M : Int)) = true := by rw [beq_iff_eq]; omega
      have q2 : (((Gfm.xorB (Gfm.xorB s t) t).size : Int) == ((Gfm.xorB s t).size : Int)) = true := by
        rw [beq_iff_eq]; omega
      have q3 : (s.size : Int) ≤ (Gfm.xorB (Gfm.xorB s t) t).size := by omega
      have q4 := xor_back s t
      have q5 := u8_xor_nat a b ha hb
      have hx := Gfm.xlt ha hb
      have hm := Gfm.mul_lt (b := b) ha
      clear z1 z2 z3 z4 z5 hM
      go_enter Try.func6, Try.ntmps6
      go_wp2_with fail
      refine (shown1_any _).mono ?_
      rintro e w1 ⟨rfl, hb1⟩
      go_wp2_with fail
      refine (Xor_any s t (by unfold maxLen; omega) (by unfold maxLen; omega) _).mono ?_
      rintro e w2 ⟨rfl, hb2⟩
      go_wp2_with fail
      refine (Xor_any _ t (by unfold maxLen; omega) (by unfold maxLen; omega) _).mono ?_
      rintro e w3 ⟨rfl, hb3⟩
      go_wp2_with fail
      refine (Times_any _ a (by omega) ha _).mono ?_
      rintro e w4 ⟨rfl, hb4⟩
      rw [times_xor]
      go_wp2_with fail
      refine (Times_any s a (by omega) ha _).mono ?_
      rintro e w5 ⟨rfl, hb5⟩
      go_wp2_with fail
      refine (Times_any t a (by omega) ha _).mono ?_
      rintro e w6 ⟨rfl, hb6⟩
      go_wp2_with fail
      refine (Xor_any _ _ (by unfold maxLen; rw [Z3.out]; omega) (by unfold maxLen; rw [Z4.out]; omega) _).mono ?_
      rintro e w7 ⟨rfl, hb7⟩
      go_wp2_with fail
      refine (Times_any s a (by omega) ha _).mono ?_
      rintro e w8 ⟨rfl, hb8⟩
      go_wp2_with fail
      refine (Times_any _ b (by rw [Z3.out]; omega) hb _).mono ?_
      rintro e w9 ⟨rfl, hb9⟩
      rw [times_times s ha hb]
      go_wp2_with fail
      refine (Mul_any a b ha hb _).mono ?_
      rintro e w' ⟨rfl, rfl⟩
      go_wp2_with fail
      refine (Times_any s _ (by omega) hm _).mono ?_
      rintro e w10 ⟨rfl, hb10⟩
      go_wp2_with fail
      refine (Times_any s a (by omega) ha _).mono ?_
      rintro e w11 ⟨rfl, hb11⟩
      go_wp2_with fail
      refine (Times_any s b (by omega) hb _).mono ?_
      rintro e w12 ⟨rfl, hb12⟩
      go_wp2_with fail
      refine (Xor_any _ _ (by unfold maxLen; rw [Z3.out]; omega) (by unfold maxLen; rw [Z5.out]; omega) _).mono ?_
      rintro e w13 ⟨rfl, hb13⟩
      rw [xor_times]
      go_wp2_with fail
      refine (Times_any s _ (by omega) hx _).mono ?_
      rintro e w14 ⟨rfl, hb14⟩
      go_wp2_with fail
      refine (Times_any s 1 (by omega) (by omega) _).mono ?_
      rintro e w15 ⟨rfl, hb15⟩
      rw [times_one]
      go_wp2
      go_ret
      exact ⟨rfl, below2 (below4 (below4 (below4 hb1 hb2 hb3 hb4) hb5 hb6 hb7) hb8 hb9 hb10) (below2 (below4 hb11 hb12 hb13 hb14) hb15)⟩
theorem walk (a0 : ByteArray) (w0 : a0.size ≤ maxLen) (a1 : ByteArray) (w1 : a1.size ≤ maxLen) (a2 : Int) (w2 : (Lit.int .u8 a2).wf = true) (a3 : Int) (w3 : (Lit.int .u8 a3).wf = true) (w : World) :
    Calls Try.prog 6 #[.string a0, .string a1, .int .u8 a2, .int .u8 a3] w fun e w' => e = .returned (.bool true) ∧ Below w.heap.size w w' := by
  have b2 := bounds_u8 w2
  have b3 := bounds_u8 w3
  obtain ⟨a, rfl⟩ := Int.eq_ofNat_of_zero_le b2.1
  obtain ⟨b, rfl⟩ := Int.eq_ofNat_of_zero_le b3.1
  exact walk_nat a0 a1 a b w0 w1 (by omega) (by omega) w

theorem own : ownKnob Try.prog.godebug = none := by kernel_rfl
set_option linter.unusedVariables false in
set_option maxRecDepth 100000 in
theorem lifted (os : Os) (started : os.Started) (H : Type) (enc : TypeId × Value → H) :
    ReturnsInHanded {} Try.checked os 6 .any (Rows.gfLinearSpec.pre6 enc Try.prog Try.f6 Rows.gfLinearRow.domain false) (Rows.gfLinearSpec.post enc Try.prog Try.f6 false true false false) := by
  refine returnsInHanded_of_change (C := Try.checked) own started (by kernel_rfl) Try.func6
    (ChangeSpec.witness6 (enc := enc) (C := Try.checked) false ⟨#[], #[.string ByteArray.empty, .string ByteArray.empty, .int .u8 0, .int .u8 0], []⟩ 8 (by kernel_rfl) (by kernel_rfl) (by kernel_rfl) (by kernel_rfl)) ?_
  intro W base args ds gs before hval0 hW hcnd _
  have hval : ∀ (j : Nat) t v, Try.f6.params[j]? = some t → args[j]? = some v → Value.okWide Try.prog W .any base t v := hval0
  have hW' := hW
  obtain ⟨p, q, hA0, hV, rfl, hfz, hnd⟩ := hW
  have hA : DataW.TrodAll enc Try.prog W 0 (fun _ => true) true Try.f6.params.toList args.toList ds p := hA0
  rw [Try.params6] at hA hval
  obtain ⟨v0, vs0, d0, ds0, p0, q0, hargs, rfl, rfl, h0, r0⟩ := trodAll_cons hA
  obtain ⟨v1, vs1, d1, ds1, p1, q1, rfl, rfl, rfl, h1, r1⟩ := trodAll_cons r0
  obtain ⟨v2, vs2, d2, ds2, p2, q2, rfl, rfl, rfl, h2, r2⟩ := trodAll_cons r1
  obtain ⟨v3, vs3, d3, ds3, p3, q3, rfl, rfl, rfl, h3, r3⟩ := trodAll_cons r2
  obtain ⟨rfl, rfl, rfl⟩ := trodAll_nil r3
  obtain rfl : args = #[v0, v1, v2, v3] := by cases args; simp_all
  obtain ⟨rfl, rfl⟩ := trodVars_none hV
  obtain ⟨a0, rfl, rfl, rfl, w0⟩ := open_string Try.underlying9 (hval 0 9 v0 rfl rfl) h0
  obtain ⟨a1, rfl, rfl, rfl, w1⟩ := open_string Try.underlying9 (hval 1 9 v1 rfl rfl) h1
  obtain ⟨a2, rfl, rfl, rfl, w2⟩ := open_int Try.underlying5 (hval 2 5 v2 rfl rfl) h2
  obtain ⟨a3, rfl, rfl, rfl, w3⟩ := open_int Try.underlying5 (hval 3 5 v3 rfl rfl) h3
  clear hA0 hval0
  simp only [List.append_nil] at hW'
  refine (walk a0 w0 a1 w1 a2 w2 a3 w3 W).mono fun e W' ⟨he, hg⟩ => ?_
  subst he
  exact ⟨_, rfl, _, _, _, [], [], [], hW', trodAll_mk1 (shut_bool Try.underlying4 _), (trodAll_cons_mk (shut_string Try.underlying9 w0) (trodAll_cons_mk (shut_string Try.underlying9 w1) (trodAll_cons_mk (shut_int Try.underlying5 w2) (trodAll_cons_mk (shut_int Try.underlying5 w3) trodAll_mk0)))), rfl, hg.frame _, fun h => by cases h⟩
/-- For every input the law returns true, and each argument reads as it did. -/
theorem proved : Rows.GfLinearSaid :=
  OpenClaim.holds_of_wide 6 Try.f6 rfl rfl rfl rfl rfl rfl rfl ⟨rfl, rfl, rfl, rfl, rfl⟩ rfl rfl rfl rfl rfl (by kernel_rfl) Try.func6 (by kernel_rfl)
    (of_decide_eq_true (by kernel_rfl)) (by unfold Func.isWrapper; first | (rw [if_pos (by decide +kernel)]; kernel_rfl) | (rw [if_neg (by decide +kernel)]; exact ⟨rfl, rfl⟩))
    (fun os started H enc _ => lifted os started H enc)
end Go.Proofs.Ytphhgebalkaghaa.gfLinear
