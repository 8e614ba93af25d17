/- For every geometry that may be and every sector the law LayoutBack returns true: each sector is found back, and those that are next to one another stand in one column, in columns next to one another, or in rows. No condition. -/
import Derived.Test.YtfnafoahcllakaaLay07
import Derived.ProofKit
import Derived.OpenShut
import Derived.ShutString
namespace Go.Proofs.Ytfnafoahcllakaa.layoutBack
open Go.ChangeShapes Go.WideShapes Go.ChangeAt Go.RowKit
open Go.ChangeMaps (open_string shut_string)

theorem next {c k r X : Int} (h : Lay.ok c k r) (_x1 : 0 ≤ X) (_x2 : X + 1 < r * (c - 2) * k) :
    ((X + 1) / k / (c - 2) = X / k / (c - 2) ∧ (X + 1) / k % (c - 2) = X / k % (c - 2) ∧ (X + 1) % k = X % k + 1) ∨
    ((X + 1) / k / (c - 2) = X / k / (c - 2) ∧ (X + 1) / k % (c - 2) = X / k % (c - 2) + 1 ∧ (X + 1) % k = 0) ∨
    ((X + 1) / k / (c - 2) = X / k / (c - 2) + 1 ∧ (X + 1) / k % (c - 2) = 0 ∧ (X + 1) % k = 0) := by
  obtain ⟨⟨c1, c2⟩, ⟨k1, k2⟩, r1, r2⟩ := h

  have hc : c = 4 ∨ c = 5 ∨ c = 6 ∨ c = 7 ∨ c = 8 ∨ c = 9 ∨ c = 10 := by omega
  have hk : k = 1 ∨ k = 2 ∨ k = 3 ∨ k = 4 := by omega
  rcases hc with rfl | rfl | rfl | rfl | rfl | rfl | rfl <;> rcases hk with rfl | rfl | rfl | rfl <;> omega

set_option maxRecDepth 100000 in
set_option maxHeartbeats 4000000 in
theorem walk_int (a b d x : Int) (a1 : 0 ≤ a ∧ a ≤ 255) (b1 : 0 ≤ b ∧ b ≤ 255) (d1 : 0 ≤ d ∧ d ≤ 255) (x1 : 0 ≤ x ∧ x ≤ 65535) (w : World) :
    Calls Try.prog 4 #[.int .u8 a, .int .u8 b, .int .u8 d, .int .u16 x] w fun e w' => e = .returned (.bool true) ∧ Below w.heap.size w w' := by
  have HMX : Hid (Try.prog.follows .mixedOrders = true) := by show _ = _; kernel_rfl
  have hG := fun W => good_any a b d a1 b1 d1 W
  have ho := Lay.good_ok a b d d1
  obtain ⟨c, hc⟩ : ∃ c, 4 + a % 7 = c := ⟨_, rfl⟩
  obtain ⟨k, hk⟩ : ∃ k, 1 + b % 4 = k := ⟨_, rfl⟩
  obtain ⟨r, hr⟩ : ∃ r, 1 + d = r := ⟨_, rfl⟩
  rw [hc, hk, hr] at hG ho
  obtain ⟨⟨c1, c2⟩, ⟨k1, k2⟩, r1, r2⟩ := id ho
  have hz := Lay.size_le ho
  have hN := fun W => Size_any c k r W
  rw [show Lay.sizeI c k r = r * (c - 2) * k from if_pos ho] at hN
  have n1 : 1 ≤ r * (c - 2) * k := by
    have q1 : 1 * 2 ≤ r * (c - 2) := Int.mul_le_mul (by omega) (by omega) (by omega) (by omega)
    have q2 : 2 * 1 ≤ r * (c - 2) * k := Int.mul_le_mul (by omega) (by omega) (by omega) (by omega)
    omega
  obtain ⟨n, hn⟩ : ∃ n, r * (c - 2) * k = n := ⟨_, rfl⟩
  obtain ⟨X, hX⟩ : ∃ X, x % n = X := ⟨_, rfl⟩
  rw [hn] at hz hN n1
  have eX : x.tmod n = X := by rw [Int.tmod_eq_emod_of_nonneg x1.1]; exact hX
  have X1 : 0 ≤ X := by rw [← hX]; exact Int.emod_nonneg x (by omega)
  have X2 : X < n := by rw [← hX]; exact Int.emod_lt_of_pos x (by omega)
  obtain ⟨⟨g1, g2⟩, ⟨g3, g4⟩, ⟨g5, g6⟩, g7⟩ := Lay.find_back (s := X) ho X1 (by omega)
  have hF := fun W => Find_any c k r X W
  have hF' := fun W => Find_any c k r (X + 1) W
  have okX : Lay.ok c k r ∧ 0 ≤ X ∧ X < r * (c - 2) * k := ⟨ho, X1, by omega⟩
  rw [show Lay.findA c k r X = X / k / (c - 2) from if_pos okX, show Lay.findI c k r X = X / k % (c - 2) from if_pos okX, show Lay.findO c k r X = X % k from if_pos okX, show Lay.findE c k r X = 0 by unfold Lay.findE; rw [if_pos ho, if_pos okX.2]] at hF
  have hB := fun W => Back_any c k r (X / k / (c - 2)) (X / k % (c - 2)) (X % k) W
  rw [show Lay.backN c k r (X / k / (c - 2)) (X / k % (c - 2)) (X % k) = X from (if_pos ⟨ho, ⟨g1, g2⟩, ⟨g3, g4⟩, g5, g6⟩).trans g7, ← Lay.backE_yes ho ⟨⟨g1, g2⟩, ⟨g3, g4⟩, g5, g6⟩] at hB
  have nz : ¬ n = 0 := by omega
  have nl : ¬ n < 1 := by omega
  have nx := next (X := X) ho X1
  obtain ⟨x0, x9⟩ := x1
  by_cases hl : X + 1 = n
  · have bl : (X + 1 == n) = true := by rw [beq_iff_eq]; exact hl
    have eE : Lay.findE c k r (X + 1) = 70 := by unfold Lay.findE; rw [if_pos ho, if_neg (by omega)]
    rw [eE] at hF'
    generalize X / k / (c - 2) = A at *
    generalize X / k % (c - 2) = I at *
    generalize X % k = O at *
    generalize Lay.findA c k r (X + 1) = A' at *
    generalize Lay.findI c k r (X + 1) = I' at *
    generalize Lay.findO c k r (X + 1) = O' at *
    clear hc hk hr hn hX ho okX g7 nx eE hl a1 b1 d1
    unfold geoV at *
    go_enter Try.func4, Try.ntmps4
    go_wp2_with fail
    refine (hG _).mono ?_
    rintro e w1 ⟨rfl, b⟩
    have H0 : Hid _ := start_at b c k r 23
    clear b
    obtain ⟨p0, p1, p2⟩ := H0.out.1
    go_wp2_with fail
    refine (hN _).mono ?_
    rintro e w2 ⟨rfl, b⟩
    have H1 : Hid (Shp w w2 w1.heap.size c k r) := Shp.kept H0.out b
    clear b p0 p1 p2 H0
    obtain ⟨p0, p1, p2⟩ := H1.out.1
    go_wp2_with fail
    refine (shown7_any _).mono ?_
    rintro e w3 ⟨rfl, b⟩
    have H2 : Hid (Shp w w3 w1.heap.size c k r) := Shp.kept H1.out b
    clear b p0 p1 p2 H1
    obtain ⟨p0, p1, p2⟩ := H2.out.1
    go_wp2_with fail
    refine (hF _).mono ?_
    rintro e w4 ⟨rfl, b⟩
    have H3 : Hid (Shp w w4 w1.heap.size c k r) := Shp.kept H2.out b
    clear b p0 p1 p2 H2
    obtain ⟨p0, p1, p2⟩ := H3.out.1
    go_wp2_with fail
    refine (hB _).mono ?_
    rintro e w5 ⟨rfl, b⟩
    have H4 : Hid (Shp w w5 w1.heap.size c k r) := Shp.kept H3.out b
    clear b p0 p1 p2 H3
    obtain ⟨p0, p1, p2⟩ := H4.out.1
    go_wp2_with fail
    refine (hF' _).mono ?_
    rintro e w6 ⟨rfl, b⟩
    have H5 : Hid (Shp w w6 w1.heap.size c k r) := Shp.kept H4.out b
    clear b p0 p1 p2 H4
    obtain ⟨p0, p1, p2⟩ := H5.out.1
    go_wp2
    go_ret
    exact ⟨rfl, H5.out.2⟩
  · have bl : (X + 1 == n) = false := by rw [beq_eq_false_iff_ne]; exact hl
    have okY : Lay.ok c k r ∧ 0 ≤ X + 1 ∧ X + 1 < r * (c - 2) * k := ⟨ho, by omega, by omega⟩
    rw [show Lay.findA c k r (X + 1) = (X + 1) / k / (c - 2) from if_pos okY, show Lay.findI c k r (X + 1) = (X + 1) / k % (c - 2) from if_pos okY, show Lay.findO c k r (X + 1) = (X + 1) % k from if_pos okY, show Lay.findE c k r (X + 1) = 0 by unfold Lay.findE; rw [if_pos ho, if_pos okY.2]] at hF'
    have nx := nx (by omega)
    generalize X / k / (c - 2) = A at *
    generalize X / k % (c - 2) = I at *
    generalize X % k = O at *
    have bA : (A + 1 == A) = false := by rw [beq_eq_false_iff_ne]; omega
    have bI : (I + 1 == I) = false := by rw [beq_eq_false_iff_ne]; omega
    rcases nx with ⟨e1, e2, e3⟩ | ⟨e1, e2, e3⟩ | ⟨e1, e2, e3⟩
    · rw [e1, e2, e3] at hF'
      clear e1 e2 e3 hc hk hr hn hX ho okX okY g7 hl a1 b1 d1
      unfold geoV at *
      go_enter Try.func4, Try.ntmps4
      go_wp2_with fail
      refine (hG _).mono ?_
      rintro e w1 ⟨rfl, b⟩
      have H0 : Hid _ := start_at b c k r 23
      clear b
      obtain ⟨p0, p1, p2⟩ := H0.out.1
      go_wp2_with fail
      refine (hN _).mono ?_
      rintro e w2 ⟨rfl, b⟩
      have H1 : Hid (Shp w w2 w1.heap.size c k r) := Shp.kept H0.out b
      clear b p0 p1 p2 H0
      obtain ⟨p0, p1, p2⟩ := H1.out.1
      go_wp2_with fail
      refine (shown7_any _).mono ?_
      rintro e w3 ⟨rfl, b⟩
      have H2 : Hid (Shp w w3 w1.heap.size c k r) := Shp.kept H1.out b
      clear b p0 p1 p2 H1
      obtain ⟨p0, p1, p2⟩ := H2.out.1
      go_wp2_with fail
      refine (hF _).mono ?_
      rintro e w4 ⟨rfl, b⟩
      have H3 : Hid (Shp w w4 w1.heap.size c k r) := Shp.kept H2.out b
      clear b p0 p1 p2 H2
      obtain ⟨p0, p1, p2⟩ := H3.out.1
      go_wp2_with fail
      refine (hB _).mono ?_
      rintro e w5 ⟨rfl, b⟩
      have H4 : Hid (Shp w w5 w1.heap.size c k r) := Shp.kept H3.out b
      clear b p0 p1 p2 H3
      obtain ⟨p0, p1, p2⟩ := H4.out.1
      go_wp2_with fail
      refine (hF' _).mono ?_
      rintro e w6 ⟨rfl, b⟩
      have H5 : Hid (Shp w w6 w1.heap.size c k r) := Shp.kept H4.out b
      clear b p0 p1 p2 H4
      obtain ⟨p0, p1, p2⟩ := H5.out.1
      go_wp2
      go_ret
      exact ⟨rfl, H5.out.2⟩
    · rw [e1, e2, e3] at hF'
      clear e1 e2 e3 hc hk hr hn hX ho okX okY g7 hl a1 b1 d1
      unfold geoV at *
      go_enter Try.func4, Try.ntmps4
      go_wp2_with fail
      refine (hG _).mono ?_
      rintro e w1 ⟨rfl, b⟩
      have H0 : Hid _ := start_at b c k r 23
      clear b
      obtain ⟨p0, p1, p2⟩ := H0.out.1
      go_wp2_with fail
      refine (hN _).mono ?_
      rintro e w2 ⟨rfl, b⟩
      have H1 : Hid (Shp w w2 w1.heap.size c k r) := Shp.kept H0.out b
      clear b p0 p1 p2 H0
      obtain ⟨p0, p1, p2⟩ := H1.out.1
      go_wp2_with fail
      refine (shown7_any _).mono ?_
      rintro e w3 ⟨rfl, b⟩
      have H2 : Hid (Shp w w3 w1.heap.size c k r) := Shp.kept H1.out b
      clear b p0 p1 p2 H1
      obtain ⟨p0, p1, p2⟩ := H2.out.1
      go_wp2_with fail
      refine (hF _).mono ?_
      rintro e w4 ⟨rfl, b⟩
      have H3 : Hid (Shp w w4 w1.heap.size c k r) := Shp.kept H2.out b
      clear b p0 p1 p2 H2
      obtain ⟨p0, p1, p2⟩ := H3.out.1
      go_wp2_with fail
      refine (hB _).mono ?_
      rintro e w5 ⟨rfl, b⟩
      have H4 : Hid (Shp w w5 w1.heap.size c k r) := Shp.kept H3.out b
      clear b p0 p1 p2 H3
      obtain ⟨p0, p1, p2⟩ := H4.out.1
      go_wp2_with fail
      refine (hF' _).mono ?_
      rintro e w6 ⟨rfl, b⟩
      have H5 : Hid (Shp w w6 w1.heap.size c k r) := Shp.kept H4.out b
      clear b p0 p1 p2 H4
      obtain ⟨p0, p1, p2⟩ := H5.out.1
      go_wp2
      go_ret
      exact ⟨rfl, H5.out.2⟩
    · rw [e1, e2, e3] at hF'
      clear e1 e2 e3 hc hk hr hn hX ho okX okY g7 hl a1 b1 d1
      unfold geoV at *
      go_enter Try.func4, Try.ntmps4
      go_wp2_with fail
      refine (hG _).mono ?_
      rintro e w1 ⟨rfl, b⟩
      have H0 : Hid _ := start_at b c k r 23
      clear b
      obtain ⟨p0, p1, p2⟩ := H0.out.1
      go_wp2_with fail
      refine (hN _).mono ?_
      rintro e w2 ⟨rfl, b⟩
      have H1 : Hid (Shp w w2 w1.heap.size c k r) := Shp.kept H0.out b
      clear b p0 p1 p2 H0
      obtain ⟨p0, p1, p2⟩ := H1.out.1
      go_wp2_with fail
      refine (shown7_any _).mono ?_
      rintro e w3 ⟨rfl, b⟩
      have H2 : Hid (Shp w w3 w1.heap.size c k r) := Shp.kept H1.out b
      clear b p0 p1 p2 H1
      obtain ⟨p0, p1, p2⟩ := H2.out.1
      go_wp2_with fail
      refine (hF _).mono ?_
      rintro e w4 ⟨rfl, b⟩
      have H3 : Hid (Shp w w4 w1.heap.size c k r) := Shp.kept H2.out b
      clear b p0 p1 p2 H2
      obtain ⟨p0, p1, p2⟩ := H3.out.1
      go_wp2_with fail
      refine (hB _).mono ?_
      rintro e w5 ⟨rfl, b⟩
      have H4 : Hid (Shp w w5 w1.heap.size c k r) := Shp.kept H3.out b
      clear b p0 p1 p2 H3
      obtain ⟨p0, p1, p2⟩ := H4.out.1
      go_wp2_with fail
      refine (hF' _).mono ?_
      rintro e w6 ⟨rfl, b⟩
      have H5 : Hid (Shp w w6 w1.heap.size c k r) := Shp.kept H4.out b
      clear b p0 p1 p2 H4
      obtain ⟨p0, p1, p2⟩ := H5.out.1
      go_wp2
      go_ret
      exact ⟨rfl, H5.out.2⟩
theorem walk (a : Int) (wa : (Lit.int .u8 a).wf = true) (b : Int) (wb : (Lit.int .u8 b).wf = true) (d : Int) (wd : (Lit.int .u8 d).wf = true) (x : Int) (wx : (Lit.int .u16 x).wf = true) (w : World) :
    Calls Try.prog 4 #[.int .u8 a, .int .u8 b, .int .u8 d, .int .u16 x] w fun e w' => e = .returned (.bool true) ∧ Below w.heap.size w w' :=
  walk_int a b d x (bounds_u8 wa) (bounds_u8 wb) (bounds_u8 wd) (bounds_u16 wx) w

theorem own : ownKnob Try.prog.godebug = none := by kernel_rfl
set_option linter.unusedVariables false in
set_option maxRecDepth 100000 in
theorem lifted (os : Os) (started : os.Started) (H : Type) (enc : TypeId × Value → H) :
    ReturnsInHanded {} Try.checked os 4 .any (Rows.layoutBackSpec.pre6 enc Try.prog Try.f4 Rows.layoutBackRow.domain false) (Rows.layoutBackSpec.post enc Try.prog Try.f4 false true false false) := by
  refine returnsInHanded_of_change (C := Try.checked) own started (by kernel_rfl) Try.func4
    (ChangeSpec.witness6 (enc := enc) (C := Try.checked) false ⟨#[], #[.int .u8 0, .int .u8 0, .int .u8 0, .int .u16 0], []⟩ 8 (by kernel_rfl) (by kernel_rfl) (by kernel_rfl) (by kernel_rfl)) ?_
  intro W base args ds gs before hval0 hW hcnd _
  have hval : ∀ (j : Nat) t v, Try.f4.params[j]? = some t → args[j]? = some v → Value.okWide Try.prog W .any base t v := hval0
  have hW' := hW
  obtain ⟨p, q, hA0, hV, rfl, hfz, hnd⟩ := hW
  have hA : DataW.TrodAll enc Try.prog W 0 (fun _ => true) true Try.f4.params.toList args.toList ds p := hA0
  rw [Try.params4] at hA hval
  obtain ⟨v0, vs0, d0, ds0, p0, q0, hargs, rfl, rfl, h0, r0⟩ := trodAll_cons hA
  obtain ⟨v1, vs1, d1, ds1, p1, q1, rfl, rfl, rfl, h1, r1⟩ := trodAll_cons r0
  obtain ⟨v2, vs2, d2, ds2, p2, q2, rfl, rfl, rfl, h2, r2⟩ := trodAll_cons r1
  obtain ⟨v3, vs3, d3, ds3, p3, q3, rfl, rfl, rfl, h3, r3⟩ := trodAll_cons r2
  obtain ⟨rfl, rfl, rfl⟩ := trodAll_nil r3
  obtain rfl : args = #[v0, v1, v2, v3] := by cases args; simp_all
  obtain ⟨rfl, rfl⟩ := trodVars_none hV
  obtain ⟨a0, rfl, rfl, rfl, w0⟩ := open_int Try.underlying5 (hval 0 5 v0 rfl rfl) h0
  obtain ⟨a1, rfl, rfl, rfl, w1⟩ := open_int Try.underlying5 (hval 1 5 v1 rfl rfl) h1
  obtain ⟨a2, rfl, rfl, rfl, w2⟩ := open_int Try.underlying5 (hval 2 5 v2 rfl rfl) h2
  obtain ⟨a3, rfl, rfl, rfl, w3⟩ := open_int Try.underlying37 (hval 3 37 v3 rfl rfl) h3
  clear hA0 hval0
  simp only [List.append_nil] at hW'
  refine (walk a0 w0 a1 w1 a2 w2 a3 w3 W).mono fun e W' ⟨he, hg⟩ => ?_
  subst he
  exact ⟨_, rfl, _, _, _, [], [], [], hW', trodAll_mk1 (shut_bool Try.underlying4 _), (trodAll_cons_mk (shut_int Try.underlying5 w0) (trodAll_cons_mk (shut_int Try.underlying5 w1) (trodAll_cons_mk (shut_int Try.underlying5 w2) (trodAll_cons_mk (shut_int Try.underlying37 w3) trodAll_mk0)))), rfl, hg.frame _, fun h => by cases h⟩
/-- For every input the law returns true, and each argument reads as it did. -/
theorem proved : Rows.LayoutBackSaid :=
  OpenClaim.holds_of_wide 4 Try.f4 rfl rfl rfl rfl rfl rfl rfl ⟨rfl, rfl, rfl, rfl, rfl⟩ rfl rfl rfl rfl rfl (by kernel_rfl) Try.func4 (by kernel_rfl)
    (of_decide_eq_true (by kernel_rfl)) (by unfold Func.isWrapper; first | (rw [if_pos (by decide +kernel)]; kernel_rfl) | (rw [if_neg (by decide +kernel)]; exact ⟨rfl, rfl⟩))
    (fun os started H enc _ => lifted os started H enc)
end Go.Proofs.Ytfnafoahcllakaa.layoutBack
