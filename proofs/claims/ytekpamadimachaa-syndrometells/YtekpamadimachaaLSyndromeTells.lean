/- For all columns, two texts and a place the law SyndromeTells returns true: P, Q, Delta, Sum and Good of any columns are the document's (up to the law's own bound on lengths; beyond it the law says nothing). No condition. -/
import Derived.Test.YtekpamadimachaaSyn05
import Derived.ProofKit
import Derived.OpenShut
import Derived.ShutString
import Derived.ChangeOld
import Derived.Below
namespace Go.Proofs.Ytekpamadimachaa.syndromeTells
open Go.ChangeShapes Go.WideShapes Go.ChangeAt Go.RowKit
open Go.ChangeMaps (open_string shut_string)

set_option maxRecDepth 100000 in
set_option maxHeartbeats 2000000 in
theorem walk (w : World) (a0 : Option Addr) (len0 cap0 : Nat) (z0 : List ByteArray) (w0 : IsStrs w a0 len0 cap0 z0) (a1 : ByteArray) (w1 : a1.size ≤ maxLen) (a2 : ByteArray) (w2 : a2.size ≤ maxLen) (a3 : Int) (_w3 : (Lit.int .i64 a3).wf = true) :
    Calls Try.prog 3 #[.slice a0 len0 cap0, .string a1, .string a2, .int .i64 a3] w fun e w' => e = .returned (.bool true) ∧ Below w.heap.size w w' := by
  obtain ⟨f, hm, hcap, hsz, hr⟩ := w0.open5
  have HY := heavy5_any w a0 len0 cap0 f hr hsz hm
  unfold maxLen at w1 w2
  clear w0 hsz hm
  go_enter Try.func3, Try.ntmps3
  go_wp2_with fail
  refine HY.mono ?_
  rintro e w' ⟨hw, h⟩
  subst w'
  clear HY
  rcases h with rfl | ⟨rfl, hL⟩
  · go_wp2_with fail
    refine (shown5_any _).mono ?_
    rintro e w1 ⟨rfl, b1⟩
    go_wp2
    go_ret
    exact ⟨rfl, b1⟩
  · by_cases h1 : (200 : Int) < (a1.size : Int)
    · go_wp2_with fail
      refine (shown5_any _).mono ?_
      rintro e w1 ⟨rfl, b1⟩
      go_wp2
      go_ret
      exact ⟨rfl, b1⟩
    · by_cases h2 : (200 : Int) < (a2.size : Int)
      · go_wp2_with fail
        refine (shown5_any _).mono ?_
        rintro e w1 ⟨rfl, b1⟩
        go_wp2
        go_ret
        exact ⟨rfl, b1⟩
      · have hs1 : a1.size ≤ 1048576 := by omega
        have hs2 : a2.size ≤ 1048576 := by omega
        have Hn := hL.le
        have HF : Hid (Fits 1048576 len0 f) := hL.fits
        have HR : Hid (RowS w a0 len0 f) := hr
        clear hL hr
        go_wp2_with fail
        refine (shown5_any _).mono ?_
        rintro e w1 ⟨rfl, b1⟩
        go_wp2_with fail
        refine (Delta_any a1 a2 a3 hs1 hs2 _).mono ?_
        rintro e w2 ⟨rfl, b2⟩
        have b2 := below2 b1 b2
        go_wp2_with fail
        refine (refDelta_any a1 a2 a3 hs1 hs2 _).mono ?_
        rintro e w3 ⟨rfl, b3⟩
        have b3 := below2 b2 b3
        go_wp2_with fail
        refine (Sum_any len0 f Hn HF.out a0 cap0 hcap _ (HR.out.below b3)).mono ?_
        rintro e w4 ⟨rfl, b4⟩
        have b4 := below2 b3 b4
        go_wp2_with fail
        refine (refSum_any len0 f Hn HF.out a0 cap0 hcap _ (HR.out.below b4)).mono ?_
        rintro e w5 ⟨rfl, b5⟩
        have b5 := below2 b4 b5
        clear b1 b2 b3 b4
        go_wp2_with fail
        refine (P_any len0 f Hn HF.out a0 cap0 _ (HR.out.below b5)).mono ?_
        rintro e w6 ⟨rfl, b6⟩
        have b6 := below2 b5 b6
        go_wp2_with fail
        refine (refP_any len0 f Hn HF.out a0 cap0 _ (HR.out.below b6)).mono ?_
        rintro e w7 ⟨rfl, b7⟩
        have b7 := below2 b6 b7
        go_wp2_with fail
        refine (Q_any len0 f Hn HF.out a0 cap0 _ (HR.out.below b7)).mono ?_
        rintro e w8 ⟨rfl, b8⟩
        have b8 := below2 b7 b8
        go_wp2_with fail
        refine (refQ_any len0 f Hn HF.out a0 cap0 _ (HR.out.below b8)).mono ?_
        rintro e w9 ⟨rfl, b9⟩
        have b9 := below2 b8 b9
        clear b5 b6 b7 b8
        go_wp2_with fail
        refine (Good_any len0 f Hn HF.out a0 cap0 hcap _ (HR.out.below b9)).mono ?_
        rintro e w10 ⟨rfl, b10⟩
        have b10 := below2 b9 b10
        go_wp2_with fail
        refine (refGood_any len0 f Hn HF.out a0 cap0 hcap _ (HR.out.below b10)).mono ?_
        rintro e w11 ⟨rfl, b11⟩
        have HB : Hid (Below w.heap.size w w11) := below2 b10 b11
        clear b9 b10 b11
        go_wp2
        go_ret
        exact ⟨rfl, HB.out⟩

theorem own : ownKnob Try.prog.godebug = none := by kernel_rfl
theorem laidOut : laidOutB Try.prog = true := by kernel_rfl
set_option linter.unusedVariables false in
set_option maxRecDepth 100000 in
theorem lifted (os : Os) (started : os.Started) (H : Type) (enc : TypeId × Value → H) :
    ReturnsInHanded {} Try.checked os 3 .any (Rows.syndromeTellsSpec.pre6 enc Try.prog Try.f3 Rows.syndromeTellsRow.domain false) (Rows.syndromeTellsSpec.post enc Try.prog Try.f3 false true false false) := by
  refine returnsInHanded_of_change (C := Try.checked) own started (by kernel_rfl) Try.func3
    (ChangeSpec.witness6 (enc := enc) (C := Try.checked) false ⟨#[], #[.slice none 0 0, .string ByteArray.empty, .string ByteArray.empty, .int .i64 0], []⟩ 8 (by kernel_rfl) (by kernel_rfl) (by kernel_rfl) (by kernel_rfl)) ?_
  intro W base args ds gs before hval0 hW hcnd _
  have hval : ∀ (j : Nat) t v, Try.f3.params[j]? = some t → args[j]? = some v → Value.okWide Try.prog W .any base t v := hval0
  have hW' := hW
  obtain ⟨p, q, hA0, hV, rfl, hfz, hnd⟩ := hW
  have hA : DataW.TrodAll enc Try.prog W 0 (fun _ => true) true Try.f3.params.toList args.toList ds p := hA0
  rw [Try.params3] at hA hval
  obtain ⟨v0, vs0, d0, ds0, p0, q0, hargs, rfl, rfl, h0, r0⟩ := trodAll_cons hA
  obtain ⟨v1, vs1, d1, ds1, p1, q1, rfl, rfl, rfl, h1, r1⟩ := trodAll_cons r0
  obtain ⟨v2, vs2, d2, ds2, p2, q2, rfl, rfl, rfl, h2, r2⟩ := trodAll_cons r1
  obtain ⟨v3, vs3, d3, ds3, p3, q3, rfl, rfl, rfl, h3, r3⟩ := trodAll_cons r2
  obtain ⟨rfl, rfl, rfl⟩ := trodAll_nil r3
  obtain rfl : args = #[v0, v1, v2, v3] := by cases args; simp_all
  obtain ⟨rfl, rfl⟩ := trodVars_none hV
  obtain ⟨a0, len0, cap0, rfl⟩ := okWide_slice Try.underlying22 (hval 0 22 v0 rfl rfl)
  have k0 := h0
  have lt0 : ∀ x ∈ p0, x.block < W.heap.size := by obtain ⟨m, hm⟩ := k0; exact DataW.trod_lt m _ _ _ hm
  obtain ⟨z0, w0⟩ : ∃ zs, IsStrs W a0 len0 cap0 zs := by
    obtain ⟨fuel, hf⟩ := h0
    rcases open_strings Try.underlying22 Try.underlying9 (by kernel_rfl) hf with ⟨hcs, _⟩ | ⟨x, l, c, zs, hcs, _, hl, hm, hz, _, hcell, hwz⟩
    · simp [Value.cells] at hcs
      obtain ⟨rfl, rfl, rfl⟩ := hcs
      exact ⟨[], .inl ⟨rfl, rfl, rfl, rfl⟩⟩
    · simp [Value.cells] at hcs
      obtain ⟨rfl, rfl, rfl⟩ := hcs
      exact ⟨zs, .inr ⟨_, rfl, hl, hm, by simpa using hz, hcell, hwz⟩⟩
  obtain ⟨a1, rfl, rfl, rfl, w1⟩ := open_string Try.underlying9 (hval 1 9 v1 rfl rfl) h1
  obtain ⟨a2, rfl, rfl, rfl, w2⟩ := open_string Try.underlying9 (hval 2 9 v2 rfl rfl) h2
  obtain ⟨a3, rfl, rfl, rfl, w3⟩ := open_int Try.underlying3 (hval 3 3 v3 rfl rfl) h3
  clear hA0 hval0
  simp only [List.append_nil] at hW'
  refine (walk W a0 len0 cap0 z0 w0 a1 w1 a2 w2 a3 w3).mono fun e W' ⟨he, hg⟩ => ?_
  subst he
  exact ⟨_, rfl, _, _, _, [], _, [], hW', trodAll_mk1 (shut_bool Try.underlying4 _), (trodAll_cons_mk (Below.trod laidOut (by kernel_rfl) (of_decide_eq_true (by kernel_rfl)) k0 hg lt0) (trodAll_cons_mk (shut_string Try.underlying9 w1) (trodAll_cons_mk (shut_string Try.underlying9 w2) (trodAll_cons_mk (shut_int Try.underlying3 w3) trodAll_mk0)))), rfl, hg.frame _, fun h => by cases h⟩
/-- For every input the law returns true, and each argument reads as it did. -/
theorem proved : Rows.SyndromeTellsSaid :=
  OpenClaim.holds_of_wide 3 Try.f3 rfl rfl rfl rfl rfl rfl rfl ⟨rfl, rfl, rfl, rfl, rfl⟩ rfl rfl rfl rfl rfl (by kernel_rfl) Try.func3 (by kernel_rfl)
    (of_decide_eq_true (by kernel_rfl)) (by unfold Func.isWrapper; first | (rw [if_pos (by decide +kernel)]; kernel_rfl) | (rw [if_neg (by decide +kernel)]; exact ⟨rfl, rfl⟩))
    (fun os started H enc _ => lifted os started H enc)
end Go.Proofs.Ytekpamadimachaa.syndromeTells
