/- For all columns and places the law RefillTells returns true: Fill, Make and May of any row, of which any columns are lost, are the document's (up to the law's own bound on lengths; beyond it the law says nothing). No condition. -/
import Derived.Test.YtjephdeolifbpaaRf06
import Derived.ProofKit
import Derived.OpenShut
import Derived.ShutString
import Derived.ChangeOld
import Derived.Below
namespace Go.Proofs.Ytjephdeolifbpaa.refillTells
open Go.ChangeShapes Go.WideShapes Go.ChangeAt Go.RowKit
open Go.ChangeMaps (open_string shut_string)

set_option maxRecDepth 100000 in
set_option maxHeartbeats 4000000 in
theorem walk (w : World) (a0 : Option Addr) (len0 cap0 : Nat) (z0 : List ByteArray) (w0 : IsStrs w a0 len0 cap0 z0) (a1 : Option Addr) (len1 cap1 : Nat) (z1 : List Int) (w1 : IsRow .i64 w a1 len1 cap1 z1) :
    Calls Try.prog 3 #[.slice a0 len0 cap0, .slice a1 len1 cap1] w fun e w' => e = .returned (.bool true) ∧ Below w.heap.size w w' := by
  obtain ⟨f, hm, hcap, hsz, hr⟩ := w0.open6
  obtain ⟨L, hm1, hcap1, _, hl⟩ := w1.open6
  have HY := heavy6_any w a0 len0 cap0 f hr hsz hm a1 len1 cap1 hm1
  clear w0 w1 hsz hm hm1
  go_enter Try.func3, Try.ntmps3
  go_wp2_with fail
  refine HY.mono ?_
  rintro e w' ⟨hw, h⟩
  subst w'
  clear HY
  rcases h with rfl | ⟨rfl, hL⟩
  · go_wp2_with fail
    refine (shown6_any _).mono ?_
    rintro e w1 ⟨rfl, b1⟩
    go_wp2
    go_ret
    exact ⟨rfl, b1⟩
  · have hn20 := hL.1
    have hl20 := hL.2.1
    have HF : Hid (Fits 1048576 len0 f) := hL.fits
    have HR : Hid (RowS w a0 len0 f) := hr
    have HL : Hid (RowI .i64 w a1 len1 L) := hl
    clear hL hr hl
    go_wp2_with fail
    refine (shown6_any _).mono ?_
    rintro e w1 ⟨rfl, b1⟩
    have h2 := Fill_says len0 f (by omega) HF.out a0 cap0 hcap len1 L (by omega) a1 cap1 hcap1 w1 (HR.out.below b1) (HL.out.below b1)
    unfold FillSays at h2
    obtain ⟨x, hx⟩ : ∃ x, Rf.mayF len0 f len1 L = x := ⟨_, rfl⟩
    have HX : Hid (Rf.mayF len0 f len1 L = x) := hx
    rw [hx] at h2
    go_wp2_with fail
    refine h2.mono ?_
    rintro e w2 ⟨⟨g2, c2, rfl, r2, _⟩, b2⟩
    have b2 := below2 b1 b2
    have h3 := refFill_says len0 f (by omega) HF.out a0 cap0 len1 L (by omega) a1 cap1 hcap1 w2 (HR.out.below b2) (HL.out.below b2)
    unfold FillSays at h3
    rw [hx] at h3
    go_wp2_with fail
    refine h3.mono ?_
    rintro e w3 ⟨⟨g3, c3, rfl, r3, _⟩, b3'⟩
    have r2 := r2.below b3'
    have b3 := below2 b2 b3'
    have h4 := Make_says len0 f (by omega) HF.out a0 cap0 hcap w3 (HR.out.below b3)
    unfold MakeSays at h4
    obtain ⟨y, hy⟩ : ∃ y, Rf.mayF (len0 + 2) (ownRow len0 f) 0 (fun _ => 0) = y := ⟨_, rfl⟩
    rw [hy] at h4
    go_wp2_with fail
    refine h4.mono ?_
    rintro e w4 ⟨⟨g4, c4, rfl, r4, _⟩, b4'⟩
    have r2 := r2.below b4'
    have r3 := r3.below b4'
    have b4 := below2 b3 b4'
    have h5 := refMake_says len0 f (by omega) HF.out a0 cap0 w4 (HR.out.below b4)
    unfold MakeSays at h5
    rw [hy] at h5
    go_wp2_with fail
    refine h5.mono ?_
    rintro e w5 ⟨⟨g5, c5, rfl, r5, _⟩, b5'⟩
    have r2 := r2.below b5'
    have r3 := r3.below b5'
    have r4 := r4.below b5'
    have b5 := below2 b4 b5'
    have k1 := Rf.kF_le len0 x
    have k2 := Rf.kF_le (len0 + 2) y
    have h6 := Same_any (Rf.kF len0 x) (Rf.kF len0 x) _ _ (by omega) (by omega) g2 g3 c2 c3 w5 r2 r3
    rw [Rf.sameB_yes fun _ _ => rfl] at h6
    have R4 : Hid (RowS w5 g4 (Rf.kF (len0 + 2) y) (ownRow len0 f)) := r4
    have R5 : Hid (RowS w5 g5 (Rf.kF (len0 + 2) y) (ownRow len0 f)) := r5
    obtain ⟨u, hu⟩ : ∃ u, Rf.kF len0 x = u := ⟨_, rfl⟩
    obtain ⟨v, hv⟩ : ∃ v, Rf.kF (len0 + 2) y = v := ⟨_, rfl⟩
    rw [hu] at h6 k1
    rw [hv] at k2 R4 R5
    rw [hu, hv]
    clear r2 r3 r4 r5 b1 b2 b3 b3' b4 b4' b5' h2 h3 h4 h5 hx hy hu hv
    go_wp2_with fail
    refine h6.mono ?_
    rintro e w6 ⟨rfl, b6⟩
    have h7 := Same_any v v _ _ (by omega) (by omega) g4 g5 c4 c5 w6 (R4.out.below b6) (R5.out.below b6)
    rw [Rf.sameB_yes fun _ _ => rfl] at h7
    have b6 := below2 b5 b6
    go_wp2_with fail
    refine h7.mono ?_
    rintro e w7 ⟨rfl, b7⟩
    have b7 := below2 b6 b7
    have h8 := pMay_any len0 f (by omega) HF.out a0 cap0 hcap len1 L (by omega) a1 cap1 hcap1 w7 (HR.out.below b7) (HL.out.below b7)
    rw [HX.out] at h8
    go_wp2_with fail
    refine h8.mono ?_
    rintro e w8 ⟨rfl, b8⟩
    have b8 := below2 b7 b8
    have h9 := May_any len0 f (by omega) HF.out a0 cap0 len1 L (by omega) a1 cap1 hcap1 w8 (HR.out.below b8) (HL.out.below b8)
    rw [HX.out] at h9
    go_wp2_with fail
    refine h9.mono ?_
    rintro e w9 ⟨rfl, b9⟩
    have HB : Hid (Below w.heap.size w w9) := below2 b8 b9
    clear b5 b6 b7 b8 b9 h6 h7 h8 h9
    go_wp2
    go_ret
    exact ⟨rfl, HB.out⟩

theorem own : ownKnob Try.prog.godebug = none := by kernel_rfl
theorem laidOut : laidOutB Try.prog = true := by kernel_rfl
set_option linter.unusedVariables false in
set_option maxRecDepth 100000 in
theorem lifted (os : Os) (started : os.Started) (H : Type) (enc : TypeId × Value → H) :
    ReturnsInHanded {} Try.checked os 3 .any (Rows.refillTellsSpec.pre6 enc Try.prog Try.f3 Rows.refillTellsRow.domain false) (Rows.refillTellsSpec.post enc Try.prog Try.f3 false true false false) := by
  refine returnsInHanded_of_change (C := Try.checked) own started (by kernel_rfl) Try.func3
    (ChangeSpec.witness6 (enc := enc) (C := Try.checked) false ⟨#[], #[.slice none 0 0, .slice none 0 0], []⟩ 8 (by kernel_rfl) (by kernel_rfl) (by kernel_rfl) (by kernel_rfl)) ?_
  intro W base args ds gs before hval0 hW hcnd _
  have hval : ∀ (j : Nat) t v, Try.f3.params[j]? = some t → args[j]? = some v → Value.okWide Try.prog W .any base t v := hval0
  have hW' := hW
  obtain ⟨p, q, hA0, hV, rfl, hfz, hnd⟩ := hW
  have hA : DataW.TrodAll enc Try.prog W 0 (fun _ => true) true Try.f3.params.toList args.toList ds p := hA0
  rw [Try.params3] at hA hval
  obtain ⟨v0, vs0, d0, ds0, p0, q0, hargs, rfl, rfl, h0, r0⟩ := trodAll_cons hA
  obtain ⟨v1, vs1, d1, ds1, p1, q1, rfl, rfl, rfl, h1, r1⟩ := trodAll_cons r0
  obtain ⟨rfl, rfl, rfl⟩ := trodAll_nil r1
  obtain rfl : args = #[v0, v1] := by cases args; simp_all
  obtain ⟨rfl, rfl⟩ := trodVars_none hV
  obtain ⟨a0, len0, cap0, rfl⟩ := okWide_slice Try.underlying22 (hval 0 22 v0 rfl rfl)
  have k0 := h0
  have lt0 : ∀ x ∈ p0, x.block < W.heap.size := by obtain ⟨m, hm⟩ := k0; exact DataW.trod_lt m _ _ _ hm
  obtain ⟨z0, w0⟩ : ∃ zs, IsStrs W a0 len0 cap0 zs := by
    obtain ⟨fuel, hf⟩ := h0
    rcases open_strings Try.underlying22 Try.underlying9 (by kernel_rfl) hf with ⟨hcs, _⟩ | ⟨x, l, c, zs, hcs, _, hl, hm, hz, _, hcell, hwz⟩
    · simp [Value.cells] at hcs
      obtain ⟨rfl, rfl, rfl⟩ := hcs
      exact ⟨[], .inl ⟨rfl, rfl, rfl, rfl⟩⟩
    · simp [Value.cells] at hcs
      obtain ⟨rfl, rfl, rfl⟩ := hcs
      exact ⟨zs, .inr ⟨_, rfl, hl, hm, by simpa using hz, hcell, hwz⟩⟩
  obtain ⟨a1, len1, cap1, rfl⟩ := okWide_slice Try.underlying23 (hval 1 23 v1 rfl rfl)
  have k1 := h1
  have lt1 : ∀ x ∈ p1, x.block < W.heap.size := by obtain ⟨m, hm⟩ := k1; exact DataW.trod_lt m _ _ _ hm
  obtain ⟨z1, w1⟩ : ∃ zs, IsRow .i64 W a1 len1 cap1 zs := by
    obtain ⟨fuel, hf⟩ := h1
    rcases open_ints Try.underlying23 Try.underlying3 (by kernel_rfl) hf with ⟨hcs, _⟩ | ⟨x, l, c, zs, hcs, _, hl, hm, hz, _, hcell, hwz⟩
    · simp [Value.cells] at hcs
      obtain ⟨rfl, rfl, rfl⟩ := hcs
      exact ⟨[], .inl ⟨rfl, rfl, rfl, rfl⟩⟩
    · simp [Value.cells] at hcs
      obtain ⟨rfl, rfl, rfl⟩ := hcs
      exact ⟨zs, .inr ⟨_, rfl, hl, hm, by simpa using hz, hcell, hwz⟩⟩
  clear hA0 hval0
  simp only [List.append_nil] at hW'
  refine (walk W a0 len0 cap0 z0 w0 a1 len1 cap1 z1 w1).mono fun e W' ⟨he, hg⟩ => ?_
  subst he
  exact ⟨_, rfl, _, _, _, [], _, [], hW', trodAll_mk1 (shut_bool Try.underlying4 _), (trodAll_cons_mk (Below.trod laidOut (by kernel_rfl) (of_decide_eq_true (by kernel_rfl)) k0 hg lt0) (trodAll_cons_mk (Below.trod laidOut (by kernel_rfl) (of_decide_eq_true (by kernel_rfl)) k1 hg lt1) trodAll_mk0)), rfl, hg.frame _, fun h => by cases h⟩
/-- For every input the law returns true, and each argument reads as it did. -/
theorem proved : Rows.RefillTellsSaid :=
  OpenClaim.holds_of_wide 3 Try.f3 rfl rfl rfl rfl rfl rfl rfl ⟨rfl, rfl, rfl, rfl, rfl⟩ rfl rfl rfl rfl rfl (by kernel_rfl) Try.func3 (by kernel_rfl)
    (of_decide_eq_true (by kernel_rfl)) (by unfold Func.isWrapper; first | (rw [if_pos (by decide +kernel)]; kernel_rfl) | (rw [if_neg (by decide +kernel)]; exact ⟨rfl, rfl⟩))
    (fun os started H enc _ => lifted os started H enc)
end Go.Proofs.Ytjephdeolifbpaa.refillTells
