/- For every geometry that the law makes of three bytes, every row, place and role, the law RowArgs returns true: nothing is read, or written, of a row, a place or a role that is none; nor of a set that may not be. No condition. -/
import Derived.Test.YtdgkhjgnjfgnlaaGreatMRowA
import Derived.Test.YtdgkhjgnjfgnlaaGreatMRowB
import Derived.ProofKit
import Derived.OpenShut
import Derived.Below
import Derived.ChangeOld
namespace Go.Proofs.YtdgkhjgnjfgnlaaGreat.rowArgs
open Go.ChangeShapes Go.WideShapes Go.ChangeAt Go.RowKit

theorem walk (a : Int) (wa : (Lit.int .u8 a).wf = true) (b : Int) (wb : (Lit.int .u8 b).wf = true) (d : Int) (wd : (Lit.int .u8 d).wf = true) (row : Int) (_w1 : (Lit.int .i64 row).wf = true) (off : Int) (_w2 : (Lit.int .i64 off).wf = true) (role : Int) (_w3 : (Lit.int .i64 role).wf = true) (w : World) :
    Calls Tryz.prog 6 #[.int .u8 a, .int .u8 b, .int .u8 d, .int .i64 row, .int .i64 off, .int .i64 role] w fun e w' => e = .returned (.bool true) ∧ Below w.heap.size w w' := by
  obtain ⟨A, rfl, hA⟩ : ∃ N : Nat, a = (N : Int) ∧ N < 256 := by have := bounds_u8 wa; exact ⟨a.toNat, by omega, by omega⟩
  obtain ⟨B, rfl, hB⟩ : ∃ N : Nat, b = (N : Int) ∧ N < 256 := by have := bounds_u8 wb; exact ⟨b.toNat, by omega, by omega⟩
  obtain ⟨E, rfl, hE⟩ : ∃ N : Nat, d = (N : Int) ∧ N < 256 := by have := bounds_u8 wd; exact ⟨d.toNat, by omega, by omega⟩
  have hok := geo16_ok A B E
  have hg := fun W => geo16_any A B E hA hB hE W
  obtain ⟨c, hc⟩ : ∃ c, geo16c A = c := ⟨_, rfl⟩
  obtain ⟨k, hk⟩ : ∃ k, geo16k B = k := ⟨_, rfl⟩
  obtain ⟨r, hr⟩ : ∃ r, geo16r E = r := ⟨_, rfl⟩
  rw [hc, hk, hr] at hok
  rw [hc, hk, hr] at hg
  have hin : Ro.inB k r row off = (decide (0 ≤ row) && (decide (row < (r : Int)) && (decide (0 ≤ off) && decide (off < (k : Int))))) := rfl
  have hsb : Ro.secB c role = (decide (0 ≤ role) && decide (role < (c : Int) - 2)) := rfl
  have hrb : Ro.roleB c role = (decide (0 ≤ role) && decide (role < (c : Int))) := rfl
  by_cases h1 : 0 ≤ row
  case neg => exact walk_out1 A B E c k r hok hg row off role h1 ⟨by rw [hin]; simp [h1], rfl, rfl, rfl⟩ w
  by_cases h2 : row < (r : Int)
  case neg => exact walk_out2 A B E c k r hok hg row off role h1 h2 ⟨by rw [hin]; simp [h2], rfl, rfl, rfl⟩ w
  by_cases h3 : 0 ≤ off
  case neg => exact walk_out3 A B E c k r hok hg row off role h1 h2 h3 ⟨by rw [hin]; simp [h3], rfl, rfl, rfl⟩ w
  by_cases h4 : off < (k : Int)
  case neg => exact walk_out4 A B E c k r hok hg row off role h1 h2 h3 h4 ⟨by rw [hin]; simp [h4], rfl, rfl, rfl⟩ w
  have hi : Ro.inB k r row off = true := by rw [hin]; simp [h1, h2, h3, h4]
  by_cases h5 : 0 ≤ role
  case neg => exact walk_in1 A B E c k r hok hg row off role h1 h2 h3 h4 h5 ⟨hi, rfl, by rw [hsb]; simp [h5], by rw [hrb]; simp [h5]⟩ w
  by_cases h7 : role < (c : Int)
  · by_cases h6 : role < (c : Int) - 2
    · exact walk_in2 A B E c k r hok hg row off role h1 h2 h3 h4 h5 h6 h7 ⟨hi, rfl, by rw [hsb]; simp [h5, h6], by rw [hrb]; simp [h5, h7]⟩ w
    · exact walk_in3 A B E c k r hok hg row off role h1 h2 h3 h4 h5 h6 h7 ⟨hi, rfl, by rw [hsb]; simp [h6], by rw [hrb]; simp [h5, h7]⟩ w
  · have h6 : ¬ role < (c : Int) - 2 := by omega
    exact walk_in4 A B E c k r hok hg row off role h1 h2 h3 h4 h5 h6 h7 ⟨hi, rfl, by rw [hsb]; simp [h6], by rw [hrb]; simp [h7]⟩ w

theorem own : ownKnob Tryz.prog.godebug = none := by kernel_rfl
set_option linter.unusedVariables false in
set_option maxRecDepth 100000 in
theorem lifted (os : Os) (started : os.Started) (H : Type) (enc : TypeId × Value → H) :
    ReturnsInHanded {} Tryz.checked os 6 .any (Rows.rowArgsSpec.pre6 enc Tryz.prog Tryz.f6 Rows.rowArgsRow.domain false) (Rows.rowArgsSpec.post enc Tryz.prog Tryz.f6 false true false false) := by
  refine returnsInHanded_of_change (C := Tryz.checked) own started (by kernel_rfl) Tryz.func6
    (ChangeSpec.witness6 (enc := enc) (C := Tryz.checked) false ⟨#[], #[.int .u8 0, .int .u8 0, .int .u8 0, .int .i64 0, .int .i64 0, .int .i64 0], []⟩ 8 (by kernel_rfl) (by kernel_rfl) (by kernel_rfl) (by kernel_rfl)) ?_
  intro W base args ds gs before hval0 hW hcnd _
  have hval : ∀ (j : Nat) t v, Tryz.f6.params[j]? = some t → args[j]? = some v → Value.okWide Tryz.prog W .any base t v := hval0
  have hW' := hW
  obtain ⟨p, q, hA0, hV, rfl, hfz, hnd⟩ := hW
  have hA : DataW.TrodAll enc Tryz.prog W 0 (fun _ => true) true Tryz.f6.params.toList args.toList ds p := hA0
  rw [Tryz.params6] at hA hval
  obtain ⟨v0, vs0, d0, ds0, p0, q0, hargs, rfl, rfl, h0, r0⟩ := trodAll_cons hA
  obtain ⟨v1, vs1, d1, ds1, p1, q1, rfl, rfl, rfl, h1, r1⟩ := trodAll_cons r0
  obtain ⟨v2, vs2, d2, ds2, p2, q2, rfl, rfl, rfl, h2, r2⟩ := trodAll_cons r1
  obtain ⟨v3, vs3, d3, ds3, p3, q3, rfl, rfl, rfl, h3, r3⟩ := trodAll_cons r2
  obtain ⟨v4, vs4, d4, ds4, p4, q4, rfl, rfl, rfl, h4, r4⟩ := trodAll_cons r3
  obtain ⟨v5, vs5, d5, ds5, p5, q5, rfl, rfl, rfl, h5, r5⟩ := trodAll_cons r4
  obtain ⟨rfl, rfl, rfl⟩ := trodAll_nil r5
  obtain rfl : args = #[v0, v1, v2, v3, v4, v5] := by cases args; simp_all
  obtain ⟨rfl, rfl⟩ := trodVars_none hV
  obtain ⟨a0, rfl, rfl, rfl, w0⟩ := open_int Tryz.underlying5 (hval 0 5 v0 rfl rfl) h0
  obtain ⟨a1, rfl, rfl, rfl, w1⟩ := open_int Tryz.underlying5 (hval 1 5 v1 rfl rfl) h1
  obtain ⟨a2, rfl, rfl, rfl, w2⟩ := open_int Tryz.underlying5 (hval 2 5 v2 rfl rfl) h2
  obtain ⟨a3, rfl, rfl, rfl, w3⟩ := open_int Tryz.underlying3 (hval 3 3 v3 rfl rfl) h3
  obtain ⟨a4, rfl, rfl, rfl, w4⟩ := open_int Tryz.underlying3 (hval 4 3 v4 rfl rfl) h4
  obtain ⟨a5, rfl, rfl, rfl, w5⟩ := open_int Tryz.underlying3 (hval 5 3 v5 rfl rfl) h5
  clear hA0 hval0
  simp only [List.append_nil] at hW'
  refine (walk a0 w0 a1 w1 a2 w2 a3 w3 a4 w4 a5 w5 W).mono fun e W' ⟨he, hg⟩ => ?_
  subst he
  exact ⟨_, rfl, _, _, _, [], [], [], hW', trodAll_mk1 (shut_bool Tryz.underlying4 _), (trodAll_cons_mk (shut_int Tryz.underlying5 w0) (trodAll_cons_mk (shut_int Tryz.underlying5 w1) (trodAll_cons_mk (shut_int Tryz.underlying5 w2) (trodAll_cons_mk (shut_int Tryz.underlying3 w3) (trodAll_cons_mk (shut_int Tryz.underlying3 w4) (trodAll_cons_mk (shut_int Tryz.underlying3 w5) trodAll_mk0)))))), rfl, hg.frame _, fun h => by cases h⟩
/-- For every input the law returns true, and each argument reads as it did. -/
theorem proved : Rows.RowArgsSaid :=
  OpenClaim.holds_of_wide 6 Tryz.f6 rfl rfl rfl rfl rfl rfl rfl ⟨rfl, rfl, rfl, rfl, rfl⟩ rfl rfl rfl rfl rfl (by kernel_rfl) Tryz.func6 (by kernel_rfl)
    (of_decide_eq_true (by kernel_rfl)) (by unfold Func.isWrapper; first | (rw [if_pos (by decide +kernel)]; kernel_rfl) | (rw [if_neg (by decide +kernel)]; exact ⟨rfl, rfl⟩))
    (fun os started H enc _ => lifted os started H enc)
end Go.Proofs.YtdgkhjgnjfgnlaaGreat.rowArgs
