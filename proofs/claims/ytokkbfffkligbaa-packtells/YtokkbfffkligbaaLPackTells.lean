/- For all numbers, widths, texts, a number and a width the law PackTells returns true: any numbers, and any bytes, of any widths, are packed, and unpacked, as the document says, or are its errors (up to the law's own bound on lengths; beyond it the law says nothing). No condition. -/
import Derived.Test.YtokkbfffkligbaaRef03Dec
import Derived.ProofKit
import Derived.OpenShut
import Derived.ShutString
import Derived.ChangeOld
import Derived.Below
namespace Go.Proofs.Ytokkbfffkligbaa.packTells
open Go.ChangeShapes Go.WideShapes Go.ChangeAt Go.RowKit
open Go.ChangeMaps (open_string shut_string)

set_option maxHeartbeats 1000000 in
theorem walk_near (l : List Nat) (ws : List Int) (s : ByteArray) (n : Nat) (x : Int) (hl : l.length ≤ 100) (hw : ws.length ≤ 100) (hs : s.size ≤ 600) (hf : ∀ j, l.getD j 0 < 18446744073709551616) (hn : n < 18446744073709551616) (a b : Option Addr) (ca cb : Nat) (w : World)
    (ha : RowI .u64 w a l.length (fun j => (l.getD j 0 : Nat))) (hb : RowI .i64 w b ws.length (fun j => ws.getD j 0)) :
    Calls Try.prog 3 #[.slice a l.length ca, .slice b ws.length cb, .string s, .int .u64 n, .int .i64 x] w fun e w' => e = .returned (.bool true) ∧ Below w.heap.size w w' := by
  have h1 : ¬ (100 : Int) < (l.length : Int) := by omega
  have h2 : ¬ (100 : Int) < (ws.length : Int) := by omega
  have h3 : ¬ (600 : Int) < (s.size : Int) := by omega
  have hlm : l.length ≤ maxLen := by unfold maxLen; omega
  have hwm : ws.length ≤ maxLen := by unfold maxLen; omega
  have hsm : s.size ≤ maxLen := by unfold maxLen; omega
  have Hlm : Hid (l.length ≤ maxLen) := hlm
  have Hwm : Hid (ws.length ≤ maxLen) := hwm
  have Hsm : Hid (s.size ≤ maxLen) := hsm
  clear hlm hwm hsm
  go_enter Try.func3, Try.ntmps3
  go_wp2_with fail
  refine (shown3_any _).mono ?_
  rintro e w1 ⟨rfl, b1⟩
  go_wp2_with fail
  refine (Encode_any l ws Hlm.out Hwm.out hf a b ca cb _ (ha.below b1) (hb.below b1)).mono ?_
  rintro e w2 ⟨rfl, b2⟩
  have b12 := below2 b1 b2
  go_wp2_with fail
  refine (refEncode_any l ws Hlm.out Hwm.out hf a b ca cb _ (ha.below b12) (hb.below b12)).mono ?_
  rintro e w3 ⟨rfl, b3⟩
  have b13 := below2 b12 b3
  go_wp2_with fail
  refine (Decode_any s ws Hsm.out Hwm.out b cb _ (hb.below b13)).mono ?_
  rintro e w4 ⟨a4, c4, rfl, r4, b4⟩
  have b14 := below2 b13 b4
  go_wp2_with fail
  refine (refDecode_any s ws Hsm.out Hwm.out b cb _ (hb.below b14)).mono ?_
  rintro e w5 ⟨a5, c5, rfl, r5, b5⟩
  have b15 := below2 b14 b5
  go_wp2_with fail
  refine (Size_any ws Hwm.out b cb _ (hb.below b15)).mono ?_
  rintro e w' ⟨rfl, rfl⟩
  go_wp2_with fail
  refine (refSize_any ws Hwm.out b cb _ (hb.below b15)).mono ?_
  rintro e w' ⟨rfl, rfl⟩
  have hd : (Pk.dec s.data.toList ws).length ≤ maxLen := by
    have : (Pk.dec s.data.toList ws).length ≤ ws.length := by unfold Pk.dec; cases (Pk.okW ws && (s.data.toList.length == Pk.offs ws ws.length)) <;> simp
    exact Nat.le_trans this Hwm.out
  go_wp2_with fail
  refine (Same_any _ _ hd hd a4 a5 c4 c5 _ (r4.below b5) r5 rfl).mono ?_
  rintro e w6 ⟨rfl, b6⟩
  go_wp2_with fail
  refine (Fits_any n hn x _).mono ?_
  rintro e w' ⟨rfl, rfl⟩
  go_wp2_with fail
  refine (refFits_any n hn x _).mono ?_
  rintro e w' ⟨rfl, rfl⟩
  go_wp2
  go_ret
  exact ⟨rfl, below2 b15 b6⟩

set_option maxHeartbeats 400000 in
theorem walk_far (a b : Option Addr) (la ca lb cb : Nat) (s : ByteArray) (v v' : Value) (hla : la ≤ maxLen) (hlb : lb ≤ maxLen) (hs : s.size ≤ maxLen) (h : 100 < la ∨ 100 < lb ∨ 600 < s.size) (w : World) :
    Calls Try.prog 3 #[.slice a la ca, .slice b lb cb, .string s, v, v'] w fun e w' => e = .returned (.bool true) ∧ Below w.heap.size w w' := by
  unfold maxLen at hla hlb hs
  by_cases h1 : 100 < la
  · have h1' : (100 : Int) < (la : Int) := by omega
    clear h
    go_enter Try.func3, Try.ntmps3
    go_wp2_with fail
    refine (shown3_any _).mono ?_
    rintro e w1 ⟨rfl, b1⟩
    go_wp2
    go_ret
    exact ⟨rfl, b1⟩
  · have h1' : ¬ (100 : Int) < (la : Int) := by omega
    by_cases h2 : 100 < lb
    · have h2' : (100 : Int) < (lb : Int) := by omega
      clear h
      go_enter Try.func3, Try.ntmps3
      go_wp2_with fail
      refine (shown3_any _).mono ?_
      rintro e w1 ⟨rfl, b1⟩
      go_wp2
      go_ret
      exact ⟨rfl, b1⟩
    · have h2' : ¬ (100 : Int) < (lb : Int) := by omega
      have h3' : (600 : Int) < (s.size : Int) := by omega
      clear h
      go_enter Try.func3, Try.ntmps3
      go_wp2_with fail
      refine (shown3_any _).mono ?_
      rintro e w1 ⟨rfl, b1⟩
      go_wp2
      go_ret
      exact ⟨rfl, b1⟩

theorem walk (w : World) (a0 : Option Addr) (len0 cap0 : Nat) (z0 : List Int) (w0 : IsRow .u64 w a0 len0 cap0 z0) (a1 : Option Addr) (len1 cap1 : Nat) (z1 : List Int) (w1 : IsRow .i64 w a1 len1 cap1 z1) (a2 : ByteArray) (w2 : a2.size ≤ maxLen) (a3 : Int) (w3 : (Lit.int .u64 a3).wf = true) (a4 : Int) (_w4 : (Lit.int .i64 a4).wf = true) :
    Calls Try.prog 3 #[.slice a0 len0 cap0, .slice a1 len1 cap1, .string a2, .int .u64 a3, .int .i64 a4] w fun e w' => e = .returned (.bool true) ∧ Below w.heap.size w w' := by
  obtain ⟨l, rfl, hlm, hf, ha⟩ := w0.rowN 18446744073709551616 (by decide) (fun x hx => by have := bounds_u64 hx; omega)
  obtain ⟨ws, rfl, hwm, _, hb⟩ := w1.rowZ
  have b3 := bounds_u64 w3
  obtain ⟨n, rfl⟩ := Int.eq_ofNat_of_zero_le b3.1
  by_cases h : 100 < l.length ∨ 100 < ws.length ∨ 600 < a2.size
  · exact walk_far _ _ _ _ _ _ a2 _ _ hlm hwm w2 h w
  · exact walk_near l ws a2 n a4 (by omega) (by omega) (by omega) hf (by omega) _ _ _ _ w ha hb

theorem own : ownKnob Try.prog.godebug = none := by kernel_rfl
theorem laidOut : laidOutB Try.prog = true := by kernel_rfl
set_option linter.unusedVariables false in
set_option maxRecDepth 100000 in
theorem lifted (os : Os) (started : os.Started) (H : Type) (enc : TypeId × Value → H) :
    ReturnsInHanded {} Try.checked os 3 .any (Rows.packTellsSpec.pre6 enc Try.prog Try.f3 Rows.packTellsRow.domain false) (Rows.packTellsSpec.post enc Try.prog Try.f3 false true false false) := by
  refine returnsInHanded_of_change (C := Try.checked) own started (by kernel_rfl) Try.func3
    (ChangeSpec.witness6 (enc := enc) (C := Try.checked) false ⟨#[], #[.slice none 0 0, .slice none 0 0, .string ByteArray.empty, .int .u64 0, .int .i64 0], []⟩ 8 (by kernel_rfl) (by kernel_rfl) (by kernel_rfl) (by kernel_rfl)) ?_
  intro W base args ds gs before hval0 hW hcnd _
  have hval : ∀ (j : Nat) t v, Try.f3.params[j]? = some t → args[j]? = some v → Value.okWide Try.prog W .any base t v := hval0
  have hW' := hW
  obtain ⟨p, q, hA0, hV, rfl, hfz, hnd⟩ := hW
  have hA : DataW.TrodAll enc Try.prog W 0 (fun _ => true) true Try.f3.params.toList args.toList ds p := hA0
  rw [Try.params3] at hA hval
  obtain ⟨v0, vs0, d0, ds0, p0, q0, hargs, rfl, rfl, h0, r0⟩ := trodAll_cons hA
  obtain ⟨v1, vs1, d1, ds1, p1, q1, rfl, rfl, rfl, h1, r1⟩ := trodAll_cons r0
  obtain ⟨v2, vs2, d2, ds2, p2, q2, rfl, rfl, rfl, h2, r2⟩ := trodAll_cons r1
  obtain ⟨v3, vs3, d3, ds3, p3, q3, rfl, rfl, rfl, h3, r3⟩ := trodAll_cons r2
  obtain ⟨v4, vs4, d4, ds4, p4, q4, rfl, rfl, rfl, h4, r4⟩ := trodAll_cons r3
  obtain ⟨rfl, rfl, rfl⟩ := trodAll_nil r4
  obtain rfl : args = #[v0, v1, v2, v3, v4] := by cases args; simp_all
  obtain ⟨rfl, rfl⟩ := trodVars_none hV
  obtain ⟨a0, len0, cap0, rfl⟩ := okWide_slice Try.underlying22 (hval 0 22 v0 rfl rfl)
  have k0 := h0
  have lt0 : ∀ x ∈ p0, x.block < W.heap.size := by obtain ⟨m, hm⟩ := k0; exact DataW.trod_lt m _ _ _ hm
  obtain ⟨z0, w0⟩ : ∃ zs, IsRow .u64 W a0 len0 cap0 zs := by
    obtain ⟨fuel, hf⟩ := h0
    rcases open_ints Try.underlying22 Try.underlying24 (by kernel_rfl) hf with ⟨hcs, _⟩ | ⟨x, l, c, zs, hcs, _, hl, hm, hz, _, hcell, hwz⟩
    · simp [Value.cells] at hcs
      obtain ⟨rfl, rfl, rfl⟩ := hcs
      exact ⟨[], .inl ⟨rfl, rfl, rfl, rfl⟩⟩
    · simp [Value.cells] at hcs
      obtain ⟨rfl, rfl, rfl⟩ := hcs
      exact ⟨zs, .inr ⟨_, rfl, hl, hm, by simpa using hz, hcell, hwz⟩⟩
  obtain ⟨a1, len1, cap1, rfl⟩ := okWide_slice Try.underlying23 (hval 1 23 v1 rfl rfl)
  have k1 := h1
  have lt1 : ∀ x ∈ p1, x.block < W.heap.size := by obtain ⟨m, hm⟩ := k1; exact DataW.trod_lt m _ _ _ hm
  obtain ⟨z1, w1⟩ : ∃ zs, IsRow .i64 W a1 len1 cap1 zs := by
    obtain ⟨fuel, hf⟩ := h1
    rcases open_ints Try.underlying23 Try.underlying3 (by kernel_rfl) hf with ⟨hcs, _⟩ | ⟨x, l, c, zs, hcs, _, hl, hm, hz, _, hcell, hwz⟩
    · simp [Value.cells] at hcs
      obtain ⟨rfl, rfl, rfl⟩ := hcs
      exact ⟨[], .inl ⟨rfl, rfl, rfl, rfl⟩⟩
    · simp [Value.cells] at hcs
      obtain ⟨rfl, rfl, rfl⟩ := hcs
      exact ⟨zs, .inr ⟨_, rfl, hl, hm, by simpa using hz, hcell, hwz⟩⟩
  obtain ⟨a2, rfl, rfl, rfl, w2⟩ := open_string Try.underlying9 (hval 2 9 v2 rfl rfl) h2
  obtain ⟨a3, rfl, rfl, rfl, w3⟩ := open_int Try.underlying24 (hval 3 24 v3 rfl rfl) h3
  obtain ⟨a4, rfl, rfl, rfl, w4⟩ := open_int Try.underlying3 (hval 4 3 v4 rfl rfl) h4
  clear hA0 hval0
  simp only [List.append_nil] at hW'
  refine (walk W a0 len0 cap0 z0 w0 a1 len1 cap1 z1 w1 a2 w2 a3 w3 a4 w4).mono fun e W' ⟨he, hg⟩ => ?_
  subst he
  exact ⟨_, rfl, _, _, _, [], _, [], hW', trodAll_mk1 (shut_bool Try.underlying4 _), (trodAll_cons_mk (Below.trod laidOut (by kernel_rfl) (of_decide_eq_true (by kernel_rfl)) k0 hg lt0) (trodAll_cons_mk (Below.trod laidOut (by kernel_rfl) (of_decide_eq_true (by kernel_rfl)) k1 hg lt1) (trodAll_cons_mk (shut_string Try.underlying9 w2) (trodAll_cons_mk (shut_int Try.underlying24 w3) (trodAll_cons_mk (shut_int Try.underlying3 w4) trodAll_mk0))))), rfl, hg.frame _, fun h => by cases h⟩
/-- For every input the law returns true, and each argument reads as it did. -/
theorem proved : Rows.PackTellsSaid :=
  OpenClaim.holds_of_wide 3 Try.f3 rfl rfl rfl rfl rfl rfl rfl ⟨rfl, rfl, rfl, rfl, rfl⟩ rfl rfl rfl rfl rfl (by kernel_rfl) Try.func3 (by kernel_rfl)
    (of_decide_eq_true (by kernel_rfl)) (by unfold Func.isWrapper; first | (rw [if_pos (by decide +kernel)]; kernel_rfl) | (rw [if_neg (by decide +kernel)]; exact ⟨rfl, rfl⟩))
    (fun os started H enc _ => lifted os started H enc)
end Go.Proofs.Ytokkbfffkligbaa.packTells
