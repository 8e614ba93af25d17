/- For every number, text and size the law CrcTells returns true: the sum of any bytes, behind any other one, is the document's; so is what is sealed, and opened (up to the law's own bound on lengths; beyond it the law says nothing). No condition. -/
import Derived.Test.YtphhgebalkaghaaRef02Open
import Derived.ProofKit
import Derived.OpenShut
import Derived.ShutString
namespace Go.Proofs.Ytphhgebalkaghaa.crcTells
open Go.ChangeShapes Go.WideShapes Go.ChangeAt Go.RowKit
open Go.ChangeMaps (open_string shut_string)

set_option maxHeartbeats 1000000 in
theorem walk_y_y (n : Nat) (s : ByteArray) (k : Nat) (h4 : 4 ≤ k) (hk : k ≤ 4096) (h5 : s.size ≤ k - 4) (hn : n < 4294967296) (hs : s.size ≤ 4096) (ho : Crc.opens s.data.toList = true) (w : World) :
    Calls Try.prog 10 #[.int .u32 n, .string s, .int .i64 k] w fun e w' => e = .returned (.bool true) ∧ Below w.heap.size w w' := by
  have hlt : ¬ (4096 : Int) < (s.size : Int) := by omega
  have Ho : Hid (Crc.opens s.data.toList = true) := ho
  clear ho
  go_enter Try.func10, Try.ntmps10
  go_wp2_with fail
  refine (shown2_any _).mono ?_
  rintro e w1 ⟨rfl, hb1⟩
  go_wp2_with fail
  refine (Seal_yes s k h4 (by omega) h5 _).mono ?_
  rintro e w2 ⟨rfl, hb2⟩
  go_wp2_with fail
  refine (refSeal_yes s k h4 (by omega) h5 _).mono ?_
  rintro e w3 ⟨rfl, hb3⟩
  go_wp2_with fail
  refine (Open_yes s (by omega) Ho.out _).mono ?_
  rintro e w4 ⟨rfl, hb4⟩
  go_wp2_with fail
  refine (refOpen_yes s (by omega) Ho.out _).mono ?_
  rintro e w5 ⟨rfl, hb5⟩
  go_wp2_with fail
  refine (More_any n s hn (by unfold maxLen; omega) _).mono ?_
  rintro e w6 ⟨rfl, hb6⟩
  go_wp2_with fail
  refine (refMore_any n s hn (by unfold maxLen; omega) _).mono ?_
  rintro e w' ⟨rfl, rfl⟩
  go_wp2_with fail
  refine (Sum_any s (by unfold maxLen; omega) _).mono ?_
  rintro e w7 ⟨rfl, hb7⟩
  go_wp2_with fail
  refine (refSum_any s (by unfold maxLen; omega) _).mono ?_
  rintro e w' ⟨rfl, rfl⟩
  go_wp2
  go_ret
  exact ⟨rfl, below2 (below4 hb1 hb2 hb3 hb4) (below2 hb5 (below2 hb6 hb7))⟩

set_option maxHeartbeats 1000000 in
theorem walk_y_n (n : Nat) (s : ByteArray) (k : Nat) (h4 : 4 ≤ k) (hk : k ≤ 4096) (h5 : s.size ≤ k - 4) (hn : n < 4294967296) (hs : s.size ≤ 4096) (ho : Crc.opens s.data.toList = false) (w : World) :
    Calls Try.prog 10 #[.int .u32 n, .string s, .int .i64 k] w fun e w' => e = .returned (.bool true) ∧ Below w.heap.size w w' := by
  have hlt : ¬ (4096 : Int) < (s.size : Int) := by omega
  have Ho : Hid (Crc.opens s.data.toList = false) := ho
  clear ho
  go_enter Try.func10, Try.ntmps10
  go_wp2_with fail
  refine (shown2_any _).mono ?_
  rintro e w1 ⟨rfl, hb1⟩
  go_wp2_with fail
  refine (Seal_yes s k h4 (by omega) h5 _).mono ?_
  rintro e w2 ⟨rfl, hb2⟩
  go_wp2_with fail
  refine (refSeal_yes s k h4 (by omega) h5 _).mono ?_
  rintro e w3 ⟨rfl, hb3⟩
  go_wp2_with fail
  refine (Open_no s (by omega) Ho.out _).mono ?_
  rintro e w4 ⟨rfl, hb4⟩
  go_wp2_with fail
  refine (refOpen_no s (by omega) Ho.out _).mono ?_
  rintro e w5 ⟨rfl, hb5⟩
  go_wp2_with fail
  refine (More_any n s hn (by unfold maxLen; omega) _).mono ?_
  rintro e w6 ⟨rfl, hb6⟩
  go_wp2_with fail
  refine (refMore_any n s hn (by unfold maxLen; omega) _).mono ?_
  rintro e w' ⟨rfl, rfl⟩
  go_wp2_with fail
  refine (Sum_any s (by unfold maxLen; omega) _).mono ?_
  rintro e w7 ⟨rfl, hb7⟩
  go_wp2_with fail
  refine (refSum_any s (by unfold maxLen; omega) _).mono ?_
  rintro e w' ⟨rfl, rfl⟩
  go_wp2
  go_ret
  exact ⟨rfl, below2 (below4 hb1 hb2 hb3 hb4) (below2 hb5 (below2 hb6 hb7))⟩

set_option maxHeartbeats 1000000 in
theorem walk_n_y (n : Nat) (s : ByteArray) (m : Int) (h0 : -9223372036854775808 ≤ m) (h9 : m ≤ 9223372036854775807) (hno : m < 4 ∨ 4096 < m ∨ m - 4 < (s.size : Int)) (hn : n < 4294967296) (hs : s.size ≤ 4096) (ho : Crc.opens s.data.toList = true) (w : World) :
    Calls Try.prog 10 #[.int .u32 n, .string s, .int .i64 m] w fun e w' => e = .returned (.bool true) ∧ Below w.heap.size w w' := by
  have hlt : ¬ (4096 : Int) < (s.size : Int) := by omega
  have Hno : Hid (m < 4 ∨ 4096 < m ∨ m - 4 < (s.size : Int)) := hno
  clear hno
  have Ho : Hid (Crc.opens s.data.toList = true) := ho
  clear ho
  go_enter Try.func10, Try.ntmps10
  go_wp2_with fail
  refine (shown2_any _).mono ?_
  rintro e w1 ⟨rfl, hb1⟩
  go_wp2_with fail
  refine (Seal_no s m h0 h9 Hno.out _).mono ?_
  rintro e w2 ⟨rfl, hb2⟩
  obtain rfl := hb2
  go_wp2_with fail
  refine (refSeal_no s m h0 h9 Hno.out _).mono ?_
  rintro e w3 ⟨rfl, hb3⟩
  obtain rfl := hb3
  go_wp2_with fail
  refine (Open_yes s (by omega) Ho.out _).mono ?_
  rintro e w4 ⟨rfl, hb4⟩
  go_wp2_with fail
  refine (refOpen_yes s (by omega) Ho.out _).mono ?_
  rintro e w5 ⟨rfl, hb5⟩
  go_wp2_with fail
  refine (More_any n s hn (by unfold maxLen; omega) _).mono ?_
  rintro e w6 ⟨rfl, hb6⟩
  go_wp2_with fail
  refine (refMore_any n s hn (by unfold maxLen; omega) _).mono ?_
  rintro e w' ⟨rfl, rfl⟩
  go_wp2_with fail
  refine (Sum_any s (by unfold maxLen; omega) _).mono ?_
  rintro e w7 ⟨rfl, hb7⟩
  go_wp2_with fail
  refine (refSum_any s (by unfold maxLen; omega) _).mono ?_
  rintro e w' ⟨rfl, rfl⟩
  go_wp2
  go_ret
  exact ⟨rfl, below2 (below2 hb1 hb4) (below2 hb5 (below2 hb6 hb7))⟩

set_option maxHeartbeats 1000000 in
theorem walk_n_n (n : Nat) (s : ByteArray) (m : Int) (h0 : -9223372036854775808 ≤ m) (h9 : m ≤ 9223372036854775807) (hno : m < 4 ∨ 4096 < m ∨ m - 4 < (s.size : Int)) (hn : n < 4294967296) (hs : s.size ≤ 4096) (ho : Crc.opens s.data.toList = false) (w : World) :
    Calls Try.prog 10 #[.int .u32 n, .string s, .int .i64 m] w fun e w' => e = .returned (.bool true) ∧ Below w.heap.size w w' := by
  have hlt : ¬ (4096 : Int) < (s.size : Int) := by omega
  have Hno : Hid (m < 4 ∨ 4096 < m ∨ m - 4 < (s.size : Int)) := hno
  clear hno
  have Ho : Hid (Crc.opens s.data.toList = false) := ho
  clear ho
  go_enter Try.func10, Try.ntmps10
  go_wp2_with fail
  refine (shown2_any _).mono ?_
  rintro e w1 ⟨rfl, hb1⟩
  go_wp2_with fail
  refine (Seal_no s m h0 h9 Hno.out _).mono ?_
  rintro e w2 ⟨rfl, hb2⟩
  obtain rfl := hb2
  go_wp2_with fail
  refine (refSeal_no s m h0 h9 Hno.out _).mono ?_
  rintro e w3 ⟨rfl, hb3⟩
  obtain rfl := hb3
  go_wp2_with fail
  refine (Open_no s (by omega) Ho.out _).mono ?_
  rintro e w4 ⟨rfl, hb4⟩
  go_wp2_with fail
  refine (refOpen_no s (by omega) Ho.out _).mono ?_
  rintro e w5 ⟨rfl, hb5⟩
  go_wp2_with fail
  refine (More_any n s hn (by unfold maxLen; omega) _).mono ?_
  rintro e w6 ⟨rfl, hb6⟩
  go_wp2_with fail
  refine (refMore_any n s hn (by unfold maxLen; omega) _).mono ?_
  rintro e w' ⟨rfl, rfl⟩
  go_wp2_with fail
  refine (Sum_any s (by unfold maxLen; omega) _).mono ?_
  rintro e w7 ⟨rfl, hb7⟩
  go_wp2_with fail
  refine (refSum_any s (by unfold maxLen; omega) _).mono ?_
  rintro e w' ⟨rfl, rfl⟩
  go_wp2
  go_ret
  exact ⟨rfl, below2 (below2 hb1 hb4) (below2 hb5 (below2 hb6 hb7))⟩

set_option maxHeartbeats 400000 in
theorem walk_far (n : Nat) (s : ByteArray) (m : Int) (hs : s.size ≤ maxLen) (h : 4096 < s.size) (w : World) :
    Calls Try.prog 10 #[.int .u32 n, .string s, .int .i64 m] w fun e w' => e = .returned (.bool true) ∧ Below w.heap.size w w' := by
  unfold maxLen at hs
  go_enter Try.func10, Try.ntmps10
  go_wp2_with fail
  refine (shown2_any _).mono ?_
  rintro e w1 ⟨rfl, hb1⟩
  go_wp2
  go_ret
  exact ⟨rfl, hb1⟩
theorem walk (a0 : Int) (w0 : (Lit.int .u32 a0).wf = true) (a1 : ByteArray) (w1 : a1.size ≤ maxLen) (a2 : Int) (w2 : (Lit.int .i64 a2).wf = true) (w : World) :
    Calls Try.prog 10 #[.int .u32 a0, .string a1, .int .i64 a2] w fun e w' => e = .returned (.bool true) ∧ Below w.heap.size w w' := by
  have b0 := bounds_u32 w0
  have b2 := bounds_i64 w2
  obtain ⟨n, rfl⟩ := Int.eq_ofNat_of_zero_le b0.1
  have hn : n < 4294967296 := by omega
  by_cases h : 4096 < a1.size
  · exact walk_far n a1 a2 w1 h w
  · have hs : a1.size ≤ 4096 := by omega
    by_cases hm : a2 < 4 ∨ 4096 < a2 ∨ a2 - 4 < (a1.size : Int)
    · cases ho : Crc.opens a1.data.toList with
      | true => exact walk_n_y n a1 a2 (by omega) (by omega) hm hn hs ho w
      | false => exact walk_n_n n a1 a2 (by omega) (by omega) hm hn hs ho w
    · obtain ⟨k, rfl⟩ := Int.eq_ofNat_of_zero_le (show 0 ≤ a2 by omega)
      cases ho : Crc.opens a1.data.toList with
      | true => exact walk_y_y n a1 k (by omega) (by omega) (by omega) hn hs ho w
      | false => exact walk_y_n n a1 k (by omega) (by omega) (by omega) hn hs ho w

theorem own : ownKnob Try.prog.godebug = none := by kernel_rfl
set_option linter.unusedVariables false in
set_option maxRecDepth 100000 in
theorem lifted (os : Os) (started : os.Started) (H : Type) (enc : TypeId × Value → H) :
    ReturnsInHanded {} Try.checked os 10 .any (Rows.crcTellsSpec.pre6 enc Try.prog Try.f10 Rows.crcTellsRow.domain false) (Rows.crcTellsSpec.post enc Try.prog Try.f10 false true false false) := by
  refine returnsInHanded_of_change (C := Try.checked) own started (by kernel_rfl) Try.func10
    (ChangeSpec.witness6 (enc := enc) (C := Try.checked) false ⟨#[], #[.int .u32 0, .string ByteArray.empty, .int .i64 0], []⟩ 8 (by kernel_rfl) (by kernel_rfl) (by kernel_rfl) (by kernel_rfl)) ?_
  intro W base args ds gs before hval0 hW hcnd _
  have hval : ∀ (j : Nat) t v, Try.f10.params[j]? = some t → args[j]? = some v → Value.okWide Try.prog W .any base t v := hval0
  have hW' := hW
  obtain ⟨p, q, hA0, hV, rfl, hfz, hnd⟩ := hW
  have hA : DataW.TrodAll enc Try.prog W 0 (fun _ => true) true Try.f10.params.toList args.toList ds p := hA0
  rw [Try.params10] at hA hval
  obtain ⟨v0, vs0, d0, ds0, p0, q0, hargs, rfl, rfl, h0, r0⟩ := trodAll_cons hA
  obtain ⟨v1, vs1, d1, ds1, p1, q1, rfl, rfl, rfl, h1, r1⟩ := trodAll_cons r0
  obtain ⟨v2, vs2, d2, ds2, p2, q2, rfl, rfl, rfl, h2, r2⟩ := trodAll_cons r1
  obtain ⟨rfl, rfl, rfl⟩ := trodAll_nil r2
  obtain rfl : args = #[v0, v1, v2] := by cases args; simp_all
  obtain ⟨rfl, rfl⟩ := trodVars_none hV
  obtain ⟨a0, rfl, rfl, rfl, w0⟩ := open_int Try.underlying37 (hval 0 37 v0 rfl rfl) h0
  obtain ⟨a1, rfl, rfl, rfl, w1⟩ := open_string Try.underlying9 (hval 1 9 v1 rfl rfl) h1
  obtain ⟨a2, rfl, rfl, rfl, w2⟩ := open_int Try.underlying3 (hval 2 3 v2 rfl rfl) h2
  clear hA0 hval0
  simp only [List.append_nil] at hW'
  refine (walk a0 w0 a1 w1 a2 w2 W).mono fun e W' ⟨he, hg⟩ => ?_
  subst he
  exact ⟨_, rfl, _, _, _, [], [], [], hW', trodAll_mk1 (shut_bool Try.underlying4 _), (trodAll_cons_mk (shut_int Try.underlying37 w0) (trodAll_cons_mk (shut_string Try.underlying9 w1) (trodAll_cons_mk (shut_int Try.underlying3 w2) trodAll_mk0))), rfl, hg.frame _, fun h => by cases h⟩
/-- For every input the law returns true, and each argument reads as it did. -/
theorem proved : Rows.CrcTellsSaid :=
  OpenClaim.holds_of_wide 10 Try.f10 rfl rfl rfl rfl rfl rfl rfl ⟨rfl, rfl, rfl, rfl, rfl⟩ rfl rfl rfl rfl rfl (by kernel_rfl) Try.func10 (by kernel_rfl)
    (of_decide_eq_true (by kernel_rfl)) (by unfold Func.isWrapper; first | (rw [if_pos (by decide +kernel)]; kernel_rfl) | (rw [if_neg (by decide +kernel)]; exact ⟨rfl, rfl⟩))
    (fun os started H enc _ => lifted os started H enc)
end Go.Proofs.Ytphhgebalkaghaa.crcTells
