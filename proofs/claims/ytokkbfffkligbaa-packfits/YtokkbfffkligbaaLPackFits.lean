/- For every number and every width the law PackFits returns true: a number is packed if it fits, and else not; its first byte is its lowest one. No condition. -/
import Derived.Test.YtokkbfffkligbaaPackOne
import Derived.ProofKit
import Derived.OpenShut
import Derived.ShutString
namespace Go.Proofs.Ytokkbfffkligbaa.packFits
open Go.ChangeShapes Go.WideShapes Go.ChangeAt Go.RowKit
open Go.ChangeMaps (open_string shut_string)

set_option maxHeartbeats 1000000 in
theorem walk_yes (n m k : Nat) (hn : n < 18446744073709551616) (hm : m < 256) (hk : k = m % 8 + 1) (hf : Pk.fits n k = true) (w : World) :
    Calls Try.prog 6 #[.int .u64 n, .int .u8 m] w fun e w' => e = .returned (.bool true) ∧ Below w.heap.size w w' := by
  have h1 : 1 ≤ k := by omega
  have h8 : k ≤ 8 := by omega
  have hkk : 1 + (m : Int) % 8 = (k : Int) := by omega
  have E1 : Pk.encE [n] [(k : Int)] = 0 := Pk.encE_yes (Pk.one_ok k h1 h8) rfl (by rw [Pk.one_fit]; exact hf)
  have hf8 : Pk.fits n 8 = true := (Pk.fits_iff _ _).2 ⟨by decide, hn⟩
  have hq := Pk.one_size n k h1 h8 hf
  have hqe : (Pk.encS [n] [(k : Int)]).data.toList = Pk.bytesOf n k := by
    show (Pk.enc [n] [(k : Int)]).toArray.toList = _
    rw [Pk.one_enc n k h1 h8 hf]
  obtain ⟨q, hq2⟩ : ∃ q, q = Pk.encS [n] [(k : Int)] := ⟨_, rfl⟩
  rw [← hq2] at hq hqe
  have hq0 : 0 < q.size := by omega
  have hby : ((q[0]'hq0).toNat : Int) = (n : Int) % 256 := by
    have e : q.data.toList[0]? = some (Pk.byteAt n 0) := by rw [hqe]; simp [Pk.bytesOf, show 0 < k by omega]
    have e2 : q[0]'hq0 = Pk.byteAt n 0 := by
      have h3 : q.data.toList[0]? = some (q[0]'hq0) := by
        rw [List.getElem?_eq_getElem (by simpa using hq0)]; rfl
      rw [h3] at e; injection e
    rw [e2, Pk.byteAt_toNat]; simp
  have Hq : Hid (Pk.encS [n] [(k : Int)] = q) := hq2.symm
  have Hhq : Hid (q.size = k) := hq
  have hqk : ((q.size : Int) == (k : Int)) = true := by rw [hq]; simp
  clear hq2 hqe hk h1 h8 hq
  go_enter Try.func6, Try.ntmps6
  go_wp2_with fail
  refine (Encode_one n hn k _).mono ?_
  rintro e w1 ⟨rfl, b1⟩
  rw [E1, Hq.out]
  go_wp2_with fail
  refine (Fits_any n hn k _).mono ?_
  rintro e w' ⟨rfl, rfl⟩
  rw [hf]
  go_wp2_with fail
  refine (shown3_any _).mono ?_
  rintro e w2 ⟨rfl, b2⟩
  go_wp2_with fail
  refine (Fits_any n hn 8 _).mono ?_
  rintro e w' ⟨rfl, rfl⟩
  rw [hf8]
  go_wp2
  go_ret
  exact ⟨rfl, below2 b1 b2⟩

set_option maxHeartbeats 1000000 in
theorem walk_no (n m k : Nat) (hn : n < 18446744073709551616) (hm : m < 256) (hk : k = m % 8 + 1) (hf : Pk.fits n k = false) (w : World) :
    Calls Try.prog 6 #[.int .u64 n, .int .u8 m] w fun e w' => e = .returned (.bool true) ∧ Below w.heap.size w w' := by
  have h1 : 1 ≤ k := by omega
  have h8 : k ≤ 8 := by omega
  have hkk : 1 + (m : Int) % 8 = (k : Int) := by omega
  have hff : Pk.fitAll [n] [(k : Int)] = false := by rw [Pk.one_fit]; exact hf
  have E1 : Pk.encE [n] [(k : Int)] = 30 := Pk.encE_unfit (Pk.one_ok k h1 h8) rfl hff
  have E2 : Pk.encS [n] [(k : Int)] = ByteArray.mk #[] := by unfold Pk.encS; rw [Pk.enc_unfit hff]
  clear hk h1 h8 hff
  go_enter Try.func6, Try.ntmps6
  go_wp2_with fail
  refine (Encode_one n hn k _).mono ?_
  rintro e w1 ⟨rfl, b1⟩
  rw [E1, E2]
  go_wp2_with fail
  refine (Fits_any n hn k _).mono ?_
  rintro e w' ⟨rfl, rfl⟩
  rw [hf]
  go_wp2_with fail
  refine (shown3_any _).mono ?_
  rintro e w2 ⟨rfl, b2⟩
  go_wp2
  go_ret
  exact ⟨rfl, below2 b1 b2⟩

theorem walk (a0 : Int) (w0 : (Lit.int .u64 a0).wf = true) (a1 : Int) (w1 : (Lit.int .u8 a1).wf = true) (w : World) :
    Calls Try.prog 6 #[.int .u64 a0, .int .u8 a1] w fun e w' => e = .returned (.bool true) ∧ Below w.heap.size w w' := by
  have b0 := bounds_u64 w0
  have b1 := bounds_u8 w1
  obtain ⟨n, rfl⟩ := Int.eq_ofNat_of_zero_le b0.1
  obtain ⟨m, rfl⟩ := Int.eq_ofNat_of_zero_le b1.1
  cases hf : Pk.fits n ((m % 8 + 1 : Nat) : Int) with
  | true => exact walk_yes n m _ (by omega) (by omega) rfl hf w
  | false => exact walk_no n m _ (by omega) (by omega) rfl hf w

theorem own : ownKnob Try.prog.godebug = none := by kernel_rfl
set_option linter.unusedVariables false in
set_option maxRecDepth 100000 in
theorem lifted (os : Os) (started : os.Started) (H : Type) (enc : TypeId × Value → H) :
    ReturnsInHanded {} Try.checked os 6 .any (Rows.packFitsSpec.pre6 enc Try.prog Try.f6 Rows.packFitsRow.domain false) (Rows.packFitsSpec.post enc Try.prog Try.f6 false true false false) := by
  refine returnsInHanded_of_change (C := Try.checked) own started (by kernel_rfl) Try.func6
    (ChangeSpec.witness6 (enc := enc) (C := Try.checked) false ⟨#[], #[.int .u64 0, .int .u8 0], []⟩ 8 (by kernel_rfl) (by kernel_rfl) (by kernel_rfl) (by kernel_rfl)) ?_
  intro W base args ds gs before hval0 hW hcnd _
  have hval : ∀ (j : Nat) t v, Try.f6.params[j]? = some t → args[j]? = some v → Value.okWide Try.prog W .any base t v := hval0
  have hW' := hW
  obtain ⟨p, q, hA0, hV, rfl, hfz, hnd⟩ := hW
  have hA : DataW.TrodAll enc Try.prog W 0 (fun _ => true) true Try.f6.params.toList args.toList ds p := hA0
  rw [Try.params6] at hA hval
  obtain ⟨v0, vs0, d0, ds0, p0, q0, hargs, rfl, rfl, h0, r0⟩ := trodAll_cons hA
  obtain ⟨v1, vs1, d1, ds1, p1, q1, rfl, rfl, rfl, h1, r1⟩ := trodAll_cons r0
  obtain ⟨rfl, rfl, rfl⟩ := trodAll_nil r1
  obtain rfl : args = #[v0, v1] := by cases args; simp_all
  obtain ⟨rfl, rfl⟩ := trodVars_none hV
  obtain ⟨a0, rfl, rfl, rfl, w0⟩ := open_int Try.underlying24 (hval 0 24 v0 rfl rfl) h0
  obtain ⟨a1, rfl, rfl, rfl, w1⟩ := open_int Try.underlying5 (hval 1 5 v1 rfl rfl) h1
  clear hA0 hval0
  simp only [List.append_nil] at hW'
  refine (walk a0 w0 a1 w1 W).mono fun e W' ⟨he, hg⟩ => ?_
  subst he
  exact ⟨_, rfl, _, _, _, [], [], [], hW', trodAll_mk1 (shut_bool Try.underlying4 _), (trodAll_cons_mk (shut_int Try.underlying24 w0) (trodAll_cons_mk (shut_int Try.underlying5 w1) trodAll_mk0)), rfl, hg.frame _, fun h => by cases h⟩
/-- For every input the law returns true, and each argument reads as it did. -/
theorem proved : Rows.PackFitsSaid :=
  OpenClaim.holds_of_wide 6 Try.f6 rfl rfl rfl rfl rfl rfl rfl ⟨rfl, rfl, rfl, rfl, rfl⟩ rfl rfl rfl rfl rfl (by kernel_rfl) Try.func6 (by kernel_rfl)
    (of_decide_eq_true (by kernel_rfl)) (by unfold Func.isWrapper; first | (rw [if_pos (by decide +kernel)]; kernel_rfl) | (rw [if_neg (by decide +kernel)]; exact ⟨rfl, rfl⟩))
    (fun os started H enc _ => lifted os started H enc)
end Go.Proofs.Ytokkbfffkligbaa.packFits
