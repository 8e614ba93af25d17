/- For every text, place, number and sum the law CrcOne returns true: texts of one length of which one byte is another one have other sums (up to the law's own bound on lengths; beyond it the law says nothing). No condition. -/
import Derived.Test.YtphhgebalkaghabCrcWalk
import Derived.ProofKit
import Derived.OpenShut
import Derived.ShutString
import Derived.RegionTactic
import Derived.ChangeAlike
import Derived.BigRegion
namespace Go.Proofs.Ytphhgebalkaghab.crcOne
open Go.ChangeShapes Go.WideShapes Go.ChangeAt Go.RowKit
open Go.ChangeMaps (open_string shut_string)

set_option maxHeartbeats 1000000 in
theorem walk_nat (s : ByteArray) (at_ b n : Nat) (hs : s.size ≤ maxLen) (ha : at_ < 65536) (hb : b < 256) (hn : n < 4294967296) (w : World) :
    Calls Try.prog 5 #[.string s, .int .u16 at_, .int .u8 b, .int .u32 n] w fun e w' => e = .returned (.bool true) ∧ Below w.heap.size w w' := by
  unfold maxLen at hs
  by_cases h1 : 2048 < s.size
  · go_enter Try.func5, Try.ntmps5
    go_wp2_with fail
    refine (shown2_any _).mono ?_
    rintro e w1 ⟨rfl, hb1⟩
    go_wp2
    go_ret
    exact ⟨rfl, hb1⟩
  · by_cases h2 : s.size = 0
    · have h2' : ((s.size : Int) == 0) = true := by rw [beq_iff_eq]; omega
      clear h2
      go_enter Try.func5, Try.ntmps5
      go_wp2_with fail
      refine (shown2_any _).mono ?_
      rintro e w1 ⟨rfl, hb1⟩
      go_wp2
      go_ret
      exact ⟨rfl, hb1⟩
    · have h2' : ((s.size : Int) == 0) = false := by rw [beq_eq_false_iff_ne]; omega
      by_cases h3 : b = 0
      · subst h3
        have h3' : (((0 : Nat) : Int) == 0) = true := by decide
        go_enter Try.func5, Try.ntmps5
        go_wp2_with fail
        refine (shown2_any _).mono ?_
        rintro e w1 ⟨rfl, hb1⟩
        go_wp2
        go_ret
        exact ⟨rfl, hb1⟩
      · have h3' : ((b : Int) == 0) = false := by rw [beq_eq_false_iff_ne]; omega
        have hpos : (0 : Int) < (s.size : Int) := by omega
        obtain ⟨i, hi⟩ : ∃ i : Nat, i = at_ % s.size := ⟨_, rfl⟩
        have hil : i < s.size := by rw [hi]; exact Nat.mod_lt _ (by omega)
        have hr : (at_ : Int).tmod (s.size : Int) = (i : Int) := by rw [hi, Int.tmod_eq_emod_of_nonneg (by omega)]; omega
        have x1 := u8_xor_nat s[i].toNat b s[i].toNat_lt hb
        clear hi
        have hxl := Nat.xor_lt_two_pow (n := 8) s[i].toNat_lt hb
        obtain ⟨c, hc⟩ : ∃ c : UInt8, c.toNat = s[i].toNat ^^^ b := ⟨UInt8.ofNat (s[i].toNat ^^^ b), by rw [UInt8.toNat_ofNat']; omega⟩
        have hcne : s[i] ≠ c := by
          intro e
          rw [← e] at hc
          refine h3 ?_
          have : s[i].toNat ^^^ (s[i].toNat ^^^ b) = 0 := by rw [← hc, Nat.xor_self]
          rwa [← Nat.xor_assoc, Nat.xor_self, Nat.zero_xor] at this
        have hcv : ∀ W : World, (convert 27 9 (.slice (some ⟨W.heap.size, 0, none⟩) 1 1)).run Try.prog (W.alloc (.cells #[.int .u8 ((s[i].toNat ^^^ b : Nat) : Int)] 5)).drew = .ok (.string ⟨#[c]⟩) (W.alloc (.cells #[.int .u8 ((s[i].toNat ^^^ b : Nat) : Int)] 5)).drew := by
          intro W
          rw [← hc]
          refine run_convert_bytes_back _ _ _ 5 _ 1 [c] Try.underlying27 Try.underlying5 Try.underlying9 fun j hj => ?_
          have hj0 : j = 0 := by simpa using hj
          subst hj0
          exact cell_one_new _ _ _ 0 _ rfl
        obtain ⟨t, ht⟩ : ∃ t, s.extract 0 i ++ ⟨#[c]⟩ ++ s.extract (i + 1) s.size = t := ⟨_, rfl⟩
        have hil' : i < s.data.toList.length := by simpa using hil
        have ls : s.data.toList = s.data.toList.take i ++ s[i] :: s.data.toList.drop (i + 1) := by
          conv => lhs; rw [← List.take_append_drop i s.data.toList, List.drop_eq_getElem_cons hil']
          rfl
        have lt : t.data.toList = s.data.toList.take i ++ c :: s.data.toList.drop (i + 1) := by
          rw [← ht]
          simp [List.extract_eq_take_drop]
          exact List.take_of_length_le (by simp)
        have htz : t.size = s.size := by
          have h1 : t.data.toList.length = t.size := by simp
          have h2 : s.data.toList.length = s.size := by simp
          rw [← h1, ← h2, lt]
          simp; omega
        have q1 : ∀ m : Nat, Crc.more m s.data.toList ≠ Crc.more m t.data.toList := fun m => by
          have := Crc.more_one (n := m) (s.data.toList.take i) (s.data.toList.drop (i + 1)) hcne
          rw [← ls, ← lt] at this; exact this
        have q2 : (((Crc.more 0 s.data.toList : Nat) : Int) != ((Crc.more 0 t.data.toList : Nat) : Int)) = true := by
          have := q1 0; rw [bne_iff_ne]; omega
        have q3 : (((Crc.more n s.data.toList : Nat) : Int) != ((Crc.more n t.data.toList : Nat) : Int)) = true := by
          have := q1 n; rw [bne_iff_ne]; omega
        have Htz : Hid (t.size = s.size) := htz
        clear q1 lt ls hcne hc htz hil' h2 h3 hxl
        go_enter Try.func5, Try.ntmps5
        go_wp2_with fail
        refine (shown2_any _).mono ?_
        rintro e w1 ⟨rfl, hb1⟩
        go_wp2
        go_region
        go_wp2_with fail
        refine (Sum_any s (by unfold maxLen; omega) _).mono ?_
        rintro e w2 ⟨rfl, hb2⟩
        go_wp2_with fail
        refine (Sum_any t (by unfold maxLen; rw [Htz.out]; omega) _).mono ?_
        rintro e w3 ⟨rfl, hb3⟩
        go_wp2_with fail
        refine (More_any n s hn (by unfold maxLen; omega) _).mono ?_
        rintro e w4 ⟨rfl, hb4⟩
        go_wp2_with fail
        refine (More_any n t hn (by unfold maxLen; rw [Htz.out]; omega) _).mono ?_
        rintro e w5 ⟨rfl, hb5⟩
        go_wp2
        go_ret
        have hb2' : Below w1.heap.size w1 w2 := ((Below.refl _ _).alloc (Nat.le_refl _) _).drew.trans (hb2.mono (by simp))
        exact ⟨rfl, below2 (below4 hb1 hb2' hb3 hb4) hb5⟩
theorem walk (a0 : ByteArray) (w0 : a0.size ≤ maxLen) (a1 : Int) (w1 : (Lit.int .u16 a1).wf = true) (a2 : Int) (w2 : (Lit.int .u8 a2).wf = true) (a3 : Int) (w3 : (Lit.int .u32 a3).wf = true) (w : World) :
    Calls Try.prog 5 #[.string a0, .int .u16 a1, .int .u8 a2, .int .u32 a3] w fun e w' => e = .returned (.bool true) ∧ Below w.heap.size w w' := by
  have b1 := bounds_u16 w1
  have b2 := bounds_u8 w2
  have b3 := bounds_u32 w3
  obtain ⟨a, rfl⟩ := Int.eq_ofNat_of_zero_le b1.1
  obtain ⟨b, rfl⟩ := Int.eq_ofNat_of_zero_le b2.1
  obtain ⟨n, rfl⟩ := Int.eq_ofNat_of_zero_le b3.1
  exact walk_nat a0 a b n w0 (by omega) (by omega) (by omega) w

theorem own : ownKnob Try.prog.godebug = none := by kernel_rfl
set_option linter.unusedVariables false in
set_option maxRecDepth 100000 in
theorem lifted (os : Os) (started : os.Started) (H : Type) (enc : TypeId × Value → H) :
    ReturnsInHanded {} Try.checked os 5 .any (Rows.crcOneSpec.pre6 enc Try.prog Try.f5 Rows.crcOneRow.domain false) (Rows.crcOneSpec.post enc Try.prog Try.f5 false true false false) := by
  refine returnsInHanded_of_change (C := Try.checked) own started (by kernel_rfl) Try.func5
    (ChangeSpec.witness6 (enc := enc) (C := Try.checked) false ⟨#[], #[.string ByteArray.empty, .int .u16 0, .int .u8 0, .int .u32 0], []⟩ 8 (by kernel_rfl) (by kernel_rfl) (by kernel_rfl) (by kernel_rfl)) ?_
  intro W base args ds gs before hval0 hW hcnd _
  have hval : ∀ (j : Nat) t v, Try.f5.params[j]? = some t → args[j]? = some v → Value.okWide Try.prog W .any base t v := hval0
  have hW' := hW
  obtain ⟨p, q, hA0, hV, rfl, hfz, hnd⟩ := hW
  have hA : DataW.TrodAll enc Try.prog W 0 (fun _ => true) true Try.f5.params.toList args.toList ds p := hA0
  rw [Try.params5] at hA hval
  obtain ⟨v0, vs0, d0, ds0, p0, q0, hargs, rfl, rfl, h0, r0⟩ := trodAll_cons hA
  obtain ⟨v1, vs1, d1, ds1, p1, q1, rfl, rfl, rfl, h1, r1⟩ := trodAll_cons r0
  obtain ⟨v2, vs2, d2, ds2, p2, q2, rfl, rfl, rfl, h2, r2⟩ := trodAll_cons r1
  obtain ⟨v3, vs3, d3, ds3, p3, q3, rfl, rfl, rfl, h3, r3⟩ := trodAll_cons r2
  obtain ⟨rfl, rfl, rfl⟩ := trodAll_nil r3
  obtain rfl : args = #[v0, v1, v2, v3] := by cases args; simp_all
  obtain ⟨rfl, rfl⟩ := trodVars_none hV
  obtain ⟨a0, rfl, rfl, rfl, w0⟩ := open_string Try.underlying9 (hval 0 9 v0 rfl rfl) h0
  obtain ⟨a1, rfl, rfl, rfl, w1⟩ := open_int Try.underlying22 (hval 1 22 v1 rfl rfl) h1
  obtain ⟨a2, rfl, rfl, rfl, w2⟩ := open_int Try.underlying5 (hval 2 5 v2 rfl rfl) h2
  obtain ⟨a3, rfl, rfl, rfl, w3⟩ := open_int Try.underlying23 (hval 3 23 v3 rfl rfl) h3
  clear hA0 hval0
  simp only [List.append_nil] at hW'
  refine (walk a0 w0 a1 w1 a2 w2 a3 w3 W).mono fun e W' ⟨he, hg⟩ => ?_
  subst he
  exact ⟨_, rfl, _, _, _, [], [], [], hW', trodAll_mk1 (shut_bool Try.underlying4 _), (trodAll_cons_mk (shut_string Try.underlying9 w0) (trodAll_cons_mk (shut_int Try.underlying22 w1) (trodAll_cons_mk (shut_int Try.underlying5 w2) (trodAll_cons_mk (shut_int Try.underlying23 w3) trodAll_mk0)))), rfl, hg.frame _, fun h => by cases h⟩
/-- For every input the law returns true, and each argument reads as it did. -/
theorem proved : Rows.CrcOneSaid :=
  OpenClaim.holds_of_wide 5 Try.f5 rfl rfl rfl rfl rfl rfl rfl ⟨rfl, rfl, rfl, rfl, rfl⟩ rfl rfl rfl rfl rfl (by kernel_rfl) Try.func5 (by kernel_rfl)
    (of_decide_eq_true (by kernel_rfl)) (by unfold Func.isWrapper; first | (rw [if_pos (by decide +kernel)]; kernel_rfl) | (rw [if_neg (by decide +kernel)]; exact ⟨rfl, rfl⟩))
    (fun os started H enc _ => lifted os started H enc)
end Go.Proofs.Ytphhgebalkaghab.crcOne
