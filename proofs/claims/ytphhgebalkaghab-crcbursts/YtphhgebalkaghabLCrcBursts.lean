/- For every text, place and bits the law CrcBursts returns true: bytes of which some bits within 32 are others have another sum: what is sealed is not opened then (up to the law's own bound on lengths; beyond it the law says nothing). No condition. -/
import Derived.Test.YtphhgebalkaghabCrcOpen
import Derived.Test.YtphhgebalkaghabCrcXor
import Derived.RegionTactic
import Derived.ChangeAlike
import Derived.BigRegion
import Derived.ProofKit
import Derived.OpenShut
import Derived.ShutString
namespace Go.Proofs.Ytphhgebalkaghab.crcBursts
open Go.ChangeShapes Go.WideShapes Go.ChangeAt Go.RowKit
open Go.ChangeMaps (open_string shut_string)

theorem four_at (b k : Nat) (hk : k < 4) : ((Crc.fourL b).getD k 0).toNat = b / 2 ^ (8 * k) % 256 := by
  rcases (by omega : k = 0 ∨ k = 1 ∨ k = 2 ∨ k = 3) with rfl | rfl | rfl | rfl <;> simp [Crc.fourL]
theorem E_at (i b r k : Nat) (hk : k < 4) : ((List.replicate i (0 : UInt8) ++ Crc.fourL b ++ List.replicate r 0).getD (i + k) 0).toNat = b / 2 ^ (8 * k) % 256 := by
  rw [← four_at b k hk, List.getD_eq_getElem?_getD, List.getD_eq_getElem?_getD, List.getElem?_append_left (by simp [Crc.fourL_length]; omega), List.getElem?_append_right (by simp), List.length_replicate, Nat.add_sub_cancel_left]
theorem padL_self (l : List UInt8) : Crc.padL l l.length = l := by unfold Crc.padL; rw [Nat.sub_self]; exact List.append_nil l

set_option maxRecDepth 10000 in
set_option maxHeartbeats 2000000 in
theorem walk_nat (s : ByteArray) (a b : Nat) (hs : s.size ≤ maxLen) (ha : a < 65536) (hb : b < 4294967296) (w : World) :
    Calls Try.prog 3 #[.string s, .int .u16 a, .int .u32 b] w fun e w' => e = .returned (.bool true) ∧ Below w.heap.size w w' := by
  unfold maxLen at hs
  by_cases h1 : 1024 < s.size
  · go_enter Try.func3, Try.ntmps3
    go_wp2_with fail
    refine (shown2_any _).mono ?_
    rintro e w1 ⟨rfl, hb1⟩
    go_wp2
    go_ret
    exact ⟨rfl, hb1⟩
  · by_cases h2 : b = 0
    · subst h2
      have h2' : (((0 : Nat) : Int) == 0) = true := by decide
      go_enter Try.func3, Try.ntmps3
      go_wp2_with fail
      refine (shown2_any _).mono ?_
      rintro e w1 ⟨rfl, hb1⟩
      go_wp2
      go_ret
      exact ⟨rfl, hb1⟩
    · have h2' : ((b : Int) == 0) = false := by rw [beq_eq_false_iff_ne]; omega
      obtain ⟨n, hn⟩ : ∃ n : Nat, n = s.size + 4 := ⟨_, rfl⟩
      have hni : (s.size : Int) + 4 = (n : Int) := by omega
      have hsl : s.data.toList.length = s.size := by simp
      have hn4 : s.size = n - 4 := by omega
      have hn5 : 4 ≤ n := by omega
      have hn6 : n ≤ 1028 := by omega
      obtain ⟨t, ht⟩ : ∃ t, t = Crc.sealB s n := ⟨_, rfl⟩
      have htl : t.data.toList = Crc.sealL s.data.toList n := by rw [ht]; rfl
      have htz : t.size = n := by
        have : t.data.toList.length = t.size := by simp
        rw [← this, htl, Crc.sealL_length _ n hn5 (by omega)]
      have ho : Crc.opens t.data.toList = true := by rw [htl, Crc.opens_seal _ n hn5 (by omega)]
      have hh : Crc.headB t = s := by
        rw [ht, Crc.headB_seal s n hn5 (by omega), ← hn4, ← hsl, padL_self]
      obtain ⟨i, hi⟩ : ∃ i : Nat, i = a % (n - 3) := ⟨_, rfl⟩
      have hil : i < n - 3 := by rw [hi]; exact Nat.mod_lt _ (by omega)
      have hr : (a : Int).tmod ((n : Int) - 3) = (i : Int) := by
        rw [Int.tmod_eq_emod_of_nonneg (by omega), hi, show (n : Int) - 3 = ((n - 3 : Nat) : Int) from by omega]; rfl
      obtain ⟨E, hE⟩ : ∃ E, E = List.replicate i 0 ++ Crc.fourL b ++ List.replicate (n - i - 4) 0 := ⟨_, rfl⟩
      have hEl : E.length = n := by rw [hE]; simp [Crc.fourL_length]; omega
      have hno : Crc.opens (Gfm.xorL t.data.toList E) = false := by
        rw [hE]; exact Crc.burst _ i (n - i - 4) b (by have : t.data.toList.length = t.size := by simp
                                                       omega) hb h2 ho
      have Ht : Hid (Crc.sealB s n = t) := ht.symm
      have Hh : Hid (Crc.headB t = s) := hh
      have Ho : Hid (Crc.opens t.data.toList = true) := ho
      have Hno : Hid (Crc.opens (Gfm.xorL t.data.toList E) = false) := hno
      have HE : Hid (E = List.replicate i 0 ++ Crc.fourL b ++ List.replicate (n - i - 4) 0) := hE
      have HEl : Hid (E.length = n) := hEl
      have Htz : Hid (t.size = n) := htz
      have Hsn : Hid (s.size = n - 4) := hn4
      have htn : (t.size : Int) = (n : Int) := by omega
      clear ht htl htz ho hh hno hE hEl hi hn hn4 hsl h2
      have hconv := fun w => run_bytes_of_string (P := Try.prog) w 9 27 5 t Try.underlying9 Try.underlying27 Try.underlying5
      go_enter Try.func3, Try.ntmps3
      go_wp2_with fail
      refine (shown2_any _).mono ?_
      rintro e w1 ⟨rfl, hb1⟩
      go_wp2_with fail
      refine (Seal_yes s n hn5 (by omega) (by rw [Hsn.out]; exact Nat.le_refl _) _).mono ?_
      rintro e w2 ⟨rfl, hb2⟩
      rw [Ht.out]
      go_wp2
      have hcap := grownCap_ge w2 t.size 0 5
      have hrow := rowU_conv w2 t 5 _ hcap
      go_loopw [11] (fun v wr => ∃ k : Nat, k ≤ 4 ∧ v = .int .i64 k ∧ rowU wr w2.heap.size (Gfm.xorL t.data.toList (E.take (i + k))) ∧ Below w2.heap.size w2 wr) (fun v _ => 4 - (intOf v).toNat)
      case atStart =>
        refine ⟨0, by omega, rfl, ?_, ((Below.refl _ _).alloc (Nat.le_refl _) _).drew⟩
        have : E.take (i + 0) = List.replicate i 0 := by rw [HE.out, List.append_assoc, List.take_left' (by simp)]
        rw [this, Crc.xor_zeros _ _ (by have : t.data.toList.length = t.size := by simp
                                        rw [this, Htz.out]; omega)]
        exact hrow.drew
      case round =>
        obtain ⟨k, hk, rfl, hrw, hbl⟩ := hrel
        clear hconv hrow hcap
        have hl : (Gfm.xorL t.data.toList (E.take (i + k))).length = n := by
          have : t.data.toList.length = t.size := by simp
          rw [Gfm.xorL_length, this, Htz.out, List.length_take, HEl.out]; omega
        by_cases hk4 : k < 4
        · obtain ⟨hc, hf⟩ := hrw (i + k) (by omega)
          rw [Gfm.xorL_at] at hc
          obtain ⟨x, hx⟩ : ∃ x, x = t.data.toList.getD (i + k) 0 := ⟨_, rfl⟩
          rw [← hx] at hc
          have Hx : Hid (x = t.data.toList.getD (i + k) 0) := hx
          have Hr : Hid (rowU wr w2.heap.size (Gfm.xorL t.data.toList (E.take (i + k)))) := hrw
          have Hl : Hid ((Gfm.xorL t.data.toList (E.take (i + k))).length = n) := hl
          have Hb : Hid (Below w2.heap.size w2 wr) := hbl
          clear hx hrw hl hbl
          go_wp2
          go_region
          go_wp2
          go_roundw
          case rel =>
            refine ⟨k + 1, by omega, by go_num, ?_, (Hb.out.setCell (p := ⟨w2.heap.size, i + k, none⟩) (Nat.le_refl _) _).drew⟩
            have htl : t.data.toList.length = t.size := by simp
            have he := E_at i b (n - i - 4) k hk4
            rw [← HE.out] at he
            have hv : bits BinOp.xor IntKind.u8 (x.toNat : Int) ((b : Int) / 2 ^ (8 * k) % 256) = ((x ^^^ E.getD (i + k) 0).toNat : Int) := by
              rw [UInt8.toNat_xor, he, ← u8_xor_nat _ _ x.toNat_lt (by omega)]
              simp
            rw [hv, ← Nat.add_assoc, ← Gfm.xorL_step _ _ (i + k) (by rw [HEl.out]; omega) (by rw [HEl.out, htl, Htz.out]; exact Nat.le_refl _), ← Hx.out]
            exact (Hr.out.set (i + k) (by rw [Hl.out]; omega) _).drew
          case measure => simp [intOf]; omega
        · have hk4' : k = 4 := by omega
          have htl : t.data.toList.length = t.size := by simp
          have hX : Gfm.xorL t.data.toList (E.take (i + 4)) = Gfm.xorL t.data.toList E := by
            have h1 : E.take (i + 4) = List.replicate i 0 ++ Crc.fourL b := by
              rw [HE.out, List.take_append_of_le_length (by simp [Crc.fourL_length]), List.take_of_length_le (by simp [Crc.fourL_length])]
            rw [h1, HE.out, Crc.xor_pad _ _ _ (by simp [Crc.fourL_length, htl, Htz.out]; omega)]
          rw [hk4', hX] at hrw hl
          obtain ⟨u, hu⟩ : ∃ u : ByteArray, u = ⟨(Gfm.xorL t.data.toList E).toArray⟩ := ⟨_, rfl⟩
          have hback := hrw.back (P := Try.prog) 27 9 5 t.size (grownCap w2 t.size 0 5) (by rw [hl, Htz.out]) Try.underlying27 Try.underlying5 Try.underlying9
          rw [← hu] at hback
          have huz : u.size ≤ 1048576 := by rw [hu]; show (Gfm.xorL _ _).toArray.size ≤ _; rw [List.size_toArray, hl]; omega
          have huo : Crc.opens u.data.toList = false := by rw [hu]; exact Hno.out
          have Huz : Hid (u.size ≤ 1048576) := huz
          have Huo : Hid (Crc.opens u.data.toList = false) := huo
          have Hb : Hid (Below w2.heap.size w2 wr) := hbl
          clear hrw hl hX htl hu hbl huz huo hk4'
          go_wp2_with fail
          refine (Open_no u Huz.out Huo.out _).mono ?_
          rintro e w3 ⟨rfl, hb3⟩
          go_wp2_with fail
          refine (Open_yes t (by rw [Htz.out]; omega) Ho.out _).mono ?_
          rintro e w4 ⟨rfl, hb4⟩
          rw [Hh.out]
          go_wp2
          go_ret
          exact ⟨rfl, below4 hb1 hb2 (Hb.out) (below2 hb3 hb4)⟩
theorem walk (a0 : ByteArray) (w0 : a0.size ≤ maxLen) (a1 : Int) (w1 : (Lit.int .u16 a1).wf = true) (a2 : Int) (w2 : (Lit.int .u32 a2).wf = true) (w : World) :
    Calls Try.prog 3 #[.string a0, .int .u16 a1, .int .u32 a2] w fun e w' => e = .returned (.bool true) ∧ Below w.heap.size w w' := by
  have b1 := bounds_u16 w1
  have b2 := bounds_u32 w2
  obtain ⟨a, rfl⟩ := Int.eq_ofNat_of_zero_le b1.1
  obtain ⟨b, rfl⟩ := Int.eq_ofNat_of_zero_le b2.1
  exact walk_nat a0 a b w0 (by omega) (by omega) w

theorem own : ownKnob Try.prog.godebug = none := by kernel_rfl
set_option linter.unusedVariables false in
set_option maxRecDepth 100000 in
theorem lifted (os : Os) (started : os.Started) (H : Type) (enc : TypeId × Value → H) :
    ReturnsInHanded {} Try.checked os 3 .any (Rows.crcBurstsSpec.pre6 enc Try.prog Try.f3 Rows.crcBurstsRow.domain false) (Rows.crcBurstsSpec.post enc Try.prog Try.f3 false true false false) := by
  refine returnsInHanded_of_change (C := Try.checked) own started (by kernel_rfl) Try.func3
    (ChangeSpec.witness6 (enc := enc) (C := Try.checked) false ⟨#[], #[.string ByteArray.empty, .int .u16 0, .int .u32 0], []⟩ 8 (by kernel_rfl) (by kernel_rfl) (by kernel_rfl) (by kernel_rfl)) ?_
  intro W base args ds gs before hval0 hW hcnd _
  have hval : ∀ (j : Nat) t v, Try.f3.params[j]? = some t → args[j]? = some v → Value.okWide Try.prog W .any base t v := hval0
  have hW' := hW
  obtain ⟨p, q, hA0, hV, rfl, hfz, hnd⟩ := hW
  have hA : DataW.TrodAll enc Try.prog W 0 (fun _ => true) true Try.f3.params.toList args.toList ds p := hA0
  rw [Try.params3] at hA hval
  obtain ⟨v0, vs0, d0, ds0, p0, q0, hargs, rfl, rfl, h0, r0⟩ := trodAll_cons hA
  obtain ⟨v1, vs1, d1, ds1, p1, q1, rfl, rfl, rfl, h1, r1⟩ := trodAll_cons r0
  obtain ⟨v2, vs2, d2, ds2, p2, q2, rfl, rfl, rfl, h2, r2⟩ := trodAll_cons r1
  obtain ⟨rfl, rfl, rfl⟩ := trodAll_nil r2
  obtain rfl : args = #[v0, v1, v2] := by cases args; simp_all
  obtain ⟨rfl, rfl⟩ := trodVars_none hV
  obtain ⟨a0, rfl, rfl, rfl, w0⟩ := open_string Try.underlying9 (hval 0 9 v0 rfl rfl) h0
  obtain ⟨a1, rfl, rfl, rfl, w1⟩ := open_int Try.underlying22 (hval 1 22 v1 rfl rfl) h1
  obtain ⟨a2, rfl, rfl, rfl, w2⟩ := open_int Try.underlying23 (hval 2 23 v2 rfl rfl) h2
  clear hA0 hval0
  simp only [List.append_nil] at hW'
  refine (walk a0 w0 a1 w1 a2 w2 W).mono fun e W' ⟨he, hg⟩ => ?_
  subst he
  exact ⟨_, rfl, _, _, _, [], [], [], hW', trodAll_mk1 (shut_bool Try.underlying4 _), (trodAll_cons_mk (shut_string Try.underlying9 w0) (trodAll_cons_mk (shut_int Try.underlying22 w1) (trodAll_cons_mk (shut_int Try.underlying23 w2) trodAll_mk0))), rfl, hg.frame _, fun h => by cases h⟩
/-- For every input the law returns true, and each argument reads as it did. -/
theorem proved : Rows.CrcBurstsSaid :=
  OpenClaim.holds_of_wide 3 Try.f3 rfl rfl rfl rfl rfl rfl rfl ⟨rfl, rfl, rfl, rfl, rfl⟩ rfl rfl rfl rfl rfl (by kernel_rfl) Try.func3 (by kernel_rfl)
    (of_decide_eq_true (by kernel_rfl)) (by unfold Func.isWrapper; first | (rw [if_pos (by decide +kernel)]; kernel_rfl) | (rw [if_neg (by decide +kernel)]; exact ⟨rfl, rfl⟩))
    (fun os started H enc _ => lifted os started H enc)
end Go.Proofs.Ytphhgebalkaghab.crcBursts
