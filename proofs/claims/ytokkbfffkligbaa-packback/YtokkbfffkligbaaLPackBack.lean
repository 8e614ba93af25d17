/- For all numbers and all widths the law PackBack returns true: numbers that fit come back from their bytes, as many as their widths say. No condition. -/
import Derived.Test.YtokkbfffkligbaaPackMod
import Derived.ProofKit
import Derived.OpenShut
import Derived.ShutString
import Derived.ChangeOld
import Derived.Below
namespace Go.Proofs.Ytokkbfffkligbaa.packBack
open Go.ChangeShapes Go.WideShapes Go.ChangeAt Go.RowKit
open Go.ChangeMaps (open_string shut_string)

set_option maxHeartbeats 4000000 in
theorem walk_any (l bs : List Nat) (hlm : l.length ≤ maxLen) (hbm : bs.length ≤ maxLen) (hf : ∀ j, l.getD j 0 < 18446744073709551616) (hb8 : ∀ j, bs.getD j 0 < 256) (a b : Option Addr) (ca cb : Nat) (w : World)
    (ha : RowI .u64 w a l.length (fun j => (l.getD j 0 : Nat))) (hb : RowI .u8 w b bs.length (fun j => (bs.getD j 0 : Nat))) :
    Calls Try.prog 4 #[.slice a l.length ca, .slice b bs.length cb] w fun e w' => e = .returned (.bool true) ∧ Below w.heap.size w w' := by
  obtain ⟨i0, hi, hz0, hz1, hz2⟩ := info_parts (show (Try.prog.info? 3).map (fun i => (i.zero, i.size, i.bytes)) = some (some (.int .i64 0), 1, 8) by kernel_rfl)
  obtain ⟨i1, hj, hy0, hy1, hy2⟩ := info_parts (show (Try.prog.info? 24).map (fun i => (i.zero, i.size, i.bytes)) = some (some (.int .u64 0), 1, 8) by kernel_rfl)
  unfold maxLen at hlm hbm
  obtain ⟨m, hm⟩ : ∃ m, m = min (min l.length bs.length) 64 := ⟨_, rfl⟩
  have hml : m ≤ l.length := by omega
  have hmb : m ≤ bs.length := by omega
  have hm64 : m ≤ 64 := by omega
  have hmin : ∀ (ts : Array TypeId) (ty : TypeId) (W : World), (Builtin.min_ ts ty #[.int .i64 (l.length : Int), .int .i64 (bs.length : Int), .int .i64 64]).run Try.prog W = .ok (.int .i64 (m : Int)) W := by
    intro ts ty W
    simp [Builtin.min_, Builtin.min2]
    repeat' split
    all_goals omega
  clear hm
  go_enter Try.func4, Try.ntmps4
  go_wp2
  go_loopw [6, 7, 8, 9] (fun v x s i wr => ∃ k : Nat, k ≤ m ∧ i = .int .i64 k ∧ s = .int .i64 (Pk.sumOf bs k : Nat) ∧ wr.ownsRow w.heap.size 3 1 v k ((Pk.wsOf bs k).map (Value.int .i64)) ∧ wr.ownsRow w.heap.size 24 1 x k (((Pk.xsOf l bs k).map (fun n : Nat => (n : Int))).map (Value.int .u64)) ∧ Below w.heap.size w wr) (fun _ _ _ i _ => m - (intOf i).toNat)
  case atStart =>
    have h1 := (World.ownsRow_made (base := w.heap.size) (e := 3) (size := 1) w #[] 0 (Nat.le_refl _) (by decide) rfl).alloc (.cells #[] 24)
    have h2 := World.ownsRow_made (base := w.heap.size) (e := 24) (size := 1) (w.alloc (.cells #[] 3)) #[] 0 (by simp) (by decide) rfl
    rw [World.size_alloc] at h2
    exact ⟨0, Nat.zero_le _, rfl, rfl, h1, h2, ((Below.refl _ w).alloc (Nat.le_refl _) _).alloc (by simp) _⟩
  case round =>
    obtain ⟨k, hk, rfl, rfl, hl2, hx2, hB⟩ := hrel
    have hBs := hB.size
    have hsum := Pk.sumOf_le bs k
    by_cases hlt : k < m
    · obtain ⟨b1, o1, rfl, hc1'⟩ := ha k (by omega)
      obtain ⟨b2, o2, rfl, hc2'⟩ := hb k (by omega)
      have hb1 := World.block_lt_of_cell? w _ hc1'
      have hb2 := World.block_lt_of_cell? w _ hc2'
      have hc1 := (hB.cell (p := ⟨b1, o1 + k, none⟩) hb1).trans hc1'
      have hc2 := (hB.cell (p := ⟨b2, o2 + k, none⟩) hb2).trans hc2'
      have hn64 := hf k
      have hc256 := hb8 k
      have HS : Hid (Pk.sumOf bs (k + 1) = Pk.sumOf bs k + Pk.wOf (bs.getD k 0)) := rfl
      have HW := Pk.wsOf_succ bs k
      have HX := Pk.xsOf_succ l bs k
      obtain ⟨n, hn⟩ : ∃ n, l.getD k 0 = n := ⟨_, rfl⟩
      obtain ⟨c, hc⟩ : ∃ c, bs.getD k 0 = c := ⟨_, rfl⟩
      obtain ⟨sm, hsm⟩ : ∃ sm, Pk.sumOf bs k = sm := ⟨_, rfl⟩
      simp only [hn, hc] at hc1 hc2 hn64 hc256 HS HW HX
      rw [hsm] at hsum HS ⊢
      obtain ⟨x, hx⟩ : ∃ x, Pk.wOf c = x := ⟨_, rfl⟩
      have hwx : (c : Int) % 8 + 1 = (x : Int) := by rw [← hx]; unfold Pk.wOf; omega
      have hx18 := Pk.wOf_le c
      rw [hx] at HS HW HX hx18
      obtain ⟨hx1, hx8⟩ := hx18
      have HW' : Hid (Pk.wsOf bs (k + 1) = Pk.wsOf bs k ++ [(x : Int)]) := HW
      have hP8 := Pk.pow256_le hx8
      have hP7 : x < 8 → 256 ^ x < 18446744073709551616 := fun h => Nat.lt_of_le_of_lt (Nat.pow_le_pow_right (by decide) (show x ≤ 7 by omega)) (by decide)
      have hP8e : x = 8 → 256 ^ x = 18446744073709551616 := fun h => by rw [h]
      have hP0 : 0 < 256 ^ x := Nat.pow_pos (by decide)
      have hPp : (2 : Int) ^ (8 * x) = ((256 ^ x : Nat) : Int) := by rw [Pk.pow256]; simp
      obtain ⟨P, hP⟩ : ∃ P, 256 ^ x = P := ⟨_, rfl⟩
      rw [hP] at hP8 hP7 hP8e hP0 hPp HX
      have HX' : Hid (Pk.xsOf l bs (k + 1) = Pk.xsOf l bs k ++ [n % P]) := HX
      clear hn hc hsm hx HW HX hc1' hc2' hP
      by_cases h8 : x < 8
      · have hP64 := hP7 h8
        have hwr : IntKind.u64.wrap ((2 : Int) ^ (8 * x)) = (P : Int) := by rw [hPp, IntKind.wrap_u64]; omega
        have hPne : ((P : Int) == 0) = false := by rw [beq_eq_false_iff_ne]; omega
        clear hPp hP7 hP8e
        go_wp2_with (first | (at_builtin; refine wpList_append_own _ rfl _ _ 23 rfl w.heap.size 3 i0 (.int .i64 0) 1 8 Try.underlying23 hi hz0 hz1 hz2 rfl (by decide) u6 k ((Pk.wsOf bs k).map (Value.int .i64)) rfl (hl2.alloc _) ⟨wr.heap.size, 0, none⟩ 1 1 [.int .i64 (x : Nat)] rfl rfl (cell_one_new _ _ _) (by simp [Value.oneCell']) (by unfold maxLen; omega) (by omega) (by simp; omega) ?_; intro vl wl hl' gl _; obtain ⟨gl', cl', rfl⟩ := ownsRow_succ hl'; have hs1 := ownsRow_across hx2 hl2 (by decide) gl; have bl := below_append hl2 hBs gl; have bls := (hB.trans bl).size; have hd1 := (bl.cell (p := ⟨b1, o1 + k, none⟩) hb1).trans hc1) | (at_builtin; refine wpList_append_own _ rfl _ _ 22 rfl w.heap.size 24 i1 (.int .u64 0) 1 8 Try.underlying22 hj hy0 hy1 hy2 rfl (by decide) u7 k (((Pk.xsOf l bs k).map (fun n : Nat => (n : Int))).map (Value.int .u64)) rfl (hs1.alloc _) ⟨wl.heap.size, 0, none⟩ 1 1 [.int .u64 ((n : Int) % (P : Int))] rfl rfl (cell_one_new _ _ _) (by simp [Value.oneCell']) (by unfold maxLen; omega) (by omega) (by simp; omega) ?_; intro vx wx hs' gx _; obtain ⟨gx', cx', rfl⟩ := ownsRow_succ hs'; have hl2 := ownsRow_across hl' hs1 (by decide) gx; have bx := below_append hs1 bls gx))
        go_roundw
        case rel =>
          have hr : ∃ k_1 : Nat, k_1 ≤ m ∧ Value.int .i64 ((k : Int) + 1) = Value.int .i64 (k_1 : Int) ∧ Value.int .i64 ((sm : Int) + (x : Int)) = Value.int .i64 (Pk.sumOf bs k_1 : Nat) ∧ wx.ownsRow w.heap.size 3 1 (.slice (some ⟨gl', 0, none⟩) (k + 1) cl') k_1 ((Pk.wsOf bs k_1).map (Value.int .i64)) ∧ wx.ownsRow w.heap.size 24 1 (.slice (some ⟨gx', 0, none⟩) (k + 1) cx') k_1 (((Pk.xsOf l bs k_1).map (fun n : Nat => (n : Int))).map (Value.int .u64)) ∧ Below w.heap.size w wx :=
            ⟨k + 1, by omega, by go_num, by rw [HS.out]; go_num, by rw [HW'.out, ← map_snoc]; exact hl2, by rw [HX'.out, ← natCast_snoc, ← map_snoc, Int.natCast_emod]; exact hs', (hB.trans bl).trans bx⟩
          first | exact hr | ((repeat apply Exists.intro); exact ⟨hr, rfl, rfl, rfl, rfl⟩)
        case measure => simp [intOf]; omega
      · have hx88 : x = 8 := by omega
        have hPe := hP8e hx88
        have hnP : n % P = n := by rw [hPe]; exact Nat.mod_eq_of_lt hn64
        have HX' : Hid (Pk.xsOf l bs (k + 1) = Pk.xsOf l bs k ++ [n]) := by show _ = _; rw [HX'.out, hnP]
        clear hPp hP7 hP8e hPe hnP hx88
        go_wp2_with (first | (at_builtin; refine wpList_append_own _ rfl _ _ 23 rfl w.heap.size 3 i0 (.int .i64 0) 1 8 Try.underlying23 hi hz0 hz1 hz2 rfl (by decide) u6 k ((Pk.wsOf bs k).map (Value.int .i64)) rfl (hl2.alloc _) ⟨wr.heap.size, 0, none⟩ 1 1 [.int .i64 (x : Nat)] rfl rfl (cell_one_new _ _ _) (by simp [Value.oneCell']) (by unfold maxLen; omega) (by omega) (by simp; omega) ?_; intro vl wl hl' gl _; obtain ⟨gl', cl', rfl⟩ := ownsRow_succ hl'; have hs1 := ownsRow_across hx2 hl2 (by decide) gl; have bl := below_append hl2 hBs gl; have bls := (hB.trans bl).size; have hd1 := (bl.cell (p := ⟨b1, o1 + k, none⟩) hb1).trans hc1) | (at_builtin; refine wpList_append_own _ rfl _ _ 22 rfl w.heap.size 24 i1 (.int .u64 0) 1 8 Try.underlying22 hj hy0 hy1 hy2 rfl (by decide) u7 k (((Pk.xsOf l bs k).map (fun n : Nat => (n : Int))).map (Value.int .u64)) rfl (hs1.alloc _) ⟨wl.heap.size, 0, none⟩ 1 1 [.int .u64 ((n : Nat))] rfl rfl (cell_one_new _ _ _) (by simp [Value.oneCell']) (by unfold maxLen; omega) (by omega) (by simp; omega) ?_; intro vx wx hs' gx _; obtain ⟨gx', cx', rfl⟩ := ownsRow_succ hs'; have hl2 := ownsRow_across hl' hs1 (by decide) gx; have bx := below_append hs1 bls gx))
        go_roundw
        case rel =>
          have hr : ∃ k_1 : Nat, k_1 ≤ m ∧ Value.int .i64 ((k : Int) + 1) = Value.int .i64 (k_1 : Int) ∧ Value.int .i64 ((sm : Int) + (x : Int)) = Value.int .i64 (Pk.sumOf bs k_1 : Nat) ∧ wx.ownsRow w.heap.size 3 1 (.slice (some ⟨gl', 0, none⟩) (k + 1) cl') k_1 ((Pk.wsOf bs k_1).map (Value.int .i64)) ∧ wx.ownsRow w.heap.size 24 1 (.slice (some ⟨gx', 0, none⟩) (k + 1) cx') k_1 (((Pk.xsOf l bs k_1).map (fun n : Nat => (n : Int))).map (Value.int .u64)) ∧ Below w.heap.size w wx :=
            ⟨k + 1, by omega, by go_num, by rw [HS.out]; go_num, by rw [HW'.out, ← map_snoc]; exact hl2, by rw [HX'.out, ← natCast_snoc, ← map_snoc]; exact hs', (hB.trans bl).trans bx⟩
          first | exact hr | ((repeat apply Exists.intro); exact ⟨hr, rfl, rfl, rfl, rfl⟩)
        case measure => simp [intOf]; omega
    · have hkm : k = m := by omega
      subst hkm
      obtain ⟨av, cv, rfl, rv, _⟩ := RowI.of_owns hl2
      obtain ⟨ax, cx, rfl, rx0, _⟩ := RowI.of_owns hx2
      have hok := Pk.wsOf_ok bs hm64
      have hln : (Pk.xsOf l bs k).length = (Pk.wsOf bs k).length := by rw [Pk.wsOf_length, Pk.xsOf_length]
      have hft := Pk.xsOf_fit l bs k
      have E1 : Pk.encE (Pk.xsOf l bs k) (Pk.wsOf bs k) = 0 := Pk.encE_yes hok hln hft
      have E2 : (Pk.encS (Pk.xsOf l bs k) (Pk.wsOf bs k)).size = Pk.sumOf bs k := by rw [Pk.encS_size hok hln hft, Pk.wsOf_length, Pk.offs_sum bs k k (Nat.le_refl _)]
      have E3 : (Pk.encS (Pk.xsOf l bs k) (Pk.wsOf bs k)).data.toList = Pk.enc (Pk.xsOf l bs k) (Pk.wsOf bs k) := rfl
      have E4 : Pk.dec (Pk.encS (Pk.xsOf l bs k) (Pk.wsOf bs k)).data.toList (Pk.wsOf bs k) = Pk.xsOf l bs k := by rw [E3]; exact Pk.dec_enc hok hln hft
      have E5 : Pk.decE (Pk.encS (Pk.xsOf l bs k) (Pk.wsOf bs k)).data.toList (Pk.wsOf bs k) = 0 := Pk.decE_yes hok (by rw [Pk.wsOf_length, Pk.offs_sum bs k k (Nat.le_refl _), ← E2]; simp)
      have rx : RowI .u64 wr ax (Pk.xsOf l bs k).length (fun j => (((Pk.xsOf l bs k).getD j 0 : Nat) : Int)) := rx0.mono (by rw [Pk.xsOf_length]; exact Nat.le_refl _) fun j _ => natCast_getD _ j
      have rv' : RowI .i64 wr av (Pk.wsOf bs k).length (fun j => (Pk.wsOf bs k).getD j 0) := rv.mono (by rw [Pk.wsOf_length]; exact Nat.le_refl _) fun _ _ => rfl
      have hE := (Encode_any (Pk.xsOf l bs k) (Pk.wsOf bs k) (by rw [Pk.xsOf_length]; unfold maxLen; omega) (by rw [Pk.wsOf_length]; unfold maxLen; omega) (Pk.xsOf_lt l bs k) ax av cx cv wr rx rv').mono (fun e w' h => h)
      obtain ⟨q, hq⟩ : ∃ q, Pk.encS (Pk.xsOf l bs k) (Pk.wsOf bs k) = q := ⟨_, rfl⟩
      rw [hq] at E2 E4 E5 hE
      rw [E1] at hE
      have hD := fun (W : World) (h : RowI .i64 W av (Pk.wsOf bs k).length (fun j => (Pk.wsOf bs k).getD j 0)) => Decode_any q (Pk.wsOf bs k) (by unfold maxLen; omega) (by rw [Pk.wsOf_length]; unfold maxLen; omega) av cv W h
      unfold DecAns at hD
      rw [E4, E5] at hD
      have hSm := fun (W : World) (b : Option Addr) (cb : Nat) (h : RowI .u64 W ax (Pk.xsOf l bs k).length (fun j => (((Pk.xsOf l bs k).getD j 0 : Nat) : Int))) (h' : RowI .u64 W b (Pk.xsOf l bs k).length (fun j => (((Pk.xsOf l bs k).getD j 0 : Nat) : Int))) => Same_any (Pk.xsOf l bs k) (Pk.xsOf l bs k) (by rw [Pk.xsOf_length]; unfold maxLen; omega) (by rw [Pk.xsOf_length]; unfold maxLen; omega) ax b cx cb W h h' rfl
      simp only [Pk.wsOf_length, Pk.xsOf_length] at hE hD hSm rx rv'
      have HE : Hid (Calls Try.prog 10 #[.slice ax k cx, .slice av k cv] wr fun e w' => e = .returned (.tuple #[.string q, .int .i64 0]) ∧ Below wr.heap.size wr w') := hE
      have HD : Hid (∀ W : World, RowI .i64 W av k (fun j => (Pk.wsOf bs k).getD j 0) → Calls Try.prog 12 #[.string q, .slice av k cv] W fun e w' => ∃ a cap, e = .returned (.tuple #[.slice a k cap, .int .i64 0]) ∧ RowI .u64 w' a k (fun j => (((Pk.xsOf l bs k).getD j 0 : Nat) : Int)) ∧ Below W.heap.size W w') := hD
      have HM : Hid (∀ (W : World) (b : Option Addr) (cb : Nat), RowI .u64 W ax k (fun j => (((Pk.xsOf l bs k).getD j 0 : Nat) : Int)) → RowI .u64 W b k (fun j => (((Pk.xsOf l bs k).getD j 0 : Nat) : Int)) → Calls Try.prog 16 #[.slice ax k cx, .slice b k cb] W fun e w' => e = .returned (.bool true) ∧ Below W.heap.size W w') := hSm
      have HB : Hid (Below w.heap.size w wr) := hB
      have hqs : ((q.size : Int) == (Pk.sumOf bs k : Nat)) = true := by rw [E2]; simp
      clear hok hln hft E1 E2 E3 E4 E5 hE hD hSm hB hq rx0 rv hl2 hx2
      go_wp2_with fail
      refine HE.out.mono ?_
      rintro e w2 ⟨rfl, b2⟩
      go_wp2_with fail
      refine (HD.out _ (rv'.below b2)).mono ?_
      rintro e w3 ⟨a3, c3, rfl, r3, b3⟩
      go_wp2_with fail
      refine (HM.out _ a3 c3 (rx.below (below2 b2 b3)) r3).mono ?_
      rintro e w4 ⟨rfl, b4⟩
      go_wp2_with fail
      refine (shown3_any _).mono ?_
      rintro e w5 ⟨rfl, b5⟩
      go_wp2
      go_ret
      exact ⟨rfl, HB.out.trans ((below4 b2 b3 b4 b5).mono HB.out.size)⟩

theorem walk (w : World) (a0 : Option Addr) (len0 cap0 : Nat) (z0 : List Int) (w0 : IsRow .u64 w a0 len0 cap0 z0) (a1 : Option Addr) (len1 cap1 : Nat) (z1 : List Int) (w1 : IsRow .u8 w a1 len1 cap1 z1) :
    Calls Try.prog 4 #[.slice a0 len0 cap0, .slice a1 len1 cap1] w fun e w' => e = .returned (.bool true) ∧ Below w.heap.size w w' := by
  obtain ⟨l, rfl, hlm, hf, ha⟩ := w0.rowN 18446744073709551616 (by decide) (fun x hx => by have := bounds_u64 hx; omega)
  obtain ⟨bs, rfl, hbm, hb8, hb⟩ := w1.rowN 256 (by decide) (fun x hx => by have := bounds_u8 hx; omega)
  exact walk_any l bs hlm hbm hf hb8 _ _ _ _ w ha hb

theorem own : ownKnob Try.prog.godebug = none := by kernel_rfl
theorem laidOut : laidOutB Try.prog = true := by kernel_rfl
set_option linter.unusedVariables false in
set_option maxRecDepth 100000 in
theorem lifted (os : Os) (started : os.Started) (H : Type) (enc : TypeId × Value → H) :
    ReturnsInHanded {} Try.checked os 4 .any (Rows.packBackSpec.pre6 enc Try.prog Try.f4 Rows.packBackRow.domain false) (Rows.packBackSpec.post enc Try.prog Try.f4 false true false false) := by
  refine returnsInHanded_of_change (C := Try.checked) own started (by kernel_rfl) Try.func4
    (ChangeSpec.witness6 (enc := enc) (C := Try.checked) false ⟨#[], #[.slice none 0 0, .slice none 0 0], []⟩ 8 (by kernel_rfl) (by kernel_rfl) (by kernel_rfl) (by kernel_rfl)) ?_
  intro W base args ds gs before hval0 hW hcnd _
  have hval : ∀ (j : Nat) t v, Try.f4.params[j]? = some t → args[j]? = some v → Value.okWide Try.prog W .any base t v := hval0
  have hW' := hW
  obtain ⟨p, q, hA0, hV, rfl, hfz, hnd⟩ := hW
  have hA : DataW.TrodAll enc Try.prog W 0 (fun _ => true) true Try.f4.params.toList args.toList ds p := hA0
  rw [Try.params4] at hA hval
  obtain ⟨v0, vs0, d0, ds0, p0, q0, hargs, rfl, rfl, h0, r0⟩ := trodAll_cons hA
  obtain ⟨v1, vs1, d1, ds1, p1, q1, rfl, rfl, rfl, h1, r1⟩ := trodAll_cons r0
  obtain ⟨rfl, rfl, rfl⟩ := trodAll_nil r1
  obtain rfl : args = #[v0, v1] := by cases args; simp_all
  obtain ⟨rfl, rfl⟩ := trodVars_none hV
  obtain ⟨a0, len0, cap0, rfl⟩ := okWide_slice Try.underlying22 (hval 0 22 v0 rfl rfl)
  have k0 := h0
  have lt0 : ∀ x ∈ p0, x.block < W.heap.size := by obtain ⟨m, hm⟩ := k0; exact DataW.trod_lt m _ _ _ hm
  obtain ⟨z0, w0⟩ : ∃ zs, IsRow .u64 W a0 len0 cap0 zs := by
    obtain ⟨fuel, hf⟩ := h0
    rcases open_ints Try.underlying22 Try.underlying24 (by kernel_rfl) hf with ⟨hcs, _⟩ | ⟨x, l, c, zs, hcs, _, hl, hm, hz, _, hcell, hwz⟩
    · simp [Value.cells] at hcs
      obtain ⟨rfl, rfl, rfl⟩ := hcs
      exact ⟨[], .inl ⟨rfl, rfl, rfl, rfl⟩⟩
    · simp [Value.cells] at hcs
      obtain ⟨rfl, rfl, rfl⟩ := hcs
      exact ⟨zs, .inr ⟨_, rfl, hl, hm, by simpa using hz, hcell, hwz⟩⟩
  obtain ⟨a1, len1, cap1, rfl⟩ := okWide_slice Try.underlying36 (hval 1 36 v1 rfl rfl)
  have k1 := h1
  have lt1 : ∀ x ∈ p1, x.block < W.heap.size := by obtain ⟨m, hm⟩ := k1; exact DataW.trod_lt m _ _ _ hm
  obtain ⟨z1, w1⟩ : ∃ zs, IsRow .u8 W a1 len1 cap1 zs := by
    obtain ⟨fuel, hf⟩ := h1
    rcases open_ints Try.underlying36 Try.underlying5 (by kernel_rfl) hf with ⟨hcs, _⟩ | ⟨x, l, c, zs, hcs, _, hl, hm, hz, _, hcell, hwz⟩
    · simp [Value.cells] at hcs
      obtain ⟨rfl, rfl, rfl⟩ := hcs
      exact ⟨[], .inl ⟨rfl, rfl, rfl, rfl⟩⟩
    · simp [Value.cells] at hcs
      obtain ⟨rfl, rfl, rfl⟩ := hcs
      exact ⟨zs, .inr ⟨_, rfl, hl, hm, by simpa using hz, hcell, hwz⟩⟩
  clear hA0 hval0
  simp only [List.append_nil] at hW'
  refine (walk W a0 len0 cap0 z0 w0 a1 len1 cap1 z1 w1).mono fun e W' ⟨he, hg⟩ => ?_
  subst he
  exact ⟨_, rfl, _, _, _, [], _, [], hW', trodAll_mk1 (shut_bool Try.underlying4 _), (trodAll_cons_mk (Below.trod laidOut (by kernel_rfl) (of_decide_eq_true (by kernel_rfl)) k0 hg lt0) (trodAll_cons_mk (Below.trod laidOut (by kernel_rfl) (of_decide_eq_true (by kernel_rfl)) k1 hg lt1) trodAll_mk0)), rfl, hg.frame _, fun h => by cases h⟩
/-- For every input the law returns true, and each argument reads as it did. -/
theorem proved : Rows.PackBackSaid :=
  OpenClaim.holds_of_wide 4 Try.f4 rfl rfl rfl rfl rfl rfl rfl ⟨rfl, rfl, rfl, rfl, rfl⟩ rfl rfl rfl rfl rfl (by kernel_rfl) Try.func4 (by kernel_rfl)
    (of_decide_eq_true (by kernel_rfl)) (by unfold Func.isWrapper; first | (rw [if_pos (by decide +kernel)]; kernel_rfl) | (rw [if_neg (by decide +kernel)]; exact ⟨rfl, rfl⟩))
    (fun os started H enc _ => lifted os started H enc)
end Go.Proofs.Ytokkbfffkligbaa.packBack
