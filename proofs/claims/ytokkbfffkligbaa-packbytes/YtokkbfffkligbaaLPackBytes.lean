/- For every text and all widths the law PackBytes returns true: bytes that are unpacked are packed to the same ones; fewer, or more, are none. No condition. -/
import Derived.Test.YtokkbfffkligbaaPackMod
import Derived.ProofKit
import Derived.OpenShut
import Derived.ShutString
import Derived.ChangeOld
import Derived.Below
namespace Go.Proofs.Ytokkbfffkligbaa.packBytes
open Go.ChangeShapes Go.WideShapes Go.ChangeAt Go.RowKit
open Go.ChangeMaps (open_string shut_string)

theorem dec_short (t : ByteArray) (ws : List Int) (k : Nat) (hk : ws.length = k) (hok : Pk.okW ws = true) (hne : t.size ≠ Pk.offs ws ws.length) (ht : t.size ≤ maxLen) (hw : ws.length ≤ maxLen) (b : Option Addr) (cb : Nat) (W : World) (hb : RowI .i64 W b k (fun j => ws.getD j 0)) :
    Calls Try.prog 12 #[.string t, .slice b k cb] W fun e w' => ∃ a cap, e = .returned (.tuple #[.slice a 0 cap, .int .i64 31]) ∧ Below W.heap.size W w' := by
  subst hk
  refine (Decode_any t ws ht hw b cb W hb).mono ?_
  rintro e w' ⟨a, cap, rfl, _, hB⟩
  rw [Pk.dec_short (by simpa using hne), Pk.decE_short hok (by simpa using hne)]
  exact ⟨a, cap, rfl, hB⟩
theorem dec_good (t : ByteArray) (ws : List Int) (k : Nat) (hk : ws.length = k) (hok : Pk.okW ws = true) (he : t.size = Pk.offs ws ws.length) (ht : t.size ≤ maxLen) (hw : ws.length ≤ maxLen) (b : Option Addr) (cb : Nat) (W : World) (hb : RowI .i64 W b k (fun j => ws.getD j 0)) :
    Calls Try.prog 12 #[.string t, .slice b k cb] W fun e w' => ∃ a cap, e = .returned (.tuple #[.slice a k cap, .int .i64 0]) ∧ RowI .u64 w' a k (fun j => (((Pk.dec t.data.toList ws).getD j 0 : Nat) : Int)) ∧ Below W.heap.size W w' := by
  subst hk
  have hl := Pk.dec_length (s := t.data.toList) hok (by simpa using he)
  refine (Decode_any t ws ht hw b cb W hb).mono ?_
  rintro e w' ⟨a, cap, rfl, hr, hB⟩
  rw [Pk.decE_yes hok (by simpa using he)]
  rw [hl] at hr ⊢
  exact ⟨a, cap, rfl, hr, hB⟩
theorem enc_good (t : ByteArray) (ws : List Int) (k : Nat) (hk : ws.length = k) (hok : Pk.okW ws = true) (he : t.size = Pk.offs ws ws.length) (hw : ws.length ≤ maxLen) (a b : Option Addr) (ca cb : Nat) (W : World) (ha : RowI .u64 W a k (fun j => (((Pk.dec t.data.toList ws).getD j 0 : Nat) : Int))) (hb : RowI .i64 W b k (fun j => ws.getD j 0)) :
    Calls Try.prog 10 #[.slice a k ca, .slice b k cb] W fun e w' => e = .returned (.tuple #[.string t, .int .i64 0]) ∧ Below W.heap.size W w' := by
  subst hk
  have he' : t.data.toList.length = Pk.offs ws ws.length := by simpa using he
  have hl := Pk.dec_length hok he'
  have h := Encode_any (Pk.dec t.data.toList ws) ws (by rw [hl]; exact hw) hw (Pk.dec_lt _ _) a b ca cb W (by rw [hl]; exact ha) hb
  have e1 : Pk.encS (Pk.dec t.data.toList ws) ws = t := by
    unfold Pk.encS; rw [Pk.enc_dec hok he']
  rw [hl, e1, Pk.encE_yes hok hl (Pk.dec_fit hok he')] at h
  exact h

set_option maxHeartbeats 4000000 in
theorem walk_any (s : ByteArray) (bs : List Nat) (hsm : s.size ≤ maxLen) (hbm : bs.length ≤ maxLen) (hb8 : ∀ j, bs.getD j 0 < 256) (b : Option Addr) (cb : Nat) (w : World)
    (hb : RowI .u8 w b bs.length (fun j => (bs.getD j 0 : Nat))) :
    Calls Try.prog 5 #[.string s, .slice b bs.length cb] w fun e w' => e = .returned (.bool true) ∧ Below w.heap.size w w' := by
  obtain ⟨i0, hi, hz0, hz1, hz2⟩ := info_parts (show (Try.prog.info? 3).map (fun i => (i.zero, i.size, i.bytes)) = some (some (.int .i64 0), 1, 8) by kernel_rfl)
  have Hsm : Hid (s.size ≤ maxLen) := hsm
  unfold maxLen at hbm hsm
  obtain ⟨m, hm⟩ : ∃ m, m = min bs.length 64 := ⟨_, rfl⟩
  have hmb : m ≤ bs.length := by omega
  have hm64 : m ≤ 64 := by omega
  have hmin : ∀ (ts : Array TypeId) (ty : TypeId) (W : World), (Builtin.min_ ts ty #[.int .i64 (bs.length : Int), .int .i64 64]).run Try.prog W = .ok (.int .i64 (m : Int)) W := by
    intro ts ty W
    simp [Builtin.min_, Builtin.min2]
    repeat' split
    all_goals omega
  clear hm
  go_enter Try.func5, Try.ntmps5
  go_wp2
  go_loopw [5, 6, 7] (fun v s i wr => ∃ k : Nat, k ≤ m ∧ i = .int .i64 k ∧ s = .int .i64 (Pk.sumOf bs k : Nat) ∧ wr.ownsRow w.heap.size 3 1 v k ((Pk.wsOf bs k).map (Value.int .i64)) ∧ Below w.heap.size w wr) (fun _ _ i _ => m - (intOf i).toNat)
  case atStart =>
    exact ⟨0, Nat.zero_le _, rfl, rfl, World.ownsRow_made (base := w.heap.size) (e := 3) (size := 1) w #[] 0 (Nat.le_refl _) (by decide) rfl, (Below.refl _ w).alloc (Nat.le_refl _) _⟩
  case round =>
    obtain ⟨k, hk, rfl, rfl, hl2, hB⟩ := hrel
    have hBs := hB.size
    have hsum := Pk.sumOf_le bs k
    by_cases hlt : k < m
    · obtain ⟨b2, o2, rfl, hc2'⟩ := hb k (by omega)
      have hb2 := World.block_lt_of_cell? w _ hc2'
      have hc2 := (hB.cell (p := ⟨b2, o2 + k, none⟩) hb2).trans hc2'
      have hc256 := hb8 k
      have HS : Hid (Pk.sumOf bs (k + 1) = Pk.sumOf bs k + Pk.wOf (bs.getD k 0)) := rfl
      have HW := Pk.wsOf_succ bs k
      obtain ⟨c, hc⟩ : ∃ c, bs.getD k 0 = c := ⟨_, rfl⟩
      obtain ⟨sm, hsm⟩ : ∃ sm, Pk.sumOf bs k = sm := ⟨_, rfl⟩
      simp only [hc] at hc2 hc256 HS HW
      rw [hsm] at hsum HS ⊢
      obtain ⟨x, hx⟩ : ∃ x, Pk.wOf c = x := ⟨_, rfl⟩
      have hwx : (c : Int) % 8 + 1 = (x : Int) := by rw [← hx]; unfold Pk.wOf; omega
      have hx18 := Pk.wOf_le c
      rw [hx] at HS HW hx18
      obtain ⟨hx1, hx8⟩ := hx18
      have HW' : Hid (Pk.wsOf bs (k + 1) = Pk.wsOf bs k ++ [(x : Int)]) := HW
      clear hc hsm hx HW hc2'
      go_wp2_with (at_builtin; refine wpList_append_own _ rfl _ _ 23 rfl w.heap.size 3 i0 (.int .i64 0) 1 8 Try.underlying23 hi hz0 hz1 hz2 rfl (by decide) u5 k ((Pk.wsOf bs k).map (Value.int .i64)) rfl (hl2.alloc _) ⟨wr.heap.size, 0, none⟩ 1 1 [.int .i64 (x : Nat)] rfl rfl (cell_one_new _ _ _) (by simp [Value.oneCell']) (by unfold maxLen; omega) (by omega) (by simp; omega) ?_; intro vl wl hl' gl _; obtain ⟨gl', cl', rfl⟩ := ownsRow_succ hl'; have bl := below_append hl2 hBs gl; have hd2 := (bl.cell (p := ⟨b2, o2 + k, none⟩) hb2).trans hc2)
      go_roundw
      case rel =>
        have hr : ∃ k_1 : Nat, k_1 ≤ m ∧ Value.int .i64 ((k : Int) + 1) = Value.int .i64 (k_1 : Int) ∧ Value.int .i64 ((sm : Int) + (x : Int)) = Value.int .i64 (Pk.sumOf bs k_1 : Nat) ∧ wl.ownsRow w.heap.size 3 1 (.slice (some ⟨gl', 0, none⟩) (k + 1) cl') k_1 ((Pk.wsOf bs k_1).map (Value.int .i64)) ∧ Below w.heap.size w wl :=
          ⟨k + 1, by omega, by go_num, by rw [HS.out]; go_num, by rw [HW'.out, ← map_snoc]; exact hl', hB.trans bl⟩
        first | exact hr | ((repeat apply Exists.intro); exact ⟨hr, rfl, rfl, rfl⟩)
      case measure => simp [intOf]; omega
    · have hkm : k = m := by omega
      subst hkm
      obtain ⟨av, cv, rfl, rv, _⟩ := RowI.of_owns hl2
      have hok := Pk.wsOf_ok bs hm64
      have rv' : RowI .i64 wr av (Pk.wsOf bs k).length (fun j => (Pk.wsOf bs k).getD j 0) := rv.mono (by rw [Pk.wsOf_length]; exact Nat.le_refl _) fun _ _ => rfl
      have hoff : Pk.offs (Pk.wsOf bs k) (Pk.wsOf bs k).length = Pk.sumOf bs k := by rw [Pk.wsOf_length, Pk.offs_sum bs k k (Nat.le_refl _)]
      have hw64 : (Pk.wsOf bs k).length ≤ maxLen := by rw [Pk.wsOf_length]; unfold maxLen; omega
      have HB : Hid (Below w.heap.size w wr) := hB
      rw [Pk.wsOf_length] at rv'
      obtain ⟨sm, hsm2⟩ : ∃ sm, Pk.sumOf bs k = sm := ⟨_, rfl⟩
      rw [hsm2] at hoff hsum ⊢
      have Hoff : Hid (Pk.offs (Pk.wsOf bs k) (Pk.wsOf bs k).length = sm) := hoff
      have Hok : Hid (Pk.okW (Pk.wsOf bs k) = true) := hok
      have Hw64 : Hid ((Pk.wsOf bs k).length ≤ maxLen) := hw64
      clear hsm2 hoff hok hw64 hB hl2 rv
      by_cases hlts : s.size < sm
      · have hlts' : (s.size : Int) < (sm : Int) := by omega
        have Hne : Hid (s.size ≠ Pk.offs (Pk.wsOf bs k) (Pk.wsOf bs k).length) := by show _ ≠ _; rw [Hoff.out]; omega
        go_wp2_with fail
        refine (dec_short s _ k (Pk.wsOf_length bs k) Hok.out Hne.out Hsm.out Hw64.out av cv _ rv').mono ?_
        rintro e w2 ⟨a2, c2, rfl, b2⟩
        go_wp2_with fail
        refine (shown3_any _).mono ?_
        rintro e w3 ⟨rfl, b3⟩
        go_wp2
        go_ret
        exact ⟨rfl, HB.out.trans ((below2 b2 b3).mono HB.out.size)⟩
      · have hlts' : ¬ (s.size : Int) < (sm : Int) := by omega
        have hle : (sm : Int) ≤ (s.size : Int) := by omega
        obtain ⟨t, ht⟩ : ∃ t, s.extract 0 sm = t := ⟨_, rfl⟩
        have hts : t.size = sm := by rw [← ht]; simp; omega
        have He : Hid (t.size = Pk.offs (Pk.wsOf bs k) (Pk.wsOf bs k).length) := by show _ = _; rw [Hoff.out]; exact hts
        have htl : t.size ≤ 512 := by omega
        have Hxne : Hid ((t ++ (⟨#[120]⟩ : ByteArray)).size ≠ Pk.offs (Pk.wsOf bs k) (Pk.wsOf bs k).length) := by show _ ≠ _; rw [Hoff.out, ByteArray.size_append, hts]; show sm + 1 ≠ sm; omega
        have Hxl : Hid ((t ++ (⟨#[120]⟩ : ByteArray)).size ≤ maxLen) := by show _ ≤ _; rw [ByteArray.size_append]; show t.size + 1 ≤ _; unfold maxLen; omega
        clear hts
        go_wp2_with fail
        refine (shown3_any _).mono ?_
        rintro e w1 ⟨rfl, b1⟩
        go_wp2_with fail
        refine (dec_good t _ k (Pk.wsOf_length bs k) Hok.out He.out (by unfold maxLen; omega) Hw64.out av cv _ (rv'.below b1)).mono ?_
        rintro e w2 ⟨a2, c2, rfl, r2, b2⟩
        go_wp2_with fail
        refine (enc_good t _ k (Pk.wsOf_length bs k) Hok.out He.out Hw64.out a2 av c2 cv _ r2 (rv'.below (below2 b1 b2))).mono ?_
        rintro e w3 ⟨rfl, b3⟩
        go_wp2_with fail
        refine (dec_short _ _ k (Pk.wsOf_length bs k) Hok.out Hxne.out Hxl.out Hw64.out av cv _ (rv'.below (below2 (below2 b1 b2) b3))).mono ?_
        rintro e w4 ⟨a4, c4, rfl, b4⟩
        go_wp2
        go_ret
        exact ⟨rfl, HB.out.trans ((below4 b1 b2 b3 b4).mono HB.out.size)⟩

theorem walk (w : World) (a0 : ByteArray) (w0 : a0.size ≤ maxLen) (a1 : Option Addr) (len1 cap1 : Nat) (z1 : List Int) (w1 : IsRow .u8 w a1 len1 cap1 z1) :
    Calls Try.prog 5 #[.string a0, .slice a1 len1 cap1] w fun e w' => e = .returned (.bool true) ∧ Below w.heap.size w w' := by
  obtain ⟨bs, rfl, hbm, hb8, hb⟩ := w1.rowN 256 (by decide) (fun x hx => by have := bounds_u8 hx; omega)
  exact walk_any a0 bs w0 hbm hb8 _ _ w hb

theorem own : ownKnob Try.prog.godebug = none := by kernel_rfl
theorem laidOut : laidOutB Try.prog = true := by kernel_rfl
set_option linter.unusedVariables false in
set_option maxRecDepth 100000 in
theorem lifted (os : Os) (started : os.Started) (H : Type) (enc : TypeId × Value → H) :
    ReturnsInHanded {} Try.checked os 5 .any (Rows.packBytesSpec.pre6 enc Try.prog Try.f5 Rows.packBytesRow.domain false) (Rows.packBytesSpec.post enc Try.prog Try.f5 false true false false) := by
  refine returnsInHanded_of_change (C := Try.checked) own started (by kernel_rfl) Try.func5
    (ChangeSpec.witness6 (enc := enc) (C := Try.checked) false ⟨#[], #[.string ByteArray.empty, .slice none 0 0], []⟩ 8 (by kernel_rfl) (by kernel_rfl) (by kernel_rfl) (by kernel_rfl)) ?_
  intro W base args ds gs before hval0 hW hcnd _
  have hval : ∀ (j : Nat) t v, Try.f5.params[j]? = some t → args[j]? = some v → Value.okWide Try.prog W .any base t v := hval0
  have hW' := hW
  obtain ⟨p, q, hA0, hV, rfl, hfz, hnd⟩ := hW
  have hA : DataW.TrodAll enc Try.prog W 0 (fun _ => true) true Try.f5.params.toList args.toList ds p := hA0
  rw [Try.params5] at hA hval
  obtain ⟨v0, vs0, d0, ds0, p0, q0, hargs, rfl, rfl, h0, r0⟩ := trodAll_cons hA
  obtain ⟨v1, vs1, d1, ds1, p1, q1, rfl, rfl, rfl, h1, r1⟩ := trodAll_cons r0
  obtain ⟨rfl, rfl, rfl⟩ := trodAll_nil r1
  obtain rfl : args = #[v0, v1] := by cases args; simp_all
  obtain ⟨rfl, rfl⟩ := trodVars_none hV
  obtain ⟨a0, rfl, rfl, rfl, w0⟩ := open_string Try.underlying9 (hval 0 9 v0 rfl rfl) h0
  obtain ⟨a1, len1, cap1, rfl⟩ := okWide_slice Try.underlying36 (hval 1 36 v1 rfl rfl)
  have k1 := h1
  have lt1 : ∀ x ∈ p1, x.block < W.heap.size := by obtain ⟨m, hm⟩ := k1; exact DataW.trod_lt m _ _ _ hm
  obtain ⟨z1, w1⟩ : ∃ zs, IsRow .u8 W a1 len1 cap1 zs := by
    obtain ⟨fuel, hf⟩ := h1
    rcases open_ints Try.underlying36 Try.underlying5 (by kernel_rfl) hf with ⟨hcs, _⟩ | ⟨x, l, c, zs, hcs, _, hl, hm, hz, _, hcell, hwz⟩
    · simp [Value.cells] at hcs
      obtain ⟨rfl, rfl, rfl⟩ := hcs
      exact ⟨[], .inl ⟨rfl, rfl, rfl, rfl⟩⟩
    · simp [Value.cells] at hcs
      obtain ⟨rfl, rfl, rfl⟩ := hcs
      exact ⟨zs, .inr ⟨_, rfl, hl, hm, by simpa using hz, hcell, hwz⟩⟩
  clear hA0 hval0
  simp only [List.append_nil] at hW'
  refine (walk W a0 w0 a1 len1 cap1 z1 w1).mono fun e W' ⟨he, hg⟩ => ?_
  subst he
  exact ⟨_, rfl, _, _, _, [], _, [], hW', trodAll_mk1 (shut_bool Try.underlying4 _), (trodAll_cons_mk (shut_string Try.underlying9 w0) (trodAll_cons_mk (Below.trod laidOut (by kernel_rfl) (of_decide_eq_true (by kernel_rfl)) k1 hg lt1) trodAll_mk0)), rfl, hg.frame _, fun h => by cases h⟩
/-- For every input the law returns true, and each argument reads as it did. -/
theorem proved : Rows.PackBytesSaid :=
  OpenClaim.holds_of_wide 5 Try.f5 rfl rfl rfl rfl rfl rfl rfl ⟨rfl, rfl, rfl, rfl, rfl⟩ rfl rfl rfl rfl rfl (by kernel_rfl) Try.func5 (by kernel_rfl)
    (of_decide_eq_true (by kernel_rfl)) (by unfold Func.isWrapper; first | (rw [if_pos (by decide +kernel)]; kernel_rfl) | (rw [if_neg (by decide +kernel)]; exact ⟨rfl, rfl⟩))
    (fun os started H enc _ => lifted os started H enc)
end Go.Proofs.Ytokkbfffkligbaa.packBytes
