/- For every number of widths and every width the law PackWidths returns true: widths that are too many, or none, pack nothing, and unpack nothing; of no numbers there are no bytes. No condition. -/
import Derived.Test.YtokkbfffkligbaaPackOne
import Derived.ProofKit
import Derived.OpenShut
import Derived.ShutString
namespace Go.Proofs.Ytokkbfffkligbaa.packWidths
open Go.ChangeShapes Go.WideShapes Go.ChangeAt Go.RowKit
open Go.ChangeMaps (open_string shut_string)

def ones (n : Nat) : List Int := List.replicate n 1
def sevens (n : Nat) : List Nat := List.replicate n 7
theorem ones_at {n j : Nat} (h : j < n) : (ones n).getD j 0 = 1 := by simp [ones, h]
theorem sevens_at {n j : Nat} (h : j < n) : (sevens n).getD j 0 = 7 := by simp [sevens, h]
theorem ones_snoc (n : Nat) : ones (n + 1) = ones n ++ [1] := List.replicate_succ'
theorem sevens_snoc (n : Nat) : sevens (n + 1) = sevens n ++ [7] := List.replicate_succ'
theorem ones_length (n : Nat) : (ones n).length = n := by simp [ones]
theorem sevens_length (n : Nat) : (sevens n).length = n := by simp [sevens]
theorem sevens_lt (n j : Nat) : (sevens n).getD j 0 < 18446744073709551616 := by
  by_cases h : j < n
  · rw [sevens_at h]; decide
  · rw [List.getD_eq_getElem?_getD, List.getElem?_eq_none (by rw [sevens_length]; omega)]; decide
theorem ones_ok {n : Nat} (h : n ≤ 64) : Pk.okW (ones n) = true := Pk.okW_of (by rw [ones_length]; exact h) fun j hj => by
  rw [ones_length] at hj; rw [ones_at hj]; decide
theorem ones_offs (n i : Nat) (h : i ≤ n) : Pk.offs (ones n) i = i := by
  induction i with
  | zero => rfl
  | succ i ih =>
    show Pk.offs (ones n) i + Pk.wd (ones n) i = i + 1
    rw [ih (by omega)]
    unfold Pk.wd
    rw [ones_at (by omega)]; rfl
theorem ones_fit (n : Nat) : Pk.fitAll (sevens n) (ones n) = true := (Pk.fitAll_iff _ _).2 fun j hj => by
  rw [ones_length] at hj
  rw [ones_at hj, sevens_at hj]; decide
theorem one_okW (x : Int) : Pk.okW [x] = Pk.may x := by
  cases e : Pk.may x with
  | true =>
    refine Pk.okW_of (by simp) fun j hj => ?_
    have h0 : j = 0 := by simpa using hj
    rw [h0]; exact (Pk.may_iff x).1 e
  | false => exact Pk.okW_not (j := 0) (by simp) e
theorem zero_fits (x : Int) (h : Pk.may x = true) : Pk.fits 0 x = true := (Pk.fits_iff _ _).2 ⟨(Pk.may_iff x).1 h, Nat.pow_pos (by decide)⟩
theorem one_size_yes {x : Int} (h : Pk.may x = true) : Pk.sizeE [x] = 0 := Pk.sizeE_yes (by rw [one_okW]; exact h)
theorem one_size_no {x : Int} (h : Pk.may x = false) : Pk.sizeE [x] = 1 := Pk.sizeE_no (by rw [one_okW]; exact h)
theorem one_enc_yes {x : Int} (h : Pk.may x = true) : Pk.encE [0] [x] = 0 := Pk.encE_yes (by rw [one_okW]; exact h) rfl (by rw [Pk.one_fit]; exact zero_fits x h)
theorem one_enc_no {x : Int} (h : Pk.may x = false) : Pk.encE [0] [x] = 1 := Pk.encE_size (by rw [one_okW]; exact h)

/-- what the law does behind its loop, of so many widths -/
theorem dec_nil : Pk.decE [] [] = 0 := by decide +kernel

set_option maxHeartbeats 2000000 in
theorem walk_any (n : Nat) (x : Int) (hn : n < 256) (hx : -9223372036854775808 ≤ x ∧ x ≤ 9223372036854775807) (w : World) :
    Calls Try.prog 8 #[.int .u8 n, .int .i64 x] w fun e w' => e = .returned (.bool true) ∧ Below w.heap.size w w' := by
  obtain ⟨i0, hi, hz0, hz1, hz2⟩ := info_parts (show (Try.prog.info? 3).map (fun i => (i.zero, i.size, i.bytes)) = some (some (.int .i64 0), 1, 8) by kernel_rfl)
  obtain ⟨i1, hj, hy0, hy1, hy2⟩ := info_parts (show (Try.prog.info? 24).map (fun i => (i.zero, i.size, i.bytes)) = some (some (.int .u64 0), 1, 8) by kernel_rfl)
  go_enter Try.func8, Try.ntmps8
  go_wp2
  go_loopw [5, 6, 7] (fun l s i wr => ∃ k : Nat, k ≤ n ∧ i = .int .i64 k ∧ wr.ownsRow w.heap.size 3 1 l k ((ones k).map (Value.int .i64)) ∧ wr.ownsRow w.heap.size 24 1 s k (((sevens k).map (fun n : Nat => (n : Int))).map (Value.int .u64)) ∧ Below w.heap.size w wr) (fun _ _ i _ => n - (intOf i).toNat)
  case atStart =>
    have h1 := (World.ownsRow_made (base := w.heap.size) (e := 3) (size := 1) w #[] 0 (Nat.le_refl _) (by decide) rfl).alloc (.cells #[] 24)
    have h2 := World.ownsRow_made (base := w.heap.size) (e := 24) (size := 1) (w.alloc (.cells #[] 3)) #[] 0 (by simp) (by decide) rfl
    rw [World.size_alloc] at h2
    exact ⟨0, Nat.zero_le _, rfl, h1, h2, ((Below.refl _ w).alloc (Nat.le_refl _) _).alloc (by simp) _⟩
  case round =>
    obtain ⟨k, hk, rfl, hl, hs, hB⟩ := hrel
    have hBs := hB.size
    by_cases hlt : k < n
    · go_wp2_with (first | (at_builtin; refine wpList_append_own _ rfl _ _ 23 rfl w.heap.size 3 i0 (.int .i64 0) 1 8 Try.underlying23 hi hz0 hz1 hz2 rfl (by decide) u5 k ((ones k).map (Value.int .i64)) rfl (hl.alloc _) ⟨wr.heap.size, 0, none⟩ 1 1 [.int .i64 1] rfl rfl (cell_one_new _ _ _) (by simp [Value.oneCell']) (by unfold maxLen; omega) (by omega) (by simp; omega) ?_; intro vl wl hl' gl _; obtain ⟨gl', cl', rfl⟩ := ownsRow_succ hl'; have hs1 := ownsRow_across hs hl (by decide) gl; have bl := below_append hl hBs gl; have bls := (hB.trans bl).size) | (at_builtin; refine wpList_append_own _ rfl _ _ 22 rfl w.heap.size 24 i1 (.int .u64 0) 1 8 Try.underlying22 hj hy0 hy1 hy2 rfl (by decide) u6 k (((sevens k).map (fun n : Nat => (n : Int))).map (Value.int .u64)) rfl (hs1.alloc _) ⟨wl.heap.size, 0, none⟩ 1 1 [.int .u64 7] rfl rfl (cell_one_new _ _ _) (by simp [Value.oneCell']) (by unfold maxLen; omega) (by omega) (by simp; omega) ?_; intro vx wx hs' gx _; obtain ⟨gx', cx', rfl⟩ := ownsRow_succ hs'; have hl2 := ownsRow_across hl' hs1 (by decide) gx; have bx := below_append hs1 bls gx))
      go_roundw
      case rel =>
        have hr : ∃ k_1 : Nat, k_1 ≤ n ∧ Value.int .i64 ((k : Int) + 1) = Value.int .i64 (k_1 : Int) ∧ wx.ownsRow w.heap.size 3 1 (.slice (some ⟨gl', 0, none⟩) (k + 1) cl') k_1 ((ones k_1).map (Value.int .i64)) ∧ wx.ownsRow w.heap.size 24 1 (.slice (some ⟨gx', 0, none⟩) (k + 1) cx') k_1 (((sevens k_1).map (fun n : Nat => (n : Int))).map (Value.int .u64)) ∧ Below w.heap.size w wx :=
          ⟨k + 1, by omega, by go_num, by rw [ones_snoc, ← map_snoc]; exact hl2, by rw [sevens_snoc, ← natCast_snoc, ← map_snoc]; exact hs', (hB.trans bl).trans bx⟩
        first | exact hr | ((repeat apply Exists.intro); exact ⟨hr, rfl, rfl, rfl⟩)
      case measure => simp [intOf]; omega
    · have hkn : k = n := by omega
      subst hkn
      obtain ⟨a, ca, rfl, ra, _⟩ := RowI.of_owns hl
      obtain ⟨b, cb, rfl, rb0, _⟩ := RowI.of_owns hs
      have rb : RowI .u64 wr b (sevens k).length (fun j => (((sevens k).getD j 0 : Nat) : Int)) := rb0.mono (by rw [sevens_length]; exact Nat.le_refl _) fun j _ => natCast_getD _ j
      have ra' : RowI .i64 wr a (ones k).length (fun j => (ones k).getD j 0) := ra.mono (by rw [ones_length]; exact Nat.le_refl _) fun _ _ => rfl
      have hS := fun (W : World) (h : RowI .i64 W a (ones k).length (fun j => (ones k).getD j 0)) => Size_any (ones k) (by rw [ones_length]; unfold maxLen; omega) a ca W h
      have hE := fun (W : World) (h : RowI .i64 W a (ones k).length (fun j => (ones k).getD j 0)) (h' : RowI .u64 W b (sevens k).length (fun j => (((sevens k).getD j 0 : Nat) : Int))) => Encode_any (sevens k) (ones k) (by rw [sevens_length]; unfold maxLen; omega) (by rw [ones_length]; unfold maxLen; omega) (sevens_lt k) b a cb ca W h' h
      simp only [ones_length, sevens_length] at hS hE ra' rb
      have HS : Hid (∀ W : World, RowI .i64 W a k (fun j => (ones k).getD j 0) → Calls Try.prog 14 #[.slice a k ca] W fun e w' => e = .returned (.tuple #[.int .i64 (Pk.sizeN (ones k)), .int .i64 (Pk.sizeE (ones k))]) ∧ w' = W) := hS
      have HE : Hid (∀ W : World, RowI .i64 W a k (fun j => (ones k).getD j 0) → RowI .u64 W b k (fun j => (((sevens k).getD j 0 : Nat) : Int)) → Calls Try.prog 10 #[.slice b k cb, .slice a k ca] W fun e w' => e = .returned (.tuple #[.string (Pk.encS (sevens k) (ones k)), .int .i64 (Pk.encE (sevens k) (ones k))]) ∧ Below W.heap.size W w') := hE
      have HB : Hid (Below w.heap.size w wr) := hB
      clear hS hE hl hs hB ra rb0
      by_cases h64 : 64 < k
      · have h64' : (64 : Int) < (k : Int) := by omega
        have E1 : Pk.sizeE (ones k) = 1 := Pk.sizeE_no (Pk.okW_long (by rw [ones_length]; exact h64))
        have E2 : Pk.encE (sevens k) (ones k) = 1 := Pk.encE_size (Pk.okW_long (by rw [ones_length]; exact h64))
        have E3 : Pk.encS (sevens k) (ones k) = ByteArray.mk #[] := by unfold Pk.encS; rw [Pk.enc_size (Pk.okW_long (by rw [ones_length]; exact h64))]
        go_wp2_with fail
        refine (HS.out _ ra').mono ?_
        rintro e w' ⟨rfl, rfl⟩
        rw [E1]
        go_wp2_with fail
        refine (HE.out _ ra' rb).mono ?_
        rintro e w2 ⟨rfl, b2⟩
        have c2 := HB.out.trans (b2.mono HB.out.size)
        have c2a := c2.alloc c2.size (.cells #[.int .i64 x] 3)
        rw [E2, E3]
        go_wp2_with fail
        refine (Size_any [x] (Nat.le_trans (Nat.le_refl 1) (by decide)) (some ⟨w2.heap.size, 0, none⟩) 1 _ (RowI.new .i64 w2 [x] _ 3 rfl)).mono ?_
        rintro e w' ⟨rfl, rfl⟩
        skip
        go_wp2_with fail
        have heo := Encode_one 0 (by decide) x (w2.alloc (.cells #[.int .i64 x] 3))
        rw [World.size_alloc] at heo
        refine heo.mono ?_
        rintro e w3 ⟨rfl, b3⟩
        have c3 := c2a.trans (b3.mono (by have := c2.size; omega))
        skip
        go_wp2_with fail
        refine (Decode_any ⟨#[]⟩ [] (by decide) (by decide) none 0 _ (RowI.nil _ _ _ _)).mono ?_
        rintro e w4 ⟨a4, c4, rfl, r4, b4⟩
        have c4' := c3.trans (b4.mono c3.size)
        rw [dec_nil]
        go_wp2_with fail
        refine (shown3_any _).mono ?_
        rintro e w5 ⟨rfl, b5⟩
        have c5 := c4'.trans (b5.mono c4'.size)
        go_wp2
        go_ret
        first | exact ⟨rfl, c5⟩ | exact ⟨ret_bool (show (!decide (x ≤ 8)) = true from by simp; omega), c5⟩
      · have h64' : ¬ (64 : Int) < (k : Int) := by omega
        have hok := ones_ok (n := k) (by omega)
        have E1 : Pk.sizeE (ones k) = 0 := Pk.sizeE_yes hok
        have E0 : Pk.sizeN (ones k) = (k : Int) := by rw [Pk.sizeN_yes hok, ones_length, ones_offs k k (Nat.le_refl _)]
        have E2 : Pk.encE (sevens k) (ones k) = 0 := Pk.encE_yes hok (by rw [ones_length, sevens_length]) (ones_fit k)
        have E3 : (Pk.encS (sevens k) (ones k)).size = k := by rw [Pk.encS_size hok (by rw [ones_length, sevens_length]) (ones_fit k), ones_length, ones_offs k k (Nat.le_refl _)]
        clear hok
        cases hm : Pk.may x with
        | true =>
          have hm2 := (Pk.may_iff x).1 hm
          have g1 : 1 ≤ x := hm2.1
          have g2 : x ≤ 8 := hm2.2
          have G1 := one_size_yes hm
          have G2 := one_enc_yes hm
          have hdec1 : decide (1 ≤ x) = true := by simp [g1]
          clear hm hm2
          go_wp2_with fail
          refine (HS.out _ ra').mono ?_
          rintro e w' ⟨rfl, rfl⟩
          rw [E1, E0]
          go_wp2_with fail
          refine (HE.out _ ra' rb).mono ?_
          rintro e w2 ⟨rfl, b2⟩
          have c2 := HB.out.trans (b2.mono HB.out.size)
          have c2a := c2.alloc c2.size (.cells #[.int .i64 x] 3)
          rw [E2]
          go_wp2_with fail
          refine (Size_any [x] (Nat.le_trans (Nat.le_refl 1) (by decide)) (some ⟨w2.heap.size, 0, none⟩) 1 _ (RowI.new .i64 w2 [x] _ 3 rfl)).mono ?_
          rintro e w' ⟨rfl, rfl⟩
          rw [G1]
          go_wp2_with fail
          have heo := Encode_one 0 (by decide) x (w2.alloc (.cells #[.int .i64 x] 3))
          rw [World.size_alloc] at heo
          refine heo.mono ?_
          rintro e w3 ⟨rfl, b3⟩
          have c3 := c2a.trans (b3.mono (by have := c2.size; omega))
          rw [G2]
          go_wp2_with fail
          refine (Decode_any ⟨#[]⟩ [] (by decide) (by decide) none 0 _ (RowI.nil _ _ _ _)).mono ?_
          rintro e w4 ⟨a4, c4, rfl, r4, b4⟩
          have c4' := c3.trans (b4.mono c3.size)
          rw [dec_nil]
          go_wp2_with fail
          refine (shown3_any _).mono ?_
          rintro e w5 ⟨rfl, b5⟩
          have c5 := c4'.trans (b5.mono c4'.size)
          go_wp2
          go_ret
          first | exact ⟨rfl, c5⟩ | exact ⟨ret_bool (show (!decide (x ≤ 8)) = true from by simp; omega), c5⟩
        | false =>
          have G1 := one_size_no hm
          have G2 := one_enc_no hm
          by_cases g1 : 1 ≤ x
          · have g2 : 8 < x := by
              rcases Int.lt_or_le 8 x with h | h
              · exact h
              · rw [(Pk.may_iff x).2 ⟨g1, h⟩] at hm; cases hm
            clear hm
            go_wp2_with fail
            refine (HS.out _ ra').mono ?_
            rintro e w' ⟨rfl, rfl⟩
            rw [E1, E0]
            go_wp2_with fail
            refine (HE.out _ ra' rb).mono ?_
            rintro e w2 ⟨rfl, b2⟩
            have c2 := HB.out.trans (b2.mono HB.out.size)
            have c2a := c2.alloc c2.size (.cells #[.int .i64 x] 3)
            rw [E2]
            go_wp2_with fail
            refine (Size_any [x] (Nat.le_trans (Nat.le_refl 1) (by decide)) (some ⟨w2.heap.size, 0, none⟩) 1 _ (RowI.new .i64 w2 [x] _ 3 rfl)).mono ?_
            rintro e w' ⟨rfl, rfl⟩
            rw [G1]
            go_wp2_with fail
            have heo := Encode_one 0 (by decide) x (w2.alloc (.cells #[.int .i64 x] 3))
            rw [World.size_alloc] at heo
            refine heo.mono ?_
            rintro e w3 ⟨rfl, b3⟩
            have c3 := c2a.trans (b3.mono (by have := c2.size; omega))
            rw [G2]
            go_wp2_with fail
            refine (Decode_any ⟨#[]⟩ [] (by decide) (by decide) none 0 _ (RowI.nil _ _ _ _)).mono ?_
            rintro e w4 ⟨a4, c4, rfl, r4, b4⟩
            have c4' := c3.trans (b4.mono c3.size)
            rw [dec_nil]
            go_wp2_with fail
            refine (shown3_any _).mono ?_
            rintro e w5 ⟨rfl, b5⟩
            have c5 := c4'.trans (b5.mono c4'.size)
            go_wp2
            go_ret
            first | exact ⟨rfl, c5⟩ | exact ⟨ret_bool (show (!decide (x ≤ 8)) = true from by simp; omega), c5⟩
          · clear hm
            go_wp2_with fail
            refine (HS.out _ ra').mono ?_
            rintro e w' ⟨rfl, rfl⟩
            rw [E1, E0]
            go_wp2_with fail
            refine (HE.out _ ra' rb).mono ?_
            rintro e w2 ⟨rfl, b2⟩
            have c2 := HB.out.trans (b2.mono HB.out.size)
            have c2a := c2.alloc c2.size (.cells #[.int .i64 x] 3)
            rw [E2]
            go_wp2_with fail
            refine (Size_any [x] (Nat.le_trans (Nat.le_refl 1) (by decide)) (some ⟨w2.heap.size, 0, none⟩) 1 _ (RowI.new .i64 w2 [x] _ 3 rfl)).mono ?_
            rintro e w' ⟨rfl, rfl⟩
            rw [G1]
            go_wp2_with fail
            have heo := Encode_one 0 (by decide) x (w2.alloc (.cells #[.int .i64 x] 3))
            rw [World.size_alloc] at heo
            refine heo.mono ?_
            rintro e w3 ⟨rfl, b3⟩
            have c3 := c2a.trans (b3.mono (by have := c2.size; omega))
            rw [G2]
            go_wp2_with fail
            refine (Decode_any ⟨#[]⟩ [] (by decide) (by decide) none 0 _ (RowI.nil _ _ _ _)).mono ?_
            rintro e w4 ⟨a4, c4, rfl, r4, b4⟩
            have c4' := c3.trans (b4.mono c3.size)
            rw [dec_nil]
            go_wp2_with fail
            refine (shown3_any _).mono ?_
            rintro e w5 ⟨rfl, b5⟩
            have c5 := c4'.trans (b5.mono c4'.size)
            go_wp2
            go_ret
            first | exact ⟨rfl, c5⟩ | exact ⟨ret_bool (show (!decide (x ≤ 8)) = true from by simp; omega), c5⟩

theorem walk (a0 : Int) (w0 : (Lit.int .u8 a0).wf = true) (a1 : Int) (w1 : (Lit.int .i64 a1).wf = true) (w : World) :
    Calls Try.prog 8 #[.int .u8 a0, .int .i64 a1] w fun e w' => e = .returned (.bool true) ∧ Below w.heap.size w w' := by
  have b0 := bounds_u8 w0
  have b1 := bounds_i64 w1
  obtain ⟨n, rfl⟩ := Int.eq_ofNat_of_zero_le b0.1
  exact walk_any n a1 (by omega) (by omega) w

theorem own : ownKnob Try.prog.godebug = none := by kernel_rfl
set_option linter.unusedVariables false in
set_option maxRecDepth 100000 in
theorem lifted (os : Os) (started : os.Started) (H : Type) (enc : TypeId × Value → H) :
    ReturnsInHanded {} Try.checked os 8 .any (Rows.packWidthsSpec.pre6 enc Try.prog Try.f8 Rows.packWidthsRow.domain false) (Rows.packWidthsSpec.post enc Try.prog Try.f8 false true false false) := by
  refine returnsInHanded_of_change (C := Try.checked) own started (by kernel_rfl) Try.func8
    (ChangeSpec.witness6 (enc := enc) (C := Try.checked) false ⟨#[], #[.int .u8 0, .int .i64 0], []⟩ 8 (by kernel_rfl) (by kernel_rfl) (by kernel_rfl) (by kernel_rfl)) ?_
  intro W base args ds gs before hval0 hW hcnd _
  have hval : ∀ (j : Nat) t v, Try.f8.params[j]? = some t → args[j]? = some v → Value.okWide Try.prog W .any base t v := hval0
  have hW' := hW
  obtain ⟨p, q, hA0, hV, rfl, hfz, hnd⟩ := hW
  have hA : DataW.TrodAll enc Try.prog W 0 (fun _ => true) true Try.f8.params.toList args.toList ds p := hA0
  rw [Try.params8] at hA hval
  obtain ⟨v0, vs0, d0, ds0, p0, q0, hargs, rfl, rfl, h0, r0⟩ := trodAll_cons hA
  obtain ⟨v1, vs1, d1, ds1, p1, q1, rfl, rfl, rfl, h1, r1⟩ := trodAll_cons r0
  obtain ⟨rfl, rfl, rfl⟩ := trodAll_nil r1
  obtain rfl : args = #[v0, v1] := by cases args; simp_all
  obtain ⟨rfl, rfl⟩ := trodVars_none hV
  obtain ⟨a0, rfl, rfl, rfl, w0⟩ := open_int Try.underlying5 (hval 0 5 v0 rfl rfl) h0
  obtain ⟨a1, rfl, rfl, rfl, w1⟩ := open_int Try.underlying3 (hval 1 3 v1 rfl rfl) h1
  clear hA0 hval0
  simp only [List.append_nil] at hW'
  refine (walk a0 w0 a1 w1 W).mono fun e W' ⟨he, hg⟩ => ?_
  subst he
  exact ⟨_, rfl, _, _, _, [], [], [], hW', trodAll_mk1 (shut_bool Try.underlying4 _), (trodAll_cons_mk (shut_int Try.underlying5 w0) (trodAll_cons_mk (shut_int Try.underlying3 w1) trodAll_mk0)), rfl, hg.frame _, fun h => by cases h⟩
/-- For every input the law returns true, and each argument reads as it did. -/
theorem proved : Rows.PackWidthsSaid :=
  OpenClaim.holds_of_wide 8 Try.f8 rfl rfl rfl rfl rfl rfl rfl ⟨rfl, rfl, rfl, rfl, rfl⟩ rfl rfl rfl rfl rfl (by kernel_rfl) Try.func8 (by kernel_rfl)
    (of_decide_eq_true (by kernel_rfl)) (by unfold Func.isWrapper; first | (rw [if_pos (by decide +kernel)]; kernel_rfl) | (rw [if_neg (by decide +kernel)]; exact ⟨rfl, rfl⟩))
    (fun os started H enc _ => lifted os started H enc)
end Go.Proofs.Ytokkbfffkligbaa.packWidths
