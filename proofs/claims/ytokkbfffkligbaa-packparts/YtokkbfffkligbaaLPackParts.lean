/- For all numbers the law PackParts returns true: numbers that are packed one by one are packed at once (up to the law's own bound on lengths; beyond it the law says nothing). No condition. -/
import Derived.Test.YtokkbfffkligbaaPackOne
import Derived.ProofKit
import Derived.OpenShut
import Derived.ShutString
import Derived.ChangeOld
import Derived.Below
namespace Go.Proofs.Ytokkbfffkligbaa.packParts
open Go.ChangeShapes Go.WideShapes Go.ChangeAt Go.RowKit
open Go.ChangeMaps (open_string shut_string)

def eights (n : Nat) : List Int := List.replicate n 8
theorem eights_at {n j : Nat} (h : j < n) : (eights n).getD j 0 = 8 := by simp [eights, h]
theorem eights_snoc (n : Nat) : eights (n + 1) = eights n ++ [8] := List.replicate_succ'
theorem eights_length (n : Nat) : (eights n).length = n := by simp [eights]
theorem eights_ok {n : Nat} (h : n ≤ 64) : Pk.okW (eights n) = true := Pk.okW_of (by rw [eights_length]; exact h) fun j hj => by
  rw [eights_length] at hj; rw [eights_at hj]; decide
theorem eights_wd {n j : Nat} (h : j < n) : Pk.wd (eights n) j = 8 := by unfold Pk.wd; rw [eights_at h]; rfl
theorem eights_offs (n i : Nat) (h : i ≤ n) : Pk.offs (eights n) i = 8 * i := by
  induction i with
  | zero => rfl
  | succ i ih =>
    show Pk.offs (eights n) i + Pk.wd (eights n) i = 8 * (i + 1)
    rw [ih (by omega), eights_wd (by omega)]; omega
theorem fits8 {n : Nat} (h : n < 18446744073709551616) : Pk.fits n 8 = true := (Pk.fits_iff _ _).2 ⟨by decide, h⟩
theorem eights_fit (l : List Nat) (hf : ∀ j, l.getD j 0 < 18446744073709551616) : Pk.fitAll l (eights l.length) = true := (Pk.fitAll_iff _ _).2 fun j hj => by
  rw [eights_length] at hj
  rw [eights_at hj]; exact fits8 (hf j)
theorem next (l : List Nat) (n k : Nat) (h : k < n) : Pk.encP l (eights n) (k + 1) 0 = Pk.encP l (eights n) k 0 ++ Pk.bytesOf (l.getD k 0) 8 := by
  rw [← Pk.encP_next, eights_wd h]; simp [Pk.encP, Pk.bytesOf]

set_option maxHeartbeats 2000000 in
theorem walk_near (l : List Nat) (hl : l.length ≤ 60) (hf : ∀ j, l.getD j 0 < 18446744073709551616) (a : Option Addr) (ca : Nat) (w : World) (ha : RowI .u64 w a l.length (fun j => (l.getD j 0 : Nat))) :
    Calls Try.prog 7 #[.slice a l.length ca] w fun e w' => e = .returned (.bool true) ∧ Below w.heap.size w w' := by
  obtain ⟨i0, hi, hz0, hz1, hz2⟩ := info_parts (show (Try.prog.info? 3).map (fun i => (i.zero, i.size, i.bytes)) = some (some (.int .i64 0), 1, 8) by kernel_rfl)
  have hE := fun (W : World) (b : Option Addr) (cb : Nat) (h : RowI .i64 W b (eights l.length).length (fun j => (eights l.length).getD j 0)) (h' : RowI .u64 W a l.length (fun j => ((l.getD j 0 : Nat) : Int))) => Encode_any l (eights l.length) (by unfold maxLen; omega) (by rw [eights_length]; unfold maxLen; omega) hf a b ca cb W h' h
  have hS := fun (W : World) (b : Option Addr) (cb : Nat) (h : RowI .i64 W b (eights l.length).length (fun j => (eights l.length).getD j 0)) => Size_any (eights l.length) (by rw [eights_length]; unfold maxLen; omega) b cb W h
  have E1 : Pk.encE l (eights l.length) = 0 := Pk.encE_yes (eights_ok (by omega)) (by rw [eights_length]) (eights_fit l hf)
  have e2 : Pk.enc l (eights l.length) = Pk.encP l (eights l.length) l.length 0 := by rw [Pk.enc_yes (eights_ok (by omega)) (by rw [eights_length]) (eights_fit l hf), eights_length]
  have E3 : Pk.sizeN (eights l.length) = 8 * (l.length : Int) := by rw [Pk.sizeN_yes (eights_ok (by omega)), eights_length, eights_offs _ _ (Nat.le_refl _)]; simp
  have E4 : Pk.sizeE (eights l.length) = 0 := Pk.sizeE_yes (eights_ok (by omega))
  have E2 : Hid (Pk.encS l (eights l.length) = ⟨(Pk.encP l (eights l.length) l.length 0).toArray⟩) := by show _ = _; unfold Pk.encS; rw [e2]
  obtain ⟨m, hm⟩ : ∃ m, l.length = m := ⟨_, rfl⟩
  rw [hm] at hl hE hS E1 E2 E3 E4 ha ⊢
  simp only [eights_length] at hE hS
  have HE : Hid (∀ (W : World) (b : Option Addr) (cb : Nat), RowI .i64 W b m (fun j => (eights m).getD j 0) → RowI .u64 W a m (fun j => ((l.getD j 0 : Nat) : Int)) → Calls Try.prog 10 #[.slice a m ca, .slice b m cb] W fun e w' => e = .returned (.tuple #[.string (Pk.encS l (eights m)), .int .i64 (Pk.encE l (eights m))]) ∧ Below W.heap.size W w') := hE
  have HS : Hid (∀ (W : World) (b : Option Addr) (cb : Nat), RowI .i64 W b m (fun j => (eights m).getD j 0) → Calls Try.prog 14 #[.slice b m cb] W fun e w' => e = .returned (.tuple #[.int .i64 (Pk.sizeN (eights m)), .int .i64 (Pk.sizeE (eights m))]) ∧ w' = W) := hS
  have hlt60 : ¬ (60 : Int) < (m : Int) := by omega
  clear hE hS e2 hm
  go_enter Try.func7, Try.ntmps7
  go_wp2_with fail
  refine (shown3_any _).mono ?_
  rintro e w0 ⟨rfl, b0⟩
  go_wp2
  go_loopw [3, 4, 5] (fun v t i wr => ∃ (k : Nat) (tb : ByteArray), k ≤ m ∧ i = .int .i64 k ∧ t = .string tb ∧ tb.data.toList = Pk.encP l (eights m) k 0 ∧ tb.size = 8 * k ∧ wr.ownsRow w.heap.size 3 1 v k ((eights k).map (Value.int .i64)) ∧ Below w.heap.size w wr) (fun _ _ i _ => m - (intOf i).toNat)
  case atStart =>
    exact ⟨0, ⟨#[]⟩, Nat.zero_le _, rfl, rfl, rfl, rfl, World.ownsRow_made (base := w.heap.size) (e := 3) (size := 1) w0 #[] 0 b0.size (by decide) rfl, b0.alloc b0.size _⟩
  case round =>
    obtain ⟨k, tb, hk, rfl, rfl, htl, hts, hl2, hB⟩ := hrel
    have Htl : Hid (tb.data.toList = Pk.encP l (eights m) k 0) := htl
    have Hts : Hid (tb.size = 8 * k) := hts
    have hts' : tb.size ≤ 480 := by omega
    have hBs := hB.size
    by_cases hlt : k < m
    · obtain ⟨b1, o1, rfl, hc1'⟩ := ha k hlt
      have hb1 := World.block_lt_of_cell? w _ hc1'
      have hc1 := (hB.cell (p := ⟨b1, o1 + k, none⟩) hb1).trans hc1'
      have hfk := hf k
      obtain ⟨n, hn⟩ : ∃ n, l.getD k 0 = n := ⟨_, rfl⟩
      simp only [hn] at hc1 hfk
      have Hn : Hid (l.getD k 0 = n) := hn
      have G1 : Pk.encE [n] [8] = 0 := Pk.encE_yes (by decide) rfl (by rw [Pk.one_fit]; exact fits8 hfk)
      have G2 := Pk.one_size n 8 (by decide) (by decide) (fits8 hfk)
      have G3 : Hid ((Pk.encS [n] [8]).data.toList = Pk.bytesOf n 8) := by
        show (Pk.enc [n] [((8 : Nat) : Int)]).toArray.toList = _
        rw [Pk.one_enc n 8 (by decide) (by decide) (fits8 hfk)]
      obtain ⟨q, hq⟩ : ∃ q, Pk.encS [n] [8] = q := ⟨_, rfl⟩
      rw [show ((8 : Nat) : Int) = 8 from rfl, hq] at G2
      rw [hq] at G3
      have Hq : Hid (Pk.encS [n] [8] = q) := hq
      clear hn htl hts hc1' hq
      go_wp2_with (at_builtin; refine wpList_append_own _ rfl _ _ 23 rfl w.heap.size 3 i0 (.int .i64 0) 1 8 Try.underlying23 hi hz0 hz1 hz2 rfl (by decide) u3 k ((eights k).map (Value.int .i64)) rfl (hl2.alloc _) ⟨wr.heap.size, 0, none⟩ 1 1 [.int .i64 8] rfl rfl (cell_one_new _ _ _) (by simp [Value.oneCell']) (by unfold maxLen; omega) (by omega) (by simp; omega) ?_; intro vl wl hl' gl _; obtain ⟨gl', cl', rfl⟩ := ownsRow_succ hl'; have bl := below_append hl2 hBs gl; have hc2 := (bl.cell (p := ⟨b1, o1 + k, none⟩) hb1).trans hc1)
      refine (Encode_one n hfk 8 _).mono ?_
      rintro e w3 ⟨rfl, b3⟩
      rw [G1, Hq.out]
      have hl3 := ownsRow_below hl' b3
      have hB3 := (hB.trans bl).trans (b3.mono (hB.trans bl).size)
      have htq : tb.size + q.size ≤ 1000 := by omega
      go_wp2
      go_roundw
      case rel =>
        have hr : ∃ (k_1 : Nat) (tb_1 : ByteArray), k_1 ≤ m ∧ Value.int .i64 ((k : Int) + 1) = Value.int .i64 (k_1 : Int) ∧ Value.string (tb ++ q) = Value.string tb_1 ∧ tb_1.data.toList = Pk.encP l (eights m) k_1 0 ∧ tb_1.size = 8 * k_1 ∧ w3.ownsRow w.heap.size 3 1 (.slice (some ⟨gl', 0, none⟩) (k + 1) cl') k_1 ((eights k_1).map (Value.int .i64)) ∧ Below w.heap.size w w3 :=
          ⟨k + 1, tb ++ q, by omega, by go_num, rfl, by rw [next l m k hlt, Hn.out, ← Htl.out, ← G3.out]; simp, by rw [ByteArray.size_append, Hts.out, G2]; omega, by rw [eights_snoc, ← map_snoc]; exact hl3, hB3⟩
        first | exact hr | ((repeat apply Exists.intro); exact ⟨hr, rfl, rfl, rfl⟩)
      case measure => simp [intOf]; omega
    · have hkm : k = m := by omega
      subst hkm
      obtain ⟨b, cb, rfl, rb0, _⟩ := RowI.of_owns hl2
      have rb : RowI .i64 wr b k (fun j => (eights k).getD j 0) := rb0
      have htq : tb = Pk.encS l (eights k) := by rw [E2.out]; apply ByteArray.ext; apply Array.toList_inj.1; rw [htl]
      have HB : Hid (Below w.heap.size w wr) := hB
      have ha' := ha.below hB
      subst htq
      obtain ⟨q, hq⟩ : ∃ q, Pk.encS l (eights k) = q := ⟨_, rfl⟩
      have Hq : Hid (Pk.encS l (eights k) = q) := hq
      rw [hq] at hts'
      rw [hq]
      clear hl2 hB rb0 htl hts hq
      go_wp2_with fail
      refine (HE.out _ b cb rb ha').mono ?_
      rintro e w3 ⟨rfl, b3⟩
      rw [E1, Hq.out]
      go_wp2_with fail
      refine (HS.out _ b cb (rb.below b3)).mono ?_
      rintro e w' ⟨rfl, rfl⟩
      rw [E3, E4]
      go_wp2
      go_ret
      exact ⟨rfl, HB.out.trans (b3.mono HB.out.size)⟩

set_option maxHeartbeats 400000 in
theorem walk_far (a : Option Addr) (la ca : Nat) (hla : la ≤ maxLen) (h : 60 < la) (w : World) :
    Calls Try.prog 7 #[.slice a la ca] w fun e w' => e = .returned (.bool true) ∧ Below w.heap.size w w' := by
  unfold maxLen at hla
  have h1' : (60 : Int) < (la : Int) := by omega
  go_enter Try.func7, Try.ntmps7
  go_wp2_with fail
  refine (shown3_any _).mono ?_
  rintro e w1 ⟨rfl, b1⟩
  go_wp2
  go_ret
  exact ⟨rfl, b1⟩

theorem walk (w : World) (a0 : Option Addr) (len0 cap0 : Nat) (z0 : List Int) (w0 : IsRow .u64 w a0 len0 cap0 z0) :
    Calls Try.prog 7 #[.slice a0 len0 cap0] w fun e w' => e = .returned (.bool true) ∧ Below w.heap.size w w' := by
  obtain ⟨l, rfl, hlm, hf, ha⟩ := w0.rowN 18446744073709551616 (by decide) (fun x hx => by have := bounds_u64 hx; omega)
  by_cases h : 60 < l.length
  · exact walk_far _ _ _ hlm h w
  · exact walk_near l (by omega) hf _ _ w ha

theorem own : ownKnob Try.prog.godebug = none := by kernel_rfl
theorem laidOut : laidOutB Try.prog = true := by kernel_rfl
set_option linter.unusedVariables false in
set_option maxRecDepth 100000 in
theorem lifted (os : Os) (started : os.Started) (H : Type) (enc : TypeId × Value → H) :
    ReturnsInHanded {} Try.checked os 7 .any (Rows.packPartsSpec.pre6 enc Try.prog Try.f7 Rows.packPartsRow.domain false) (Rows.packPartsSpec.post enc Try.prog Try.f7 false true false false) := by
  refine returnsInHanded_of_change (C := Try.checked) own started (by kernel_rfl) Try.func7
    (ChangeSpec.witness6 (enc := enc) (C := Try.checked) false ⟨#[], #[.slice none 0 0], []⟩ 8 (by kernel_rfl) (by kernel_rfl) (by kernel_rfl) (by kernel_rfl)) ?_
  intro W base args ds gs before hval0 hW hcnd _
  have hval : ∀ (j : Nat) t v, Try.f7.params[j]? = some t → args[j]? = some v → Value.okWide Try.prog W .any base t v := hval0
  have hW' := hW
  obtain ⟨p, q, hA0, hV, rfl, hfz, hnd⟩ := hW
  have hA : DataW.TrodAll enc Try.prog W 0 (fun _ => true) true Try.f7.params.toList args.toList ds p := hA0
  rw [Try.params7] at hA hval
  obtain ⟨v0, vs0, d0, ds0, p0, q0, hargs, rfl, rfl, h0, r0⟩ := trodAll_cons hA
  obtain ⟨rfl, rfl, rfl⟩ := trodAll_nil r0
  obtain rfl : args = #[v0] := by cases args; simp_all
  obtain ⟨rfl, rfl⟩ := trodVars_none hV
  obtain ⟨a0, len0, cap0, rfl⟩ := okWide_slice Try.underlying22 (hval 0 22 v0 rfl rfl)
  have k0 := h0
  have lt0 : ∀ x ∈ p0, x.block < W.heap.size := by obtain ⟨m, hm⟩ := k0; exact DataW.trod_lt m _ _ _ hm
  obtain ⟨z0, w0⟩ : ∃ zs, IsRow .u64 W a0 len0 cap0 zs := by
    obtain ⟨fuel, hf⟩ := h0
    rcases open_ints Try.underlying22 Try.underlying24 (by kernel_rfl) hf with ⟨hcs, _⟩ | ⟨x, l, c, zs, hcs, _, hl, hm, hz, _, hcell, hwz⟩
    · simp [Value.cells] at hcs
      obtain ⟨rfl, rfl, rfl⟩ := hcs
      exact ⟨[], .inl ⟨rfl, rfl, rfl, rfl⟩⟩
    · simp [Value.cells] at hcs
      obtain ⟨rfl, rfl, rfl⟩ := hcs
      exact ⟨zs, .inr ⟨_, rfl, hl, hm, by simpa using hz, hcell, hwz⟩⟩
  clear hA0 hval0
  simp only [List.append_nil] at hW'
  refine (walk W a0 len0 cap0 z0 w0).mono fun e W' ⟨he, hg⟩ => ?_
  subst he
  exact ⟨_, rfl, _, _, _, [], _, [], hW', trodAll_mk1 (shut_bool Try.underlying4 _), (trodAll_cons_mk (Below.trod laidOut (by kernel_rfl) (of_decide_eq_true (by kernel_rfl)) k0 hg lt0) trodAll_mk0), rfl, hg.frame _, fun h => by cases h⟩
/-- For every input the law returns true, and each argument reads as it did. -/
theorem proved : Rows.PackPartsSaid :=
  OpenClaim.holds_of_wide 7 Try.f7 rfl rfl rfl rfl rfl rfl rfl ⟨rfl, rfl, rfl, rfl, rfl⟩ rfl rfl rfl rfl rfl (by kernel_rfl) Try.func7 (by kernel_rfl)
    (of_decide_eq_true (by kernel_rfl)) (by unfold Func.isWrapper; first | (rw [if_pos (by decide +kernel)]; kernel_rfl) | (rw [if_neg (by decide +kernel)]; exact ⟨rfl, rfl⟩))
    (fun os started H enc _ => lifted os started H enc)
end Go.Proofs.Ytokkbfffkligbaa.packParts
