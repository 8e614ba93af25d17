/- For all columns, a number and all bytes the law RefillMore returns true: three that are lost are too many, whichever they are; so nothing is made up (up to the law's own bound on lengths; beyond it the law says nothing). No condition. -/
import Derived.Test.YtjephdeolifbpaaRf06Square
import Derived.Test.YtjephdeolifbpaaRfSeen
import Derived.Test.YtjephdeolifbpaaRef06Same
import Derived.Test.YtjephdeolifbpaaSynOne
import Derived.Deep.LoopGhost
import Derived.ProofKit
import Derived.OpenShut
import Derived.ShutString
import Derived.ChangeOld
import Derived.Below
namespace Go.Proofs.Ytjephdeolifbpaa.refillMore
open Go.ChangeShapes Go.WideShapes Go.ChangeAt Go.RowKit
open Go.ChangeMaps (open_string shut_string)

set_option maxRecDepth 100000 in
set_option maxHeartbeats 8000000 in
theorem core (w : World) (a0 : Option Addr) (n0 cap0 : Nat) (f : Nat → ByteArray) (hr0 : RowS w a0 n0 f) (hm0 : n0 ≤ maxLen) (hsz0 : ∀ j, (f j).size ≤ maxLen) (k : Nat) (hk : k < 256) (a2 : Option Addr) (n2 cap2 : Nat) (U : Nat → Nat) (hU : ∀ j, j < n2 → U j < 256) (hr2 : RowI .u8 w a2 n2 (fun j => (U j : Int))) :
    Calls Try.prog 6 #[.slice a0 n0 cap0, .int .u8 k, .slice a2 n2 cap2] w fun e w' => e = .returned (.bool true) ∧ Below w.heap.size w w' := by
  have HY := heavy6_any w a0 n0 cap0 f hr0 hsz0 hm0 none 0 0 (by decide)
  obtain ⟨r, hr⟩ : ∃ r : Nat, r = k % 7 := ⟨_, rfl⟩
  have hr7 : r < 7 := by omega
  have hrm : (k : Int).tmod 7 = (r : Int) := by rw [hr, Int.tmod_eq_emod_of_nonneg (by omega)]; omega
  obtain ⟨N, hN⟩ : ∃ N, N = 4 + r := ⟨_, rfl⟩
  have e1 : (4 : Int) + (r : Int) = (N : Int) := by omega
  have hN4 : 4 ≤ N := by omega
  have hN10 : N ≤ 10 := by omega
  clear hsz0 hm0 hr hN
  go_enter Try.func6, Try.ntmps6
  go_wp2_with fail
  refine HY.mono ?_
  rintro e w' ⟨hw, h⟩
  subst w'
  clear HY
  rcases h with rfl | ⟨rfl, hL⟩
  · go_wp2_with fail
    refine (shown6_any _).mono ?_
    rintro e w1 ⟨rfl, b1⟩
    go_wp2
    go_ret
    exact ⟨rfl, b1⟩
  · have hn20 := hL.1
    have hF0 := hL.fits
    clear hL
    by_cases hs : (n2 : Int) ≤ 20
    rotate_left
    · have hs1 : (20 : Int) < (n2 : Int) := by omega
      clear hs
      go_wp2_with fail
      refine (shown6_any _).mono ?_
      rintro e w1 ⟨rfl, b1⟩
      go_wp2
      go_ret
      exact ⟨rfl, b1⟩
    have hs1 : ¬ (20 : Int) < (n2 : Int) := by omega
    go_wp2_with fail
    refine (shown6_any _).mono ?_
    rintro e w1 ⟨rfl, b1⟩
    obtain ⟨M, hM⟩ : ∃ M : Nat → Nat, M = fun j => U j % N := ⟨_, rfl⟩
    have HMU : Hid (∀ j, M j = U j % N) := fun j => by rw [hM]
    have HML : Hid (∀ j, M j < N) := fun j => by rw [hM]; exact Nat.mod_lt _ (by omega)
    have HU : Hid (∀ j, j < n2 → U j < 256) := hU
    have R0 : Hid (RowS w1 a0 n0 f) := hr0.below b1
    have R2 : Hid (RowI .u8 w1 a2 n2 (fun j => (U j : Int))) := hr2.below b1
    have B1 : Hid (Below w.heap.size w w1) := b1
    have HF0 : Hid (Fits 1048576 n0 f) := hF0
    have hmk := run_make_row' (P := Try.prog) 37 4 (.bool false) 1 Try.underlying37 (by kernel_rfl) rfl .i64 .i64 N (by omega) (by omega)
    obtain ⟨i0, hi, hz0, hz1, hz2⟩ := info_parts (show (Try.prog.info? 3).map (fun i => (i.zero, i.size, i.bytes)) = some (some (.int .i64 0), 1, 8) by kernel_rfl)
    have hszA : (w1.alloc (.cells #[] 3)).heap.size = w1.heap.size + 1 := by simp
    have OWNS : Hid (((w1.alloc (.cells #[] 3)).alloc (.cells (madeCells #[.bool false] N) 4)).ownsRow w1.heap.size 4 1 (.slice (some ⟨w1.heap.size + 1, 0, none⟩) N N) N (Rf.seenV M 0 N)) := by
      have h := World.ownsRow_lit (base := w1.heap.size) (e := 4) (size := 1) (w1.alloc (.cells #[] 3)) (madeCells #[.bool false] N) N (by simp) (by unfold maxLen; omega) (by rw [size_madeCells]; omega)
      rw [hszA, Rf.seenV_zero M] at h
      exact h
    have OWNP : Hid (((w1.alloc (.cells #[] 3)).alloc (.cells (madeCells #[.bool false] N) 4)).ownsRow w1.heap.size 3 1 (.slice (some ⟨w1.heap.size, 0, none⟩) 0 0) 0 (Rf.placeV M 0)) := (World.ownsRow_made (base := w1.heap.size) (e := 3) (size := 1) w1 #[] 0 (Nat.le_refl _) (by decide) rfl).alloc _
    clear hszA hM hU hr0 hr2 b1 hF0
    go_wp2
    go_loopg [8, 10, 11] n2 (fun gg u x _ wr => ∃ (i gP cP q : Nat), i ≤ n2 ∧ gg = n2 - i ∧ u = .slice (some ⟨gP, 0, none⟩) q cP ∧ x = .int .i64 i ∧ q = (Rf.plL M i).length ∧ wr.ownsRow w1.heap.size 3 1 (.slice (some ⟨gP, 0, none⟩) q cP) q (Rf.placeV M i) ∧ wr.ownsRow w1.heap.size 4 1 (.slice (some ⟨w1.heap.size + 1, 0, none⟩) N N) N (Rf.seenV M i N) ∧ Below w1.heap.size w1 wr)
    case atStart => exact ⟨0, w1.heap.size, 0, 0, Nat.zero_le _, rfl, rfl, rfl, rfl, OWNP.out, OWNS.out, ((Below.refl _ w1).alloc (Nat.le_refl _) _).alloc (by simp) _⟩
    case round =>
      obtain ⟨i, gP, cP, q, hi2, rfl, rfl, rfl, hq, ownP, ownS, hb⟩ := hrel
      have HQ : Hid (q = (Rf.plL M i).length) := hq
      have hq20 : q ≤ 20 := by have := Rf.plL_len M i; omega
      have OP : Hid (wr.ownsRow w1.heap.size 3 1 (.slice (some ⟨gP, 0, none⟩) q cP) q (Rf.placeV M i)) := ownP
      have OS : Hid (wr.ownsRow w1.heap.size 4 1 (.slice (some ⟨w1.heap.size + 1, 0, none⟩) N N) N (Rf.seenV M i N)) := ownS
      have HB : Hid (Below w1.heap.size w1 wr) := hb
      have hsz := hb.size
      clear hq ownP ownS hb
      by_cases hin : i < n2
      · have R2r := R2.out.below HB.out
        obtain ⟨b2, o2, rfl, hc2⟩ := R2r i hin
        replace hc2 : wr.cell? ⟨b2, o2 + i, none⟩ = some (.int .u8 ((U i : Nat) : Int)) := hc2
        have hu := HU.out i hin
        have hMi := HMU.out i
        have hML := HML.out i
        obtain ⟨x, hx⟩ : ∃ x, U i = x := ⟨_, rfl⟩
        obtain ⟨y, hy⟩ : ∃ y, M i = y := ⟨_, rfl⟩
        have HYI : Hid (M i = y) := hy
        rw [hx] at hc2 hu hMi
        rw [hy] at hMi hML
        have m1 : (x : Int).tmod (N : Int) = (y : Int) := by rw [Int.tmod_eq_emod_of_nonneg (by omega), hMi]; omega
        have hcy : wr.cell? ⟨w1.heap.size + 1, y, none⟩ = some (.bool (decide (y ∈ Rf.plL M i))) := by rw [OS.out.cellAt y (by omega)]; exact Rf.seenV_at M i hML
        have hfy : wr.frozen? ⟨w1.heap.size + 1, y, none⟩ = false := OS.out.frozenAt y
        clear R2r hx hy hMi
        by_cases hin2 : y ∈ Rf.plL M i
        · rw [decide_eq_true hin2] at hcy
          have HI : Hid (M i ∈ Rf.plL M i) := by show _ ∈ _; rw [HYI.out]; exact hin2
          clear hin2
          go_wp2
          have own5 := (OS.out.stored y (.bool true)).1
          have h7 := Rf.seenV_new (M := M) i N
          rw [HYI.out] at h7
          rw [h7] at own5
          have ownP5 := OP.out.kept (OS.out.stored y (.bool true)).2 (ownsRow_apart OP.out OS.out (by decide))
          rw [← Rf.placeV_old HI.out] at ownP5
          go_roundg (n2 - (i + 1))
          case measure => omega
          case rel => exact ⟨i + 1, gP, cP, q, by omega, rfl, rfl, by go_num, by rw [Rf.plL_old HI.out]; exact HQ.out, ownP5, own5, HB.out.setCell (p := ⟨w1.heap.size + 1, y, none⟩) (by simp) _⟩
        · rw [decide_eq_false hin2] at hcy
          have HI : Hid (¬ M i ∈ Rf.plL M i) := by show ¬ _ ∈ _; rw [HYI.out]; exact hin2
          have t1 : True := trivial
          clear hin2
          go_wp2_with (at_builtin; have _t := t1; go_loud (refine wpList_append_own _ rfl _ _ 23 rfl w1.heap.size 3 i0 (.int .i64 0) 1 8 Try.underlying23 hi hz0 hz1 hz2 rfl (by decide) (.slice (some ⟨gP, 0, none⟩) q cP) q (Rf.placeV M i) rfl (OP.out.alloc _) ⟨wr.heap.size, 0, none⟩ 1 1 [.int .i64 (y : Int)] rfl rfl (cell_one_new _ _ _) (by simp [Value.oneCell']) (by unfold maxLen; omega) (by omega) (by simp; omega) ?_; intro v' w5 hown5 hgrow5 _; (have hp := Rf.placeV_new HI.out); rw [HYI.out] at hp; rw [hp] at hown5; obtain ⟨g5, cap5, rfl⟩ := ownsRow_succ hown5; (have ownS5 := ownsRow_across OS.out OP.out (by decide) hgrow5); (have bl := below_append OP.out hsz hgrow5); (have hcy5 : w5.cell? ⟨w1.heap.size + 1, y, none⟩ = some (.bool false) := by rw [ownS5.cellAt y (by omega), ← OS.out.cellAt y (by omega)]; exact hcy); (have hfy5 : w5.frozen? ⟨w1.heap.size + 1, y, none⟩ = false := ownS5.frozenAt y); (have OP5 : Hid (w5.ownsRow w1.heap.size 3 1 (.slice (some ⟨g5, 0, none⟩) (q + 1) cap5) (q + 1) (Rf.placeV M (i + 1))) := hown5); (have OS5 : Hid (w5.ownsRow w1.heap.size 4 1 (.slice (some ⟨w1.heap.size + 1, 0, none⟩) N N) N (Rf.seenV M i N)) := ownS5); (have B5 : Hid (Below w1.heap.size w1 w5) := HB.out.trans bl); clear hown5 hgrow5 hp ownS5 bl t1))
          have own5 := (OS5.out.stored y (.bool true)).1
          have h7 := Rf.seenV_new (M := M) i N
          rw [HYI.out] at h7
          rw [h7] at own5
          have ownP5 := OP5.out.kept (OS5.out.stored y (.bool true)).2 (ownsRow_apart OP5.out OS5.out (by decide))
          go_roundg (n2 - (i + 1))
          case measure => omega
          case rel => exact ⟨i + 1, g5, cap5, q + 1, by omega, rfl, by first | rfl | go_num, by go_num, by rw [Rf.plL_new HI.out]; simp [HQ.out], ownP5, own5, B5.out.setCell (p := ⟨w1.heap.size + 1, y, none⟩) (by simp) _⟩
      · have hii : i = n2 := by omega
        subst hii
        have r0 := R0.out.below HB.out
        have hQ := square_any n0 f (by omega) a0 cap0 N (by omega) HF0.out wr r0
        have BW : Hid (Below w.heap.size w wr) := B1.out.trans (HB.out.mono B1.out.size)
        have HI6 : Hid (∃ cc, cP = cc) := ⟨_, rfl⟩
        obtain ⟨aP, cP', eP, rP, _⟩ := RowI.of_owns (k := .i64) (l := (Rf.plL M i).map fun n : Nat => (n : Int)) OP.out
        cases eP
        have hcq : q ≤ cP := by
          rcases OP.out.2 with ⟨h9, _⟩ | ⟨g9, cap9, cur9, h9, _, _, hnc, _⟩
          · cases h9
          · cases h9; exact hnc
        clear r0
        go_wp2_with fail
        refine hQ.mono ?_
        rintro e w2 ⟨⟨gR, cR, rfl, own⟩, b2⟩
        obtain ⟨_, _, er, rr, hcR, _⟩ := RowS.of_owns own
        cases er
        have rP2 := rP.below b2
        have b2 := below2 BW.out b2
        obtain ⟨F, hFe⟩ : ∃ F, sqF n0 f = F := ⟨_, rfl⟩
        have FS : ∀ i, (F i).size = 12 := fun i => by rw [← hFe]; exact sqF_size n0 f i
        have FF : ∀ q, Fits 1048576 q F := fun q i _ => by rw [FS]; decide
        rw [hFe] at rr
        obtain ⟨hm60, hm0⟩ := Rf.mayF_numL (l := Rf.plL M i) (N := N) (s := 12) (f := F) hN4 hN10 (fun i _ => FS i) (by decide) (Rf.plL_lt HML.out i) (Rf.plL_once M i)
        rw [← HQ.out] at hm60 hm0
        have h3 := Fill_says N F (by omega) (FF N) (some ⟨gR, 0, none⟩) cR hcR q (Rf.numL (Rf.plL M i)) (by omega) (some ⟨gP, 0, none⟩) cP hcq w2 rr rP2
        unfold FillSays at h3
        clear own hQ hFe FS FF
        by_cases h2 : 2 < q
        · rw [hm60 h2, Rf.kF_no (by decide)] at h3
          have h2i : (2 : Int) < (q : Int) := by omega
          clear hm60 hm0 h2
          go_wp2_with fail
          refine h3.mono ?_
          rintro e w3 ⟨⟨g3, c3, rfl, r3, hc3⟩, b3⟩
          have BE : Hid (Below w.heap.size w w3) := below2 b2 b3
          clear b2 b3 h3
          go_wp2
          go_ret
          exact ⟨rfl, BE.out⟩
        · rw [hm0 h2, Rf.kF_ok] at h3
          have h2i : ¬ (2 : Int) < (q : Int) := by omega
          clear hm60 hm0 h2
          go_wp2_with fail
          refine h3.mono ?_
          rintro e w3 ⟨⟨g3, c3, rfl, r3, hc3⟩, b3⟩
          have BE : Hid (Below w.heap.size w w3) := below2 b2 b3
          clear b2 b3 h3
          go_wp2
          go_ret
          exact ⟨rfl, BE.out⟩

theorem walk (w : World) (a0 : Option Addr) (len0 cap0 : Nat) (z0 : List ByteArray) (w0 : IsStrs w a0 len0 cap0 z0) (a1 : Int) (w1 : (Lit.int .u8 a1).wf = true) (a2 : Option Addr) (len2 cap2 : Nat) (z2 : List Int) (w2 : IsRow .u8 w a2 len2 cap2 z2) :
    Calls Try.prog 6 #[.slice a0 len0 cap0, .int .u8 a1, .slice a2 len2 cap2] w fun e w' => e = .returned (.bool true) ∧ Below w.heap.size w w' := by
  obtain ⟨f, hm, _, hsz, hr⟩ := w0.open6
  obtain ⟨L, _, _, hw, hl⟩ := w2.open6
  have b1 := bounds_u8 w1
  obtain ⟨k, rfl⟩ := Int.eq_ofNat_of_zero_le b1.1
  refine core w a0 len0 cap0 f hr hm hsz k (by omega) a2 len2 cap2 (fun j => (L j).toNat) (fun j hj => ?_) (hl.mono (Nat.le_refl _) fun j hj => ?_)
  · have := bounds_u8 (hw j hj); omega
  · have := bounds_u8 (hw j hj); show L j = (((L j).toNat : Nat) : Int); omega

theorem own : ownKnob Try.prog.godebug = none := by kernel_rfl
theorem laidOut : laidOutB Try.prog = true := by kernel_rfl
set_option linter.unusedVariables false in
set_option maxRecDepth 100000 in
theorem lifted (os : Os) (started : os.Started) (H : Type) (enc : TypeId × Value → H) :
    ReturnsInHanded {} Try.checked os 6 .any (Rows.refillMoreSpec.pre6 enc Try.prog Try.f6 Rows.refillMoreRow.domain false) (Rows.refillMoreSpec.post enc Try.prog Try.f6 false true false false) := by
  refine returnsInHanded_of_change (C := Try.checked) own started (by kernel_rfl) Try.func6
    (ChangeSpec.witness6 (enc := enc) (C := Try.checked) false ⟨#[], #[.slice none 0 0, .int .u8 0, .slice none 0 0], []⟩ 8 (by kernel_rfl) (by kernel_rfl) (by kernel_rfl) (by kernel_rfl)) ?_
  intro W base args ds gs before hval0 hW hcnd _
  have hval : ∀ (j : Nat) t v, Try.f6.params[j]? = some t → args[j]? = some v → Value.okWide Try.prog W .any base t v := hval0
  have hW' := hW
  obtain ⟨p, q, hA0, hV, rfl, hfz, hnd⟩ := hW
  have hA : DataW.TrodAll enc Try.prog W 0 (fun _ => true) true Try.f6.params.toList args.toList ds p := hA0
  rw [Try.params6] at hA hval
  obtain ⟨v0, vs0, d0, ds0, p0, q0, hargs, rfl, rfl, h0, r0⟩ := trodAll_cons hA
  obtain ⟨v1, vs1, d1, ds1, p1, q1, rfl, rfl, rfl, h1, r1⟩ := trodAll_cons r0
  obtain ⟨v2, vs2, d2, ds2, p2, q2, rfl, rfl, rfl, h2, r2⟩ := trodAll_cons r1
  obtain ⟨rfl, rfl, rfl⟩ := trodAll_nil r2
  obtain rfl : args = #[v0, v1, v2] := by cases args; simp_all
  obtain ⟨rfl, rfl⟩ := trodVars_none hV
  obtain ⟨a0, len0, cap0, rfl⟩ := okWide_slice Try.underlying22 (hval 0 22 v0 rfl rfl)
  have k0 := h0
  have lt0 : ∀ x ∈ p0, x.block < W.heap.size := by obtain ⟨m, hm⟩ := k0; exact DataW.trod_lt m _ _ _ hm
  obtain ⟨z0, w0⟩ : ∃ zs, IsStrs W a0 len0 cap0 zs := by
    obtain ⟨fuel, hf⟩ := h0
    rcases open_strings Try.underlying22 Try.underlying9 (by kernel_rfl) hf with ⟨hcs, _⟩ | ⟨x, l, c, zs, hcs, _, hl, hm, hz, _, hcell, hwz⟩
    · simp [Value.cells] at hcs
      obtain ⟨rfl, rfl, rfl⟩ := hcs
      exact ⟨[], .inl ⟨rfl, rfl, rfl, rfl⟩⟩
    · simp [Value.cells] at hcs
      obtain ⟨rfl, rfl, rfl⟩ := hcs
      exact ⟨zs, .inr ⟨_, rfl, hl, hm, by simpa using hz, hcell, hwz⟩⟩
  obtain ⟨a1, rfl, rfl, rfl, w1⟩ := open_int Try.underlying5 (hval 1 5 v1 rfl rfl) h1
  obtain ⟨a2, len2, cap2, rfl⟩ := okWide_slice Try.underlying36 (hval 2 36 v2 rfl rfl)
  have k2 := h2
  have lt2 : ∀ x ∈ p2, x.block < W.heap.size := by obtain ⟨m, hm⟩ := k2; exact DataW.trod_lt m _ _ _ hm
  obtain ⟨z2, w2⟩ : ∃ zs, IsRow .u8 W a2 len2 cap2 zs := by
    obtain ⟨fuel, hf⟩ := h2
    rcases open_ints Try.underlying36 Try.underlying5 (by kernel_rfl) hf with ⟨hcs, _⟩ | ⟨x, l, c, zs, hcs, _, hl, hm, hz, _, hcell, hwz⟩
    · simp [Value.cells] at hcs
      obtain ⟨rfl, rfl, rfl⟩ := hcs
      exact ⟨[], .inl ⟨rfl, rfl, rfl, rfl⟩⟩
    · simp [Value.cells] at hcs
      obtain ⟨rfl, rfl, rfl⟩ := hcs
      exact ⟨zs, .inr ⟨_, rfl, hl, hm, by simpa using hz, hcell, hwz⟩⟩
  clear hA0 hval0
  simp only [List.append_nil] at hW'
  refine (walk W a0 len0 cap0 z0 w0 a1 w1 a2 len2 cap2 z2 w2).mono fun e W' ⟨he, hg⟩ => ?_
  subst he
  exact ⟨_, rfl, _, _, _, [], _, [], hW', trodAll_mk1 (shut_bool Try.underlying4 _), (trodAll_cons_mk (Below.trod laidOut (by kernel_rfl) (of_decide_eq_true (by kernel_rfl)) k0 hg lt0) (trodAll_cons_mk (shut_int Try.underlying5 w1) (trodAll_cons_mk (Below.trod laidOut (by kernel_rfl) (of_decide_eq_true (by kernel_rfl)) k2 hg lt2) trodAll_mk0))), rfl, hg.frame _, fun h => by cases h⟩
/-- For every input the law returns true, and each argument reads as it did. -/
theorem proved : Rows.RefillMoreSaid :=
  OpenClaim.holds_of_wide 6 Try.f6 rfl rfl rfl rfl rfl rfl rfl ⟨rfl, rfl, rfl, rfl, rfl⟩ rfl rfl rfl rfl rfl (by kernel_rfl) Try.func6 (by kernel_rfl)
    (of_decide_eq_true (by kernel_rfl)) (by unfold Func.isWrapper; first | (rw [if_pos (by decide +kernel)]; kernel_rfl) | (rw [if_neg (by decide +kernel)]; exact ⟨rfl, rfl⟩))
    (fun os started H enc _ => lifted os started H enc)
end Go.Proofs.Ytjephdeolifbpaa.refillMore
