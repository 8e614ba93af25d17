/- The walks of what the library collects of a map's dirty regions, and of the document's own question whether two lists are the same. -/
import Derived.Test.YtlhgafpidkcmcaaDoorIntIter
import Derived.Test.YtlhgafpidkcmcaaDoorKitRow
import Derived.RegionTactic
import Derived.ChangeAlike
import Derived.BigRegion
import Derived.BigQuiet
import Derived.Deep.QuietTactic
import Derived.Deep.RegionHeld3
namespace Go.Proofs.YtlhgafpidkcmcaaDoor
open Go.RowKit Go.Shelf
attribute [local go_sem] Oper.semAt_some

set_option maxRecDepth 100000 in
set_option maxHeartbeats 4000000 in
theorem AppendSeq_bits (d : Nat) (hd : d < 18446744073709551616) (Bs : Nat) (w : World) (hT : In.tab w) (hc : w.cell? ⟨Bs, 0, none⟩ = some (.int .u64 (d : Int))) :
    Calls Tryd.prog 22 #[.slice none 0 0, .func (.func 23) #[] #[.pointer (some ⟨Bs, 0, none⟩)]] w fun e w' => (∃ v, e = .returned v ∧ w'.ownsRow w.heap.size 3 1 v (In.bits d).length (In.iVals (In.ints d))) ∧ Below w.heap.size w w' := by
  have hBs : Bs < w.heap.size := World.block_lt_of_cell? w _ hc
  have kb1 := (Below.refl _ w).alloc (Nat.le_refl w.heap.size) (.cells #[.slice none 0 0] 33)
  have hc1 := (((Below.refl w.heap.size w).alloc (Nat.le_refl w.heap.size) (.cells #[.slice none 0 0] 33)).cell (p := ⟨Bs, 0, none⟩) hBs).trans hc
  have bO := Boxed.new w 33 (.slice none 0 0)
  have hl := In.bits_le d hd
  obtain ⟨i0, hi, hz0, hz1, hz2⟩ := info_parts (show (Tryd.prog.info? 3).map (fun i => (i.zero, i.size, i.bytes)) = some (some (.int .i64 0), 1, 8) by kernel_rfl)
  refine (callsIn_wide (n := 3)).1 ?_
  refine callsIn_of_wp_marks Tryd.func22 rfl trivial ?_ rfl
  simp only [Tryd.ntmps22, List.size_toArray, List.length_cons, List.length_nil, Nat.reduceAdd, Nat.reduceSub, Array.replicate_succ, Array.replicate_zero, List.push_toArray, List.append_toArray, List.nil_append, List.cons_append]
  gi_wp2_with fail
  refine wpIn_rangeFunc_ownG rfl (by decide) (gf := 23) (lb := #[.pointer (some ⟨Bs, 0, none⟩)]) rfl trivial (enters_of Tryd.func23 (by kernel_rfl) rfl)
    (each_stops d hd (3 - 1) (by decide) Bs w _ hT kb1 (by simp; omega) hc1) belowK_t (belowK_b (by simp)) (Below.refl _ _) (fun _ => rfl)
    (fun pre W => (∃ v, Boxed W w.heap.size 33 v ∧ W.ownsRow w.heap.size 3 1 v pre.length (In.iVals pre) ∧ True) ∧ Below w.heap.size w W)
    (fun _ _ _ => False)
    (OwnFrom.and (Own.from (holdsRow_own w.heap.size w.heap.size 33 3 1 (fun pre => pre.length) (fun pre => In.iVals pre) (fun _ _ => True)) _) (ownFrom_below (Nat.le_refl _) (by simp)))
    (fun _ _ _ _ _ hs _ _ => hs)
    ⟨⟨_, bO, World.ownsRow_nil _ _ _ _, trivial⟩, kb1⟩
    (fun x => { tmps := #[.slice none 0 0, .func (.func 23) #[] #[.pointer (some ⟨Bs, 0, none⟩)], .pointer (some ⟨w.heap.size, 0, none⟩), undef, .slice none 0 0, .int .i64 x,
          .func (.func 23) #[] #[.pointer (some ⟨Bs, 0, none⟩)], .int .i64 x, undef, undef, undef, undef, undef], defers := [] }) ?assign ?body ?done ?stop
  case assign =>
    intro l x W K hK
    gi_wp2
    exact hK
  case body =>
    rintro _ pre x W ⟨⟨v, hv, hrow, _⟩, hB⟩ hlt
    have hcv := hv.cell
    have hle := hB.size
    gi_wp2_with (gi_at_builtin; refine wpListIn_append_own _ rfl _ _ 33 rfl w.heap.size 3 i0 (.int .i64 0) 1 8 Tryd.underlying33 hi hz0 hz1 hz2 rfl (by decide) v pre.length (In.iVals pre) rfl (hrow.alloc _) ⟨W.heap.size, 0, none⟩ 1 1 [.int .i64 x] rfl rfl (cell_one_new _ _ _) (by simp [Value.oneCell']) (by unfold maxLen; omega) (by omega) (by simp; omega) ?_; intro v' w1 hown' hgrow _; obtain ⟨g', cap', rfl⟩ := ownsRow_succ hown'; obtain ⟨hv1, hv2, hr2, hk2, hb2⟩ := hv.appended (by decide) hrow (by omega) (by omega) hown' hgrow; have hcv1 := hv1.cell; have hfv1 := hv1.frozen)
    exact ⟨hk2.from _, hb2, ⟨_, hv2, by rw [In.iVals_snoc] at hr2; simpa using hr2, trivial⟩, hB.trans hb2⟩
  case done =>
    rintro D ys W hD hys ⟨⟨v, hv, hrow, _⟩, hB⟩ hK
    subst hys
    rw [In.ints_length] at hrow
    have hcv := hv.cell
    gi_wp2
    refine ⟨by simp, .inl ⟨_, _, rfl, run_takeDeferred hK, ?_⟩⟩
    exact ⟨_, results_tmp (fn := Tryd.f22) rfl _ _ _, ⟨v, rfl, ownsRow_putObj hrow _ hK rfl⟩, hB.trans (belowK_b (w := w) (Nat.le_refl _) W D _ _ (by simp at hD; omega) hK rfl rfl)⟩
  case stop =>
    rintro D c pre W _ _ h _
    exact h.elim

set_option maxRecDepth 100000 in
set_option maxHeartbeats 1000000 in
theorem Collect_bits (d : Nat) (hd : d < 18446744073709551616) (Bs : Nat) (w : World) (hT : In.tab w) (hc : w.cell? ⟨Bs, 0, none⟩ = some (.int .u64 (d : Int))) :
    Calls Tryd.prog 18 #[.func (.func 23) #[] #[.pointer (some ⟨Bs, 0, none⟩)]] w fun e w' => (∃ v, e = .returned v ∧ w'.ownsRow w.heap.size 3 1 v (In.bits d).length (In.iVals (In.ints d))) ∧ Below w.heap.size w w' := by
  have h := AppendSeq_bits d hd Bs w hT hc
  go_enter Tryd.func18, Tryd.ntmps18
  go_wp2_with fail
  refine h.mono ?_
  rintro e w1 ⟨⟨v, rfl, own⟩, b1⟩
  have OWN : Hid (w1.ownsRow w.heap.size 3 1 v (In.bits d).length (In.iVals (In.ints d))) := own
  clear own h
  go_wp2
  go_ret
  exact ⟨⟨_, rfl, OWN.out⟩, b1⟩

set_option maxRecDepth 100000 in
set_option maxHeartbeats 1000000 in
/-- the dirty regions, rising -/
theorem Dirty_any {w : World} {b n d : Nat} {u : Nat → Nat} (h : InAt w b n d u) (hd : d < 18446744073709551616) (hT : In.tab w) :
    Calls Tryd.prog 11 #[.pointer (some ⟨b, 0, none⟩)] w fun e w' => (∃ a cap, e = .returned (.slice a (In.bits d).length cap) ∧ RowI .i64 w' a (In.bits d).length (fun j => (In.ints d).getD j 0)) ∧ Below w.heap.size w w' := by
  have c1 := h.c1
  have cC := Collect_bits d hd w.heap.size (w.alloc (.cells #[.int .u64 (d : Int)] 36)) (hT.kept ((Below.refl _ w).alloc (Nat.le_refl _) _)) (by rw [World.cell?_alloc_mark]; rfl)
  go_enter Tryd.func11, Tryd.ntmps11
  go_wp2_with fail
  refine (each_any d _).mono ?_
  rintro e w1 ⟨rfl, rfl⟩
  go_wp2_with fail
  refine cC.mono ?_
  rintro e w1 ⟨⟨v, rfl, own⟩, b1⟩
  obtain ⟨a, cap, rfl, hR, _⟩ := RowI.of_owns (k := .i64) own
  have HR : Hid (RowI .i64 w1 a (In.bits d).length (fun j => (In.ints d).getD j 0)) := hR
  clear own hR cC
  go_wp2
  go_ret
  exact ⟨⟨_, _, rfl, HR.out⟩, ((Below.refl _ w).alloc (Nat.le_refl _) _).trans (b1.mono (by simp))⟩

set_option maxRecDepth 100000 in
set_option maxHeartbeats 1000000 in
/-- the same numbers are the same -/
theorem same_ints (a b : Option Addr) (n ca cb : Nat) (f : Nat → Int) (hn : n ≤ 1048576) (w : World) (hA : RowI .i64 w a n f) (hB : RowI .i64 w b n f) :
    Calls Tryd.prog 10 #[.slice a n ca, .slice b n cb] w fun e w' => e = .returned (.bool true) ∧ Below w.heap.size w w' := by
  go_enter Tryd.func10, Tryd.ntmps10
  go_wp2
  go_loopw [5] (fun i wr => ∃ k : Nat, k ≤ n ∧ i = .int .i64 k ∧ Below w.heap.size w wr) (fun i _ => n - (intOf i).toNat)
  case atStart => exact ⟨0, Nat.zero_le _, rfl, Below.refl _ w⟩
  case round =>
    obtain ⟨k, hk, rfl, hb⟩ := hrel
    have HB : Hid (Below w.heap.size w wr) := hb
    by_cases hlt : k < n
    · obtain ⟨b1, o1, rfl, d1⟩ := (hA.below hb) k hlt
      obtain ⟨b2, o2, rfl, d2⟩ := (hB.below hb) k hlt
      obtain ⟨x, hx⟩ : ∃ x, x = f k := ⟨_, rfl⟩
      rw [← hx] at d1 d2
      have Ha : Hid (RowI .i64 w (some ⟨b1, o1, none⟩) n f) := hA
      have Hb : Hid (RowI .i64 w (some ⟨b2, o2, none⟩) n f) := hB
      clear hx hA hB hb
      go_wp2
      go_quiet (fail)
      go_wp2
      go_roundw
      case rel => exact ⟨k + 1, by omega, by go_num, below_drewN HB.out _⟩
      case measure => simp [intOf]; omega
    · have hkk : k = n := by omega
      clear hb
      go_wp2
      go_ret
      exact ⟨rfl, HB.out⟩
end Go.Proofs.YtlhgafpidkcmcaaDoor
