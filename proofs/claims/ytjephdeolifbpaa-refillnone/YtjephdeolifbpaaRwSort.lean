/- The walks of the library's sorted values of a slice of ints. -/
import Derived.Test.YtjephdeolifbpaaSort
import Derived.Test.YtjephdeolifbpaaRwMay
import Derived.Shelf.Abstract
import Derived.Maps.AppendAt
import Derived.RangeFuncWrites
import Derived.RangeFuncNested
import Derived.RangeFuncBox
import Derived.Lib.SlKeysI
import Derived.RangeFuncLeaves
import Derived.LoopNIn
import Derived.LoopIn
import Derived.Test.YtjephdeolifbpaaKitRound
import Derived.Lib.JoinLaws
import Derived.TacticsInMore
import Derived.OwnWalkIn
namespace Go.Proofs.Ytjephdeolifbpaa
open Go.RowKit Go.Shelf
attribute [local go_sem] Oper.semAt_some

/-- the ints L 0 to L (k - 1) -/
def Rf.uptoL (L : Nat → Int) (k : Nat) : List Int := (List.range k).map L
theorem Rf.uptoL_succ (L : Nat → Int) (k : Nat) : Rf.uptoL L (k + 1) = Rf.uptoL L k ++ [L k] := by simp [Rf.uptoL, List.range_succ]
theorem Rf.uptoL_length (L : Nat → Int) (k : Nat) : (Rf.uptoL L k).length = k := by simp [Rf.uptoL]

theorem Values_any (a : Option Addr) (n cap : Nat) (w : World) :
    Calls Try.prog 68 #[.slice a n cap] w fun e w' => e = .returned (.func (.func 84) #[] #[.pointer (some ⟨w.heap.size, 0, none⟩)]) ∧ w' = w.alloc (.cells #[.slice a n cap] 23) := by
  go_enter Try.func68, Try.ntmps68
  go_wp2
  go_ret
  exact ⟨rfl, rfl⟩

set_option maxRecDepth 100000 in
set_option maxHeartbeats 2000000 in
theorem values1_in (n : Nat) (hn : n ≤ 1048576) (m : Nat) (hm : 1 ≤ m) (l Bs cap : Nat) (a : Option Addr) (L : Nat → Int) (w0 : World) (J Jx : List Int → World → Prop)
    (hY : ∀ pre x W, J pre W → pre.length < n → YieldAt Fence.wide (m - 1) Try.prog l #[.int .i64 x] W fun e W' =>
      (e = .returned (.bool true) ∧ J (pre ++ [x]) W' ∧ Below w0.heap.size W W') ∨ (e = .returned (.bool false) ∧ Jx (pre ++ [x]) W'))
    (W : World) (hW : Below w0.heap.size w0 W) (hBs : W.cell? ⟨Bs, 0, none⟩ = some (.slice a n cap)) (hr : RowI .i64 w0 a n L) (h0 : J [] W) :
    CallsIn Fence.wide m Try.prog 84 #[.func (.yield l) #[] #[], .pointer (some ⟨Bs, 0, none⟩)] W fun e W' => (∃ v, e = .returned v) ∧
      ((∃ ys : List Int, ys = Rf.uptoL L n ∧ J ys W') ∨ (∃ pre : List Int, True ∧ Jx pre W')) := by
  refine callsIn_of_wp Try.func84 rfl trivial ?_ rfl
  simp only [Try.ntmps84, List.size_toArray, List.length_cons, List.length_nil, Nat.reduceAdd, Nat.reduceSub, Array.replicate_succ, Array.replicate_zero, List.push_toArray, List.append_toArray, List.nil_append, List.cons_append]
  gi_wp2
  gi_loopw [7] (fun i wr => ∃ (k : Nat), k ≤ n ∧ i = .int .i64 k ∧ J (Rf.uptoL L k) wr ∧ Below w0.heap.size w0 wr)
    (fun i _ => n - (intOf i).toNat)
  case atStart => exact ⟨0, Nat.zero_le _, rfl, h0, hW⟩
  case round =>
    obtain ⟨k, hk, rfl, hJ, hb⟩ := hrel
    by_cases hlt : k < n
    · obtain ⟨b, o, rfl, hc⟩ := hr k hlt
      have hc := (hb.cell (p := ⟨b, o + k, none⟩) (World.block_lt_of_cell? w0 _ hc)).trans hc
      obtain ⟨fn, tmps, assign, body, hy, hR⟩ := hY _ (L k) wr hJ (by rw [Rf.uptoL_length]; exact hlt)
      obtain ⟨y, hyy⟩ : ∃ y, L k = y := ⟨_, rfl⟩
      have HY : Hid (L k = y) := hyy
      rw [hyy] at hc hy hR
      clear hyy
      gi_wp2
      refine hR.mono ?_
      rintro e W3 (⟨rfl, hJ3, hk3⟩ | ⟨rfl, hJx3⟩)
      · gi_wp2
        go_roundw
        case rel => exact ⟨k + 1, by omega, by go_num, by rw [Rf.uptoL_succ, HY.out]; exact hJ3, hb.trans hk3⟩
        case measure => simp [intOf]; omega
      · gi_wp2
        refine bodyPost_ret (results_none rfl _ _ _) rfl ?_
        exact ⟨⟨_, rfl⟩, .inr ⟨_, trivial, hJx3⟩⟩
    · have hkk : k = n := by omega
      subst hkk
      gi_wp2
      go_end0
      exact ⟨⟨_, rfl⟩, .inl ⟨_, rfl, hJ⟩⟩

theorem values_stops (n : Nat) (hn : n ≤ 1048576) (m : Nat) (hm : 1 ≤ m) (Bs cap : Nat) (a : Option Addr) (L : Nat → Int) (w0 w : World) (hw : Below w0.heap.size w0 w)
    (hBs : Bs < w.heap.size) (hc : w.cell? ⟨Bs, 0, none⟩ = some (.slice a n cap)) (hr : RowI .i64 w0 a n L) :
    SeqStopsK Fence.wide m Try.prog 84 #[.pointer (some ⟨Bs, 0, none⟩)] (fun x : Int => #[Value.int .i64 x]) (Below w0.heap.size) (fun ys => ys = Rf.uptoL L n) (fun _ => True) n w := fun l J Jx W hW _ _ hY h0 =>
  values1_in n hn m hm l Bs cap a L w0 J Jx hY W (hw.trans (hW.mono hw.size)) ((hW.cell (p := ⟨Bs, 0, none⟩) hBs).trans hc) hr h0

/-- ints as a slice's cells -/
def zVals (l : List Int) : List Value := l.map (Value.int .i64)
theorem zVals_snoc (l : List Int) (x : Int) : zVals l ++ [.int .i64 x] = zVals (l ++ [x]) := by simp [zVals]
theorem zVals_length (l : List Int) : (zVals l).length = l.length := by simp [zVals]

set_option maxRecDepth 100000 in
set_option maxHeartbeats 4000000 in
theorem AppendSeq_any (n : Nat) (hn : n ≤ 1000) (Bs cap : Nat) (a : Option Addr) (L : Nat → Int) (w : World) (hc : w.cell? ⟨Bs, 0, none⟩ = some (.slice a n cap)) (hr : RowI .i64 w a n L) :
    Calls Try.prog 89 #[.slice none 0 0, .func (.func 84) #[] #[.pointer (some ⟨Bs, 0, none⟩)]] w fun e w' => (∃ v, e = .returned v ∧ w'.ownsRow w.heap.size 3 1 v n (zVals (Rf.uptoL L n))) ∧ Below w.heap.size w w' := by
  have hBs : Bs < w.heap.size := World.block_lt_of_cell? w _ hc
  have kb1 := (Below.refl _ w).alloc (Nat.le_refl w.heap.size) (.cells #[.slice none 0 0] 23)
  have hc1 := (((Below.refl w.heap.size w).alloc (Nat.le_refl w.heap.size) (.cells #[.slice none 0 0] 23)).cell (p := ⟨Bs, 0, none⟩) hBs).trans hc
  have bO := Boxed.new w 23 (.slice none 0 0)
  obtain ⟨i0, hi, hz0, hz1, hz2⟩ := info_parts (show (Try.prog.info? 3).map (fun i => (i.zero, i.size, i.bytes)) = some (some (.int .i64 0), 1, 8) by kernel_rfl)
  refine (callsIn_wide (n := 3)).1 ?_
  refine callsIn_of_wp_marks Try.func89 rfl trivial ?_ rfl
  simp only [Try.ntmps89, List.size_toArray, List.length_cons, List.length_nil, Nat.reduceAdd, Nat.reduceSub, Array.replicate_succ, Array.replicate_zero, List.push_toArray, List.append_toArray, List.nil_append, List.cons_append]
  gi_wp2_with fail
  refine wpIn_rangeFunc_ownG rfl (by decide) (gf := 84) (lb := #[.pointer (some ⟨Bs, 0, none⟩)]) rfl trivial (enters_of Try.func84 (by kernel_rfl) rfl)
    (values_stops n (by omega) (3 - 1) (by decide) Bs cap a L w _ kb1 (by simp; omega) hc1 hr) belowK_t (belowK_b (by simp)) (Below.refl _ _) (fun _ => rfl)
    (fun pre W => (∃ v, Boxed W w.heap.size 23 v ∧ W.ownsRow w.heap.size 3 1 v pre.length (zVals pre) ∧ True) ∧ Below w.heap.size w W)
    (fun _ _ _ => False)
    (OwnFrom.and (Own.from (holdsRow_own w.heap.size w.heap.size 23 3 1 (fun pre => pre.length) (fun pre => zVals pre) (fun _ _ => True)) _) (ownFrom_below (Nat.le_refl _) (by simp)))
    (fun _ _ _ _ _ hs _ _ => hs)
    ⟨⟨_, bO, World.ownsRow_nil _ _ _ _, trivial⟩, kb1⟩
    (fun x => { tmps := #[.slice none 0 0, .func (.func 84) #[] #[.pointer (some ⟨Bs, 0, none⟩)], .pointer (some ⟨w.heap.size, 0, none⟩), undef, .slice none 0 0, .int .i64 x,
          .func (.func 84) #[] #[.pointer (some ⟨Bs, 0, none⟩)], .int .i64 x, undef, undef, undef, undef, undef], defers := [] }) ?assign ?body ?done ?stop
  case assign =>
    intro l x W K hK
    gi_wp2
    exact hK
  case body =>
    rintro _ pre x W ⟨⟨v, hv, hrow, _⟩, hB⟩ hlt
    have hcv := hv.cell
    have hle := hB.size
    gi_wp2_with (gi_at_builtin; refine wpListIn_append_own _ rfl _ _ 23 rfl w.heap.size 3 i0 (.int .i64 0) 1 8 Try.underlying23 hi hz0 hz1 hz2 rfl (by decide) v pre.length (zVals pre) rfl (hrow.alloc _) ⟨W.heap.size, 0, none⟩ 1 1 [.int .i64 x] rfl rfl (cell_one_new _ _ _) (by simp [Value.oneCell']) (by unfold maxLen; omega) (by omega) (by simp; omega) ?_; intro v' w1 hown' hgrow _; obtain ⟨g', cap', rfl⟩ := ownsRow_succ hown'; obtain ⟨hv1, hv2, hr2, hk2, hb2⟩ := hv.appended (by decide) hrow (by omega) (by omega) hown' hgrow; have hcv1 := hv1.cell; have hfv1 := hv1.frozen)
    exact ⟨hk2.from _, hb2, ⟨_, hv2, by rw [zVals_snoc] at hr2; simpa using hr2, trivial⟩, hB.trans hb2⟩
  case done =>
    rintro D ys W hD hys ⟨⟨v, hv, hrow, _⟩, hB⟩ hK
    subst hys
    rw [Rf.uptoL_length] at hrow
    have hcv := hv.cell
    gi_wp2
    refine ⟨by simp, .inl ⟨_, _, rfl, run_takeDeferred hK, ?_⟩⟩
    exact ⟨_, results_tmp (fn := Try.f89) rfl _ _ _, ⟨v, rfl, ownsRow_putObj hrow _ hK rfl⟩, hB.trans (belowK_b (w := w) (Nat.le_refl _) W D _ _ (by simp at hD; omega) hK rfl rfl)⟩
  case stop =>
    rintro D c pre W _ _ h _
    exact h.elim

set_option maxRecDepth 100000 in
set_option maxHeartbeats 1000000 in
theorem Collect_any (n : Nat) (hn : n ≤ 1000) (Bs cap : Nat) (a : Option Addr) (L : Nat → Int) (w : World) (hc : w.cell? ⟨Bs, 0, none⟩ = some (.slice a n cap)) (hr : RowI .i64 w a n L) :
    Calls Try.prog 82 #[.func (.func 84) #[] #[.pointer (some ⟨Bs, 0, none⟩)]] w fun e w' => (∃ v, e = .returned v ∧ w'.ownsRow w.heap.size 3 1 v n (zVals (Rf.uptoL L n))) ∧ Below w.heap.size w w' := by
  have h := AppendSeq_any n hn Bs cap a L w hc hr
  go_enter Try.func82, Try.ntmps82
  go_wp2_with fail
  refine h.mono ?_
  rintro e w1 ⟨⟨v, rfl, own⟩, b1⟩
  have OWN : Hid (w1.ownsRow w.heap.size 3 1 v n (zVals (Rf.uptoL L n))) := own
  clear own h
  go_wp2
  go_ret
  exact ⟨⟨_, rfl, OWN.out⟩, b1⟩

open Go.Sort in
theorem sort_ints (blk cap : Nat) (zs : List Int) (w : World) (hH : Holds (Value.int .i64) w blk 0 zs.toArray) (hblk : blk < w.heap.size) (hsz : zs.length < 4611686018427387904) :
    Calls Try.prog 83 #[.slice (some ⟨blk, 0, none⟩) zs.length cap] w fun e w' => e = .returned (.tuple #[]) ∧ ∃ n os, w' = grow (putRow (Value.int .i64) (Sort.ahead w n) blk 0 (zs.mergeSort fun x y => decide (x ≤ y)).toArray) os :=
  AnyM.slices_Sort_int Try.sortA blk 0 cap zs w hH hblk hsz

set_option maxRecDepth 100000 in
set_option maxHeartbeats 1000000 in
theorem Sorted_any (n : Nat) (h0 : 0 < n) (hn : n ≤ 1000) (Bs cap : Nat) (a : Option Addr) (L : Nat → Int) (w : World) (hc : w.cell? ⟨Bs, 0, none⟩ = some (.slice a n cap)) (hr : RowI .i64 w a n L) :
    Calls Try.prog 67 #[.func (.func 84) #[] #[.pointer (some ⟨Bs, 0, none⟩)]] w fun e w' => (∃ g c, e = .returned (.slice (some ⟨g, 0, none⟩) n c) ∧ w'.ownsRow w.heap.size 3 1 (.slice (some ⟨g, 0, none⟩) n c) n (zVals ((Rf.uptoL L n).mergeSort fun x y => decide (x ≤ y)))) ∧ Below w.heap.size w w' := by
  have h := Collect_any n hn Bs cap a L w hc hr
  have hl := Rf.uptoL_length L n
  obtain ⟨zs, hzs⟩ : ∃ zs, Rf.uptoL L n = zs := ⟨_, rfl⟩
  rw [hzs] at h hl
  rw [hzs]
  clear hzs
  subst hl
  go_enter Try.func67, Try.ntmps67
  go_wp2_with fail
  refine h.mono ?_
  rintro e w1 ⟨⟨v, rfl, own⟩, b1⟩
  clear h
  rcases own.2 with ⟨_, hz⟩ | ⟨gb, cp, cur, rfl, hbase, hgb, r1, r2, r3, r4⟩
  · omega
  · have hH : Sort.Holds (Value.int .i64) w1 gb 0 zs.toArray := holds_of_block_i hgb (by rw [Nat.mul_one] at r4; exact r4)
    have hgl : gb < w1.heap.size := (Array.getElem?_eq_some_iff.1 hgb).1
    have cS := sort_ints gb cp zs w1 hH hgl (by omega)
    go_wp2_with fail
    refine cS.mono ?_
    rintro e w2 ⟨rfl, nn, os, rfl⟩
    go_wp2
    go_ret
    exact ⟨⟨gb, cp, rfl, ownsRow_sorted_i (by simp) hbase hgb r1 r2 r3⟩, b1.grown (grownBy_sorted_i _) b1.size (fun j hj => by cases hj; exact hbase)⟩
end Go.Proofs.Ytjephdeolifbpaa
