import Derived.Test.YtdgkhjgnjfgnlaaGreatSort
import Derived.Test.YtdgkhjgnjfgnlaaGreatMRwA
import Derived.Shelf.Abstract
import Derived.Maps.AppendAt
import Derived.RangeFuncWrites
import Derived.RangeFuncNested
import Derived.RangeFuncBox
import Derived.Lib.SlKeysI
import Derived.RangeFuncLeaves
import Derived.LoopNIn
import Derived.LoopIn
import Derived.Test.YtdgkhjgnjfgnlaaGreatMKitD
import Derived.Lib.JoinLaws
import Derived.TacticsInMore
import Derived.OwnWalkIn
import Derived.Laws.StructEq
import Derived.Laws.Cover2
namespace Go.Proofs.YtdgkhjgnjfgnlaaGreat
open Go.RowKit Go.Shelf
attribute [local go_sem] Oper.semAt_some
def Rf.uptoL (L : Nat → Int) (k : Nat) : List Int := (List.range k).map L
theorem Rf.uptoL_succ (L : Nat → Int) (k : Nat) : Rf.uptoL L (k + 1) = Rf.uptoL L k ++ [L k] := by simp [Rf.uptoL, List.range_succ]
theorem Rf.uptoL_length (L : Nat → Int) (k : Nat) : (Rf.uptoL L k).length = k := by simp [Rf.uptoL]
theorem Values_any (a : Option Addr) (n cap : Nat) (w : World) :
  Calls Tryz.prog 146 #[.slice a n cap] w fun e w' => e = .returned (.func (.func 162) #[] #[.pointer (some ⟨w.heap.size, 0, none⟩)]) ∧ w' = w.alloc (.cells #[.slice a n cap] 28) := by
 go_enter Tryz.func146, Tryz.ntmps146
 go_wp2
 go_ret
 exact ⟨rfl, rfl⟩
set_option maxRecDepth 100000 in
set_option maxHeartbeats 2000000 in
theorem values1_in (n : Nat) (hn : n ≤ 1048576) (m : Nat) (hm : 1 ≤ m) (l Bs cap : Nat) (a : Option Addr) (L : Nat → Int) (w0 : World) (J Jx : List Int → World → Prop)
  (hY : ∀ pre x W, J pre W → pre.length < n → YieldAt Fence.wide (m - 1) Tryz.prog l #[.int .i64 x] W fun e W' =>
   (e = .returned (.bool true) ∧ J (pre ++ [x]) W' ∧ Below w0.heap.size W W') ∨ (e = .returned (.bool false) ∧ Jx (pre ++ [x]) W'))
  (W : World) (hW : Below w0.heap.size w0 W) (hBs : W.cell? ⟨Bs, 0, none⟩ = some (.slice a n cap)) (hr : RowI .i64 w0 a n L) (h0 : J [] W) :
  CallsIn Fence.wide m Tryz.prog 162 #[.func (.yield l) #[] #[], .pointer (some ⟨Bs, 0, none⟩)] W fun e W' => (∃ v, e = .returned v) ∧
   ((∃ ys : List Int, ys = Rf.uptoL L n ∧ J ys W') ∨ (∃ pre : List Int, True ∧ Jx pre W')) := by
 refine callsIn_of_wp Tryz.func162 rfl trivial ?_ rfl
 simp only [Tryz.ntmps162, List.size_toArray, List.length_cons, List.length_nil, Nat.reduceAdd, Nat.reduceSub, Array.replicate_succ, Array.replicate_zero, List.push_toArray, List.append_toArray, List.nil_append, List.cons_append]
 gi_wp2
 gi_loopw [7] (fun i wr => ∃ (k : Nat), k ≤ n ∧ i = .int .i64 k ∧ J (Rf.uptoL L k) wr ∧ Below w0.heap.size w0 wr)
  (fun i _ => n - (intOf i).toNat)
 case atStart => exact ⟨0, Nat.zero_le _, rfl, h0, hW⟩
 case round =>
  obtain ⟨k, hk, rfl, hJ, hb⟩ := hrel
  by_cases hlt : k < n
  ·obtain ⟨b, o, rfl, hc⟩ := hr k hlt
   have hc := (hb.cell (p := ⟨b, o + k, none⟩) (World.block_lt_of_cell? w0 _ hc)).trans hc
   obtain ⟨fn, tmps, assign, body, hy, hR⟩ := hY _ (L k) wr hJ (by rw [Rf.uptoL_length]; exact hlt)
   obtain ⟨y, hyy⟩ : ∃ y, L k = y := ⟨_, rfl⟩
   have HY : Hid (L k = y) := hyy
   rw [hyy] at hc hy hR
   clear hyy
   gi_wp2
   refine hR.mono ?_
   rintro e W3 (⟨rfl, hJ3, hk3⟩ | ⟨rfl, hJx3⟩)
   ·gi_wp2
    go_roundw
    case rel => exact ⟨k + 1, by omega, by go_num, by rw [Rf.uptoL_succ, HY.out]; exact hJ3, hb.trans hk3⟩
    case measure => simp [intOf]; omega
   ·gi_wp2
    refine bodyPost_ret (results_none rfl _ _ _) rfl ?_
    exact ⟨⟨_, rfl⟩, .inr ⟨_, trivial, hJx3⟩⟩
  ·have hkk : k = n := by omega
   subst hkk
   gi_wp2
   go_end0
   exact ⟨⟨_, rfl⟩, .inl ⟨_, rfl, hJ⟩⟩
theorem values_stops (n : Nat) (hn : n ≤ 1048576) (m : Nat) (hm : 1 ≤ m) (Bs cap : Nat) (a : Option Addr) (L : Nat → Int) (w0 w : World) (hw : Below w0.heap.size w0 w)
  (hBs : Bs < w.heap.size) (hc : w.cell? ⟨Bs, 0, none⟩ = some (.slice a n cap)) (hr : RowI .i64 w0 a n L) :
  SeqStopsK Fence.wide m Tryz.prog 162 #[.pointer (some ⟨Bs, 0, none⟩)] (fun x : Int => #[Value.int .i64 x]) (Below w0.heap.size) (fun ys => ys = Rf.uptoL L n) (fun _ => True) n w := fun l J Jx W hW _ _ hY h0 =>
 values1_in n hn m hm l Bs cap a L w0 J Jx hY W (hw.trans (hW.mono hw.size)) ((hW.cell (p := ⟨Bs, 0, none⟩) hBs).trans hc) hr h0
def zVals (l : List Int) : List Value := l.map (Value.int .i64)
theorem zVals_snoc (l : List Int) (x : Int) : zVals l ++ [.int .i64 x] = zVals (l ++ [x]) := by simp [zVals]
set_option maxRecDepth 100000 in
set_option maxHeartbeats 4000000 in
theorem AppendSeq_any (n : Nat) (hn : n ≤ 1000) (Bs cap : Nat) (a : Option Addr) (L : Nat → Int) (w : World) (hc : w.cell? ⟨Bs, 0, none⟩ = some (.slice a n cap)) (hr : RowI .i64 w a n L) :
    Calls Tryz.prog 151 #[.slice none 0 0, .func (.func 162) #[] #[.pointer (some ⟨Bs, 0, none⟩)]] w fun e w' => (∃ v, e = .returned v ∧ w'.ownsRow w.heap.size 3 1 v n (zVals (Rf.uptoL L n))) ∧ Below w.heap.size w w' := by
  have hBs : Bs < w.heap.size := World.block_lt_of_cell? w _ hc
  have kb1 := (Below.refl _ w).alloc (Nat.le_refl w.heap.size) (.cells #[.slice none 0 0] 28)
  have hc1 := (((Below.refl w.heap.size w).alloc (Nat.le_refl w.heap.size) (.cells #[.slice none 0 0] 28)).cell (p := ⟨Bs, 0, none⟩) hBs).trans hc
  have bO := Boxed.new w 28 (.slice none 0 0)
  obtain ⟨i0, hi, hz0, hz1, hz2⟩ := info_parts (show (Tryz.prog.info? 3).map (fun i => (i.zero, i.size, i.bytes)) = some (some (.int .i64 0), 1, 8) by kernel_rfl)
  refine (callsIn_wide (n := 3)).1 ?_
  refine callsIn_of_wp_marks Tryz.func151 rfl trivial ?_ rfl
  simp only [Tryz.ntmps151, List.size_toArray, List.length_cons, List.length_nil, Nat.reduceAdd, Nat.reduceSub, Array.replicate_succ, Array.replicate_zero, List.push_toArray, List.append_toArray, List.nil_append, List.cons_append]
  gi_wp2_with fail
  refine wpIn_rangeFunc_ownG rfl (by decide) (gf := 162) (lb := #[.pointer (some ⟨Bs, 0, none⟩)]) rfl trivial (enters_of Tryz.func162 (by kernel_rfl) rfl)
    (values_stops n (by omega) (3 - 1) (by decide) Bs cap a L w _ kb1 (by simp; omega) hc1 hr) belowK_t (belowK_b (by simp)) (Below.refl _ _) (fun _ => rfl)
    (fun pre W => (∃ v, Boxed W w.heap.size 28 v ∧ W.ownsRow w.heap.size 3 1 v pre.length (zVals pre) ∧ True) ∧ Below w.heap.size w W)
    (fun _ _ _ => False)
    (OwnFrom.and (Own.from (holdsRow_own w.heap.size w.heap.size 28 3 1 (fun pre => pre.length) (fun pre => zVals pre) (fun _ _ => True)) _) (ownFrom_below (Nat.le_refl _) (by simp)))
    (fun _ _ _ _ _ hs _ _ => hs)
    ⟨⟨_, bO, World.ownsRow_nil _ _ _ _, trivial⟩, kb1⟩
    (fun x => { tmps := #[.slice none 0 0, .func (.func 162) #[] #[.pointer (some ⟨Bs, 0, none⟩)], .pointer (some ⟨w.heap.size, 0, none⟩), undef, .slice none 0 0, .int .i64 x,
          .func (.func 162) #[] #[.pointer (some ⟨Bs, 0, none⟩)], .int .i64 x, undef, undef, undef, undef, undef], defers := [] }) ?assign ?body ?done ?stop
  case assign =>
    intro l x W K hK
    gi_wp2
    exact hK
  case body =>
    rintro _ pre x W ⟨⟨v, hv, hrow, _⟩, hB⟩ hlt
    have hcv := hv.cell
    have hle := hB.size
    gi_wp2_with (gi_at_builtin; refine wpListIn_append_own _ rfl _ _ 28 rfl w.heap.size 3 i0 (.int .i64 0) 1 8 Tryz.underlying28 hi hz0 hz1 hz2 rfl (by decide) v pre.length (zVals pre) rfl (hrow.alloc _) ⟨W.heap.size, 0, none⟩ 1 1 [.int .i64 x] rfl rfl (cell_one_new _ _ _) (by simp [Value.oneCell']) (by unfold maxLen; omega) (by omega) (by simp; omega) ?_; intro v' w1 hown' hgrow _; obtain ⟨g', cap', rfl⟩ := ownsRow_succ hown'; obtain ⟨hv1, hv2, hr2, hk2, hb2⟩ := hv.appended (by decide) hrow (by omega) (by omega) hown' hgrow; have hcv1 := hv1.cell; have hfv1 := hv1.frozen)
    exact ⟨hk2.from _, hb2, ⟨_, hv2, by rw [zVals_snoc] at hr2; simpa using hr2, trivial⟩, hB.trans hb2⟩
  case done =>
    rintro D ys W hD hys ⟨⟨v, hv, hrow, _⟩, hB⟩ hK
    subst hys
    rw [Rf.uptoL_length] at hrow
    have hcv := hv.cell
    gi_wp2
    refine ⟨by simp, .inl ⟨_, _, rfl, run_takeDeferred hK, ?_⟩⟩
    exact ⟨_, results_tmp (fn := Tryz.f151) rfl _ _ _, ⟨v, rfl, ownsRow_putObj hrow _ hK rfl⟩, hB.trans (belowK_b (w := w) (Nat.le_refl _) W D _ _ (by simp at hD; omega) hK rfl rfl)⟩
  case stop =>
    rintro D c pre W _ _ h _
    exact h.elim
set_option maxRecDepth 100000 in
set_option maxHeartbeats 1000000 in
theorem Collect_any (n : Nat) (hn : n ≤ 1000) (Bs cap : Nat) (a : Option Addr) (L : Nat → Int) (w : World) (hc : w.cell? ⟨Bs, 0, none⟩ = some (.slice a n cap)) (hr : RowI .i64 w a n L) :
  Calls Tryz.prog 129 #[.func (.func 162) #[] #[.pointer (some ⟨Bs, 0, none⟩)]] w fun e w' => (∃ v, e = .returned v ∧ w'.ownsRow w.heap.size 3 1 v n (zVals (Rf.uptoL L n))) ∧ Below w.heap.size w w' := by
 have h := AppendSeq_any n hn Bs cap a L w hc hr
 go_enter Tryz.func129, Tryz.ntmps129
 go_wp2_with fail
 refine h.mono ?_
 rintro e w1 ⟨⟨v, rfl, own⟩, b1⟩
 have OWN : Hid (w1.ownsRow w.heap.size 3 1 v n (zVals (Rf.uptoL L n))) := own
 clear own h
 go_wp2
 go_ret
 exact ⟨⟨_, rfl, OWN.out⟩, b1⟩
open Go.Sort in
theorem sort_ints (blk cap : Nat) (zs : List Int) (w : World) (hH : Holds (Value.int .i64) w blk 0 zs.toArray) (hblk : blk < w.heap.size) (hsz : zs.length < 4611686018427387904) :
  Calls Tryz.prog 130 #[.slice (some ⟨blk, 0, none⟩) zs.length cap] w fun e w' => e = .returned (.tuple #[]) ∧ ∃ n os, w' = grow (putRow (Value.int .i64) (Sort.ahead w n) blk 0 (zs.mergeSort fun x y => decide (x ≤ y)).toArray) os :=
 AnyM.slices_Sort_int Tryz.sortA blk 0 cap zs w hH hblk hsz
set_option maxRecDepth 100000 in
set_option maxHeartbeats 1000000 in
theorem Sorted_any (n : Nat) (h0 : 0 < n) (hn : n ≤ 1000) (Bs cap : Nat) (a : Option Addr) (L : Nat → Int) (w : World) (hc : w.cell? ⟨Bs, 0, none⟩ = some (.slice a n cap)) (hr : RowI .i64 w a n L) :
  Calls Tryz.prog 101 #[.func (.func 162) #[] #[.pointer (some ⟨Bs, 0, none⟩)]] w fun e w' => (∃ g c, e = .returned (.slice (some ⟨g, 0, none⟩) n c) ∧ w'.ownsRow w.heap.size 3 1 (.slice (some ⟨g, 0, none⟩) n c) n (zVals ((Rf.uptoL L n).mergeSort fun x y => decide (x ≤ y)))) ∧ Below w.heap.size w w' := by
 have h := Collect_any n hn Bs cap a L w hc hr
 have hl := Rf.uptoL_length L n
 obtain ⟨zs, hzs⟩ : ∃ zs, Rf.uptoL L n = zs := ⟨_, rfl⟩
 rw [hzs] at h hl
 rw [hzs]
 clear hzs
 subst hl
 go_enter Tryz.func101, Tryz.ntmps101
 go_wp2_with fail
 refine h.mono ?_
 rintro e w1 ⟨⟨v, rfl, own⟩, b1⟩
 clear h
 rcases own.2 with ⟨_, hz⟩ | ⟨gb, cp, cur, rfl, hbase, hgb, r1, r2, r3, r4⟩
 ·omega
 ·have hH : Sort.Holds (Value.int .i64) w1 gb 0 zs.toArray := holds_of_block_i hgb (by rw [Nat.mul_one] at r4; exact r4)
  have hgl : gb < w1.heap.size := (Array.getElem?_eq_some_iff.1 hgb).1
  have cS := sort_ints gb cp zs w1 hH hgl (by omega)
  go_wp2_with fail
  refine cS.mono ?_
  rintro e w2 ⟨rfl, nn, os, rfl⟩
  go_wp2
  go_ret
  exact ⟨⟨gb, cp, rfl, ownsRow_sorted_i (by simp) hbase hgb r1 r2 r3⟩, b1.grown (grownBy_sorted_i _) b1.size (fun j hj => by cases hj; exact hbase)⟩
end Go.Proofs.YtdgkhjgnjfgnlaaGreat
namespace Go.Proofs.YtdgkhjgnjfgnlaaGreat
open Go.RowKit
def Rf.kindF (x m : Nat) : Int := if x = m then 1 else if x = m + 1 then 2 else 0
set_option maxRecDepth 100000 in
set_option maxHeartbeats 1000000 in
theorem kindOf_any (x m : Nat) (hx : x ≤ 1000) (hm : m ≤ 1000) (w : World) :
  Calls Tryz.prog 147 #[.int .i64 (x : Nat), .int .i64 (m : Nat)] w fun e w' => e = .returned (.int .i64 (Rf.kindF x m)) ∧ w' = w := by
 by_cases h1 : x = m
 ·have E : Hid (Rf.kindF x m = 1) := if_pos h1
  have h2 : ((x : Int) - (m : Int) == 0) = true := by rw [beq_iff_eq]; omega
  clear h1
  go_enter Tryz.func147, Tryz.ntmps147
  go_wp2
  go_ret
  exact ⟨ret_int E.out.symm, rfl⟩
 ·have h2 : ((x : Int) - (m : Int) == 0) = false := by rw [beq_eq_false_iff_ne]; omega
  by_cases h3 : x = m + 1
  ·have E : Hid (Rf.kindF x m = 2) := by show _ = _; unfold Rf.kindF; rw [if_neg h1, if_pos h3]
   have h4 : ((x : Int) - (m : Int) == 1) = true := by rw [beq_iff_eq]; omega
   clear h1 h3
   go_enter Tryz.func147, Tryz.ntmps147
   go_wp2
   go_ret
   exact ⟨ret_int E.out.symm, rfl⟩
  ·have E : Hid (Rf.kindF x m = 0) := by show _ = _; unfold Rf.kindF; rw [if_neg h1, if_neg h3]
   have h4 : ((x : Int) - (m : Int) == 1) = false := by rw [beq_eq_false_iff_ne]; omega
   clear h1 h3
   go_enter Tryz.func147, Tryz.ntmps147
   go_wp2
   go_ret
   exact ⟨ret_int E.out.symm, rfl⟩
theorem sort_one (x : Int) : ([x].mergeSort fun x y => decide (x ≤ y)) = [x] := by simp
theorem sort_two (x y : Int) (h : x ≤ y) : ([x, y].mergeSort fun x y => decide (x ≤ y)) = [x, y] := by
 simp [List.mergeSort, List.MergeSort.Internal.splitInTwo, h]
theorem sort_turn (x y : Int) (h : x < y) : ([y, x].mergeSort fun x y => decide (x ≤ y)) = [x, y] := by
 have h' : ¬ y ≤ x := by omega
 simp [List.mergeSort, List.MergeSort.Internal.splitInTwo, h']
def Rf.kAt (Z : Nat → Nat) (m k j : Nat) : Int := if j < k then Rf.kindF (Z j) m else 3
theorem buildPair (a b : Int) (w : World) : (Instr.build 143 #[(0, .int .i64 a), (1, .int .i64 b)]).run Tryz.prog w = .ok (.agg #[.int .i64 a, .int .i64 b]) w := run_build w 143 _ _ (by kernel_rfl)
theorem eqPair (a b c d : Int) (w : World) : (Op.equalIn 10000 143 (.agg #[.int .i64 a, .int .i64 b]) (.agg #[.int .i64 c, .int .i64 d])).run Tryz.prog w = .ok (a == c && b == d) w := by
 have u3 := Tryz.underlying141
 have a3 := Tryz.isAgg141
 have z3 := Tryz.sizeOf141
 rw [show (10000 : Nat) = 9999 + 1 from rfl, Op.equalIn]
 simp only [Sem.run_bind, run_underlying Tryz.underlying143, Result.andThen_ok]
 simp only [Std.Legacy.Range.forIn_eq_forIn_range', Std.Legacy.Range.size, Nat.sub_zero, Nat.add_sub_cancel, Nat.div_one, List.range'_succ, List.range'_zero, List.forIn_cons, List.forIn_nil]
 go_simp
 by_cases h1 : a = c <;> by_cases h2 : b = d <;> simp [h1, h2]
set_option maxRecDepth 100000 in
set_option maxHeartbeats 2000000 in
theorem kinds_any (m : Nat) (hm : m ≤ 1000) (ln : Nat) (h0 : 0 < ln) (h2 : ln ≤ 2) (L : Nat → Int) (Z : Nat → Nat) (hZ : ((Rf.uptoL L ln).mergeSort fun x y => decide (x ≤ y)) = (List.range ln).map fun j => ((Z j : Nat) : Int)) (hZl : ∀ j, j < ln → Z j ≤ 1000) (b : Option Addr) (capb : Nat) (w : World) (hl : RowI .i64 w b ln L) :
    Calls Tryz.prog 119 #[.slice b ln capb, .int .i64 (m : Nat)] w fun e w' => e = .returned (.agg #[.int .i64 (Rf.kAt Z m ln 0), .int .i64 (Rf.kAt Z m ln 1)]) ∧ Below w.heap.size w w' := by
  have hb := fun W => buildPair 3 3 W
  have hV := fun W => Values_any b ln capb W
  have HSO : Hid (∀ W, Below w.heap.size w W → ∀ Bs, W.cell? ⟨Bs, 0, none⟩ = some (.slice b ln capb) → Calls Tryz.prog 101 #[.func (.func 162) #[] #[.pointer (some ⟨Bs, 0, none⟩)]] W fun e w' => (∃ g c, e = .returned (.slice (some ⟨g, 0, none⟩) ln c) ∧ w'.ownsRow W.heap.size 3 1 (.slice (some ⟨g, 0, none⟩) ln c) ln (zVals ((List.range ln).map fun j => ((Z j : Nat) : Int)))) ∧ Below W.heap.size W w') := fun W hW Bs hc => by
    have h := Sorted_any ln h0 (by omega) Bs capb b L W hc (hl.below hW)
    rw [hZ] at h; exact h
  clear hZ hl
  go_enter Tryz.func119, Tryz.ntmps119
  go_wp2_with fail
  refine (hV _).mono ?_
  rintro e w1 ⟨rfl, hw1⟩
  have BW1 : Below w.heap.size w w1 := by rw [hw1]; exact ((((Below.refl _ w).alloc (Nat.le_refl _) _).alloc (by simp) _).alloc (by simp; omega) _)
  have hBs : w1.cell? ⟨w.heap.size + 1 + 1, 0, none⟩ = some (.slice b ln capb) := by
    rw [hw1]
    have := World.cell?_alloc_mark ((w.alloc (Obj.cells #[Value.int IntKind.i64 0, Value.int IntKind.i64 0] 143)).alloc (Obj.cells #[Value.int IntKind.i64 3, Value.int IntKind.i64 3] 143)) #[.slice b ln capb] 28 (0, 0) 0
    simpa using this
  have RV0 : rowV w1 w.heap.size 2 (fun _ => .int .i64 0) := by
    rw [hw1]
    have h := rowV_new w #[Value.int IntKind.i64 0, Value.int IntKind.i64 0] 143 (fun _ => .int .i64 0) (fun j hj => by
      have : j = 0 ∨ j = 1 := by simp at hj; omega
      rcases this with rfl | rfl <;> rfl)
    exact h.below (B := w.heap.size + 1) (((Below.refl _ _).alloc (by simp) _).alloc (by simp) _) (by omega)
  have RV1 : rowV w1 (w.heap.size + 1) 2 (fun j => .int .i64 (Rf.kAt Z m 0 j)) := by
    rw [hw1]
    have h := rowV_new (w.alloc (Obj.cells #[Value.int IntKind.i64 0, Value.int IntKind.i64 0] 143)) #[Value.int IntKind.i64 3, Value.int IntKind.i64 3] 143 (fun j => .int .i64 (Rf.kAt Z m 0 j)) (fun j hj => by
      have : j = 0 ∨ j = 1 := by simp at hj; omega
      rcases this with rfl | rfl <;> rfl)
    simp only [World.size_alloc] at h
    exact h.below (B := w.heap.size + 2) ((Below.refl _ _).alloc (by simp) _) (by omega)
  have hsz1 : w1.heap.size = w.heap.size + 3 := by rw [hw1]; simp
  have hS := HSO.out w1 BW1 _ hBs
  have EP : (⟨((w.alloc (Obj.cells #[Value.int IntKind.i64 0, Value.int IntKind.i64 0] 143)).alloc (Obj.cells #[Value.int IntKind.i64 3, Value.int IntKind.i64 3] 143)).heap.size, 0, none⟩ : Addr) = ⟨w.heap.size + 1 + 1, 0, none⟩ := by simp
  clear hw1 hV hBs
  try rw [EP]
  clear EP
  go_wp2_with fail
  refine hS.mono ?_
  rintro e w2 ⟨⟨g, c, rfl, own⟩, b2⟩
  have OWN : Hid (w2.ownsRow w1.heap.size 3 1 (.slice (some ⟨g, 0, none⟩) ln c) ln (zVals ((List.range ln).map fun j => ((Z j : Nat) : Int)))) := own
  have HG : Hid (w1.heap.size ≤ g) := owns_low own
  have R0 : Hid (rowV w2 w.heap.size 2 (fun _ => .int .i64 0)) := RV0.below b2 (by omega)
  have R1 : Hid (rowV w2 (w.heap.size + 1) 2 (fun j => .int .i64 (Rf.kAt Z m 0 j))) := RV1.below b2 (by omega)
  have B2 : Hid (Below w.heap.size w w2) := BW1.trans (b2.mono BW1.size)
  have HSZ : Hid (w1.heap.size = w.heap.size + 3) := hsz1
  clear own b2 hS BW1 RV0 RV1 hsz1 HSO
  go_wp2
  go_loopg [13] ln (fun gg i wr => ∃ k : Nat, k ≤ ln ∧ gg = ln - k ∧ i = .int .i64 k ∧ wr.ownsRow w1.heap.size 3 1 (.slice (some ⟨g, 0, none⟩) ln c) ln (zVals ((List.range ln).map fun j => ((Z j : Nat) : Int))) ∧ rowV wr w.heap.size 2 (fun _ => .int .i64 0) ∧ rowV wr (w.heap.size + 1) 2 (fun j => .int .i64 (Rf.kAt Z m k j)) ∧ Below w.heap.size w wr)
  case atStart => exact ⟨0, Nat.zero_le _, rfl, rfl, OWN.out, R0.out, R1.out, B2.out⟩
  case round =>
    obtain ⟨k, hk, rfl, rfl, own, r0, r1, hb⟩ := hrel
    have OW : Hid (wr.ownsRow w1.heap.size 3 1 (.slice (some ⟨g, 0, none⟩) ln c) ln (zVals ((List.range ln).map fun j => ((Z j : Nat) : Int)))) := own
    have Q0 : Hid (rowV wr w.heap.size 2 (fun _ => .int .i64 0)) := r0
    have Q1 : Hid (rowV wr (w.heap.size + 1) 2 (fun j => .int .i64 (Rf.kAt Z m k j))) := r1
    have HB : Hid (Below w.heap.size w wr) := hb
    clear own r0 r1 hb
    by_cases hkn : k < ln
    · have hc : wr.cell? ⟨g, k, none⟩ = some (.int .i64 ((Z k : Nat) : Int)) := by
        rw [OW.out.cellAt k (by omega)]; simp [zVals, hkn]
      have hzk := hZl k hkn
      have hKO := fun W => kindOf_any (Z k) m hzk hm W
      obtain ⟨z, hz⟩ : ∃ z, Z k = z := ⟨_, rfl⟩
      have HZK : Hid (Z k = z) := hz
      rw [hz] at hc hzk hKO
      obtain ⟨h1, h1f⟩ := Q1.out k (by omega)
      have hk2 : (k : Int) < 2 := by omega
      have hk2' : k < 2 := by omega
      clear hz
      go_wp2_with fail
      refine (hKO _).mono ?_
      rintro e w3 ⟨rfl, hw⟩
      subst w3
      go_wp2
      go_roundg (ln - (k + 1))
      case measure => omega
      case rel =>
        have hgne : g ≠ w.heap.size + 1 := by have := HG.out; have := HSZ.out; omega
        refine ⟨k + 1, by omega, rfl, by go_num, ?_, ?_, ?_, ?_⟩
        · exact OW.out.kept (grownBy_setCellAt _ _ _ _) (.inr (by simp [Value.ownBlock]; exact hgne))
        · exact fun j hj => by
            obtain ⟨a1, a2⟩ := Q0.out j hj
            exact ⟨by rw [World.cell?_setCell_other _ _ _ _ (by simp)]; exact a1, by rw [World.frozen?_setCell]; exact a2⟩
        · refine (Q1.out.set k _).mono fun j hj => ?_
          by_cases e : j = k
          · subst e; rw [if_pos rfl]; unfold Rf.kAt; rw [if_pos (by omega), HZK.out]
          · rw [if_neg e]; unfold Rf.kAt
            by_cases h : j < k
            · rw [if_pos h, if_pos (by omega)]
            · rw [if_neg h, if_neg (by omega)]
        · exact HB.out.setCell (p := ⟨w.heap.size + 1, k, none⟩) (by simp) _
    · have hkk : k = ln := by omega
      subst hkk
      obtain ⟨h0c, h0f⟩ := Q1.out 0 (by omega)
      obtain ⟨h1c, h1f⟩ := Q1.out 1 (by omega)
      obtain ⟨p0c, p0f⟩ := Q0.out 0 (by omega)
      obtain ⟨p1c, p1f⟩ := Q0.out 1 (by omega)
      have HW : Hid (∃ W, (wr.setCell ⟨w.heap.size, 0, none⟩ (.int .i64 (Rf.kAt Z m k 0))).setCell ⟨w.heap.size, 1, none⟩ (.int .i64 (Rf.kAt Z m k 1)) = W ∧ W.cell? ⟨w.heap.size, 0, none⟩ = some (.int .i64 (Rf.kAt Z m k 0)) ∧ W.cell? ⟨w.heap.size, 1, none⟩ = some (.int .i64 (Rf.kAt Z m k 1)) ∧ Below w.heap.size w W) := by
        refine ⟨_, rfl, ?_, ?_, (HB.out.setCell (p := ⟨w.heap.size, 0, none⟩) (Nat.le_refl _) _).setCell (p := ⟨w.heap.size, 1, none⟩) (Nat.le_refl _) _⟩
        · rw [World.cell?_setCell_other _ _ _ _ (by simp)]
          exact World.cell?_setCell_same _ _ _ p0c
        · exact World.cell?_setCell_same _ _ _ ((World.cell?_setCell_other _ _ _ _ (by simp)).trans p1c)
      go_wp2
      obtain ⟨W, eW, c0, c1, hbW⟩ := HW.out
      rw [eW]
      have hz := Tryz.sizeOf143
      have hag := Tryz.isAgg143
      refine bodyPost_ret (by simp [results, asAddr]; go_simp; try rfl) rfl ?_
      exact ⟨rfl, hbW⟩
end Go.Proofs.YtdgkhjgnjfgnlaaGreat
