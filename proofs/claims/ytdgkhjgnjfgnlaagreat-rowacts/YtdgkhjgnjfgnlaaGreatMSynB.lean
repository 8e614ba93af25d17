import Derived.RangeFuncLeaves
import Derived.RangeFuncNested
import Derived.Shelf.Abstract
import Derived.OwnWalkIn
import Derived.TacticsInMore
import Derived.LoopNIn
import Derived.LoopIn
import Derived.Maps.AppendAt
import Derived.Test.YtdgkhjgnjfgnlaaGreatMSynA
import Derived.Test.YtdgkhjgnjfgnlaaGreatMKitD
import Derived.Lib.JoinLaws
import Derived.Test.YtdgkhjgnjfgnlaaGreatMKitF
namespace Go.Proofs.YtdgkhjgnjfgnlaaGreat
open Go.RowKit Go.Shelf
attribute [local go_sem] Oper.semAt_some
abbrev Lt (n : Nat) : Type := { i : Nat // i < n }
theorem lt_snoc {n k : Nat} {pre : List (Lt n)} (x : Lt n) (h : pre.map (·.1) = List.range k) (hx : x.1 = k) : (pre ++ [x]).map (·.1) = List.range (k + 1) := by
 rw [List.map_append, h, List.range_succ]; simp [hx]
theorem powers_any (n : Int) (w : World) :
  Calls Tryz.prog 150 #[.int .i64 n] w fun e w' => e = .returned (.func (.func 163) #[] #[.pointer (some ⟨w.heap.size, 0, none⟩)]) ∧ w' = w.alloc (.cells #[.int .i64 n] 3) := by
 go_enter Tryz.func150, Tryz.ntmps150
 go_wp2
 go_ret
 exact ⟨rfl, rfl⟩
set_option maxRecDepth 100000 in
set_option maxHeartbeats 2000000 in
theorem powers1_in (n : Nat) (hn : n ≤ 1048576) (m : Nat) (hm : 1 ≤ m) (l Bs : Nat) (w0 : World) (J Jx : List (Lt n) → World → Prop)
  (hY : ∀ pre x W, J pre W → pre.length < n → YieldAt Fence.wide (m - 1) Tryz.prog l #[.int .i64 (x.1 : Int), .int .u8 (Gfm.pE x.1 : Nat)] W fun e W' =>
   (e = .returned (.bool true) ∧ J (pre ++ [x]) W' ∧ Below w0.heap.size W W') ∨ (e = .returned (.bool false) ∧ Jx (pre ++ [x]) W'))
  (W : World) (hW : Below w0.heap.size w0 W) (hBs : W.cell? ⟨Bs, 0, none⟩ = some (.int .i64 n)) (h0 : J [] W) :
  CallsIn Fence.wide m Tryz.prog 163 #[.func (.yield l) #[] #[], .pointer (some ⟨Bs, 0, none⟩)] W fun e W' => (∃ v, e = .returned v) ∧
   ((∃ ys : List (Lt n), ys.map (·.1) = List.range n ∧ J ys W') ∨ (∃ pre : List (Lt n), True ∧ Jx pre W')) := by
 refine callsIn_of_wp Tryz.func163 rfl trivial ?_ rfl
 simp only [Tryz.ntmps163, List.size_toArray, List.length_cons, List.length_nil, Nat.reduceAdd, Nat.reduceSub, Array.replicate_succ, Array.replicate_zero, List.push_toArray, List.append_toArray, List.nil_append, List.cons_append]
 gi_wp2
 gi_loopw [5] (fun i wr => ∃ (k : Nat) (pre : List (Lt n)), k ≤ n ∧ i = .int .i64 k ∧ pre.map (·.1) = List.range k ∧ J pre wr ∧ Below w0.heap.size w0 wr)
  (fun i _ => n - (intOf i).toNat)
 case atStart => exact ⟨0, [], Nat.zero_le _, rfl, rfl, h0, hW⟩
 case round =>
  obtain ⟨k, pre, hk, rfl, hpre, hJ, hb⟩ := hrel
  have Hpre : Hid (pre.map (·.1) = List.range k) := hpre
  clear hpre
  by_cases hlt : k < n
  ·gi_wp2_with fail
   refine ⟨trivial, (callsIn_wide.2 (Exp_int (k : Int) _)).mono ?_⟩
   rintro e w' ⟨rfl, rfl⟩
   obtain ⟨fn, tmps, assign, body, hy, hR⟩ := hY pre ⟨k, hlt⟩ _ hJ (by
    have e := congrArg List.length Hpre.out
    rw [List.length_map, List.length_range] at e
    omega)
   dsimp only at hy
   have hy : (Instr.yield l #[.int .i64 (k : Int), .int .u8 (Gfm.powI 2 (k : Int) : Nat)]).run Tryz.prog w' = .ok (.round l fn tmps assign body) w' := hy
   gi_wp2
   refine hR.mono ?_
   rintro e W3 (⟨rfl, hJ3, hk3⟩ | ⟨rfl, hJx3⟩)
   ·gi_wp2
    go_roundw
    case rel => exact ⟨k + 1, _, by omega, by go_num, lt_snoc _ Hpre.out rfl, hJ3, hb.trans hk3⟩
    case measure => simp [intOf]; omega
   ·gi_wp2
    refine bodyPost_ret (results_none rfl _ _ _) rfl ?_
    exact ⟨⟨_, rfl⟩, .inr ⟨_, trivial, hJx3⟩⟩
  ·have hkk : k = n := by omega
   subst hkk
   gi_wp2
   go_end0
   exact ⟨⟨_, rfl⟩, .inl ⟨pre, Hpre.out, hJ⟩⟩
theorem powers_stops (n : Nat) (hn : n ≤ 1048576) (m : Nat) (hm : 1 ≤ m) (Bs : Nat) (w0 w : World) (hw : Below w0.heap.size w0 w)
  (hBs : Bs < w.heap.size) (hc : w.cell? ⟨Bs, 0, none⟩ = some (.int .i64 n)) :
  SeqStopsK Fence.wide m Tryz.prog 163 #[.pointer (some ⟨Bs, 0, none⟩)] (fun x : Lt n => #[Value.int .i64 (x.1 : Int), Value.int .u8 (Gfm.pE x.1 : Nat)]) (Below w0.heap.size) (fun ys => ys.map (·.1) = List.range n) (fun _ => True) n w := fun l J Jx W hW _ _ hY h0 =>
 powers1_in n hn m hm l Bs w0 J Jx hY W (hw.trans (hW.mono hw.size)) ((hW.cell (p := ⟨Bs, 0, none⟩) hBs).trans hc) h0
def qtVals {n : Nat} (f : Nat → ByteArray) (pre : List (Lt n)) : List Value := pre.map fun x => .string (Gfm.qT f x.1)
theorem qtVals_snoc {n i : Nat} {hi : i < n} (f : Nat → ByteArray) (pre : List (Lt n)) (y : ByteArray) (h : Gfm.qT f i = y) : qtVals f (pre ++ [⟨i, hi⟩]) = qtVals f pre ++ [.string y] := by simp [qtVals, h]
theorem qtVals_all {n : Nat} (f : Nat → ByteArray) (ys : List (Lt n)) (h : ys.map (·.1) = List.range n) : qtVals f ys = textVals n (Gfm.qT f) := by
 have e : qtVals f ys = (ys.map (·.1)).map fun i => Value.string (Gfm.qT f i) := by simp [qtVals]
 rw [e, h]; rfl
set_option maxRecDepth 100000 in
set_option maxHeartbeats 4000000 in
theorem Q_any (n : Nat) (f : Nat → ByteArray) (hn : n ≤ 1048576) (hf : Fits 1048576 n f) (a : Option Addr) (cap : Nat) (w : World) (hr : RowS w a n f) :
    Calls Tryz.prog 121 #[.slice a n cap] w fun e w' => e = .returned (.string (Gfm.addF n (Gfm.qT f))) ∧ Below w.heap.size w w' := by
  have kb1 := (Below.refl _ w).alloc (Nat.le_refl w.heap.size) (.cells #[.slice a n cap] 40)
  obtain ⟨i0, hi, hz0, hz1, hz2⟩ := info_parts (show (Tryz.prog.info? 9).map (fun i => (i.zero, i.size, i.bytes)) = some (some (.string ByteArray.empty), 1, 16) from info_str)
  have hmk := run_make_room (P := Tryz.prog) 40 9 (.string ByteArray.empty) 16 Tryz.underlying40 info_str rfl .i64 .i64 n (by omega) (by omega)
  refine (callsIn_wide (n := 3)).1 ?_
  refine callsIn_of_wp_marks Tryz.func121 rfl trivial ?_ rfl
  simp only [Tryz.ntmps121, List.size_toArray, List.length_cons, List.length_nil, Nat.reduceAdd, Nat.reduceSub, Array.replicate_succ, Array.replicate_zero, List.push_toArray, List.append_toArray, List.nil_append, List.cons_append]
  gi_wp2_with fail
  refine ⟨trivial, (callsIn_wide.2 (powers_any n _)).mono ?_⟩
  rintro e w' ⟨rfl, rfl⟩
  gi_wp2_with fail
  have bL := ((((Boxed.new w 40 (.slice a n cap)).alloc (.cells (madeCells #[.string ByteArray.empty] n) 9)).alloc (.cells #[.slice (some ⟨w.heap.size + 1, 0, none⟩) 0 n] 40)).alloc (.cells #[.int .i64 n] 3))
  have bO := (Boxed.new ((w.alloc (.cells #[.slice a n cap] 40)).alloc (.cells (madeCells #[.string ByteArray.empty] n) 9)) 40 (.slice (some ⟨w.heap.size + 1, 0, none⟩) 0 n)).alloc (.cells #[.int .i64 n] 3)
  have bW := Boxed.new (((w.alloc (.cells #[.slice a n cap] 40)).alloc (.cells (madeCells #[.string ByteArray.empty] n) 9)).alloc (.cells #[.slice (some ⟨w.heap.size + 1, 0, none⟩) 0 n] 40)) 3 (.int .i64 n)
  have hown := ((World.ownsRow_made (base := w.heap.size) (w.alloc (.cells #[.slice a n cap] 40)) (e := 9) (size := 1) (madeCells #[.string ByteArray.empty] n) n (by simp) (by unfold maxLen; omega) (by rw [size_madeCells, Nat.mul_one])).alloc (.cells #[.slice (some ⟨w.heap.size + 1, 0, none⟩) 0 n] 40)).alloc (.cells #[.int .i64 n] 3)
  have kb4 := (((kb1.alloc (by simp) (.cells (madeCells #[.string ByteArray.empty] n) 9)).alloc (by simp; omega) (.cells #[.slice (some ⟨w.heap.size + 1, 0, none⟩) 0 n] 40)).alloc (by simp; omega) (.cells #[.int .i64 n] 3))
  simp only [World.size_alloc] at bO bW hown
  refine wpIn_rangeFunc_ownG rfl (by decide) (gf := 163) (lb := #[.pointer (some ⟨w.heap.size + 1 + 1 + 1, 0, none⟩)]) rfl trivial (enters_of Tryz.func163 (by kernel_rfl) rfl)
    (powers_stops n hn (3 - 1) (by decide) (w.heap.size + 1 + 1 + 1) w _ kb4 (by simp) bW.cell) belowK_t (belowK_b (by simp; omega)) (Below.refl _ _) (fun _ => rfl)
    (fun pre W => (∃ v, Boxed W (w.heap.size + 1 + 1) 40 v ∧ W.ownsRow w.heap.size 9 1 v pre.length (qtVals f pre) ∧ True) ∧ (Boxed W w.heap.size 40 (.slice a n cap) ∧ Below w.heap.size w W))
    (fun _ _ _ => False)
    (OwnFrom.and (Own.from (holdsRow_own w.heap.size (w.heap.size + 1 + 1) 40 9 1 (fun pre => pre.length) (fun pre => qtVals f pre) (fun _ _ => True)) _) (OwnFrom.and (Own.from (boxed_own _ _ _) _) (ownFrom_below (Nat.le_refl _) (by simp; omega))))
    (fun _ _ _ _ _ hs _ _ => hs)
    ⟨⟨_, bO, hown, trivial⟩, bL, kb4⟩
    (fun x => { tmps := #[.slice a n cap, .pointer (some ⟨w.heap.size, 0, none⟩), .string { data := #[] }, .pointer (some ⟨w.heap.size + 1 + 1, 0, none⟩),
          .int .i64 (x.1 : Int), .int .u8 (Gfm.pE x.1 : Nat), .slice a n cap, .int .i64 (n : Nat), .slice (some ⟨w.heap.size + 1, 0, none⟩) 0 n,
          .slice a n cap, .int .i64 (n : Nat), .func (.func 163) #[] #[.pointer (some ⟨w.heap.size + 1 + 1 + 1, 0, none⟩)],
          .int .i64 (x.1 : Int), .int .u8 (Gfm.pE x.1 : Nat), undef, undef, undef, undef, undef, undef, undef, undef, undef, undef, undef], defers := [] }) ?assign ?body ?done ?stop
  case assign =>
    intro l x W K hK
    gi_wp2
    exact hK
  case body =>
    rintro _ pre ⟨i, hin⟩ W ⟨⟨v, hv, hrow, _⟩, hvl, hB⟩ hlt
    have hc := hv.cell
    have hcl := hvl.cell
    obtain ⟨b1, o1, rfl, hc0⟩ := hr i hin
    have hb1 := World.block_lt_of_cell? w _ hc0
    obtain ⟨x, hx⟩ : ∃ x, f i = x := ⟨_, rfl⟩
    have hxs := hf i hin
    rw [hx] at hc0 hxs
    have hpre : Gfm.qT f i = Gfm.timesB x (Gfm.pE i) := by unfold Gfm.qT; rw [hx]
    have hc1 := (hB.cell (p := ⟨b1, o1 + i, none⟩) hb1).trans hc0
    have hmx : Tryz.prog.follows .mixedOrders = true := by kernel_rfl
    have hB0 := hB.size
    have Hpre : Hid (Gfm.qT f i = Gfm.timesB x (Gfm.pE i)) := hpre
    clear hx hpre
    have hpE := Gfm.pE_lt i
    gi_wp2
    refine region_in_round (fun w' => w'.cell? ⟨w.heap.size, 0, none⟩ = some (.slice (some ⟨b1, o1, none⟩) n cap) ∧ w'.cell? ⟨b1, o1 + i, none⟩ = some (.string x)) hmx (by kernel_rfl) (fun ⟨_, _, h⟩ => h) ?_
    have hS0 : (fun w' : World => w'.cell? ⟨w.heap.size, 0, none⟩ = some (.slice (some ⟨b1, o1, none⟩) n cap) ∧ w'.cell? ⟨b1, o1 + i, none⟩ = some (.string x)) W.drew := ⟨hcl, hc1⟩
    refine held_quiet 1 (v := ?v1q1) rfl (by kernel_rfl) (fun _ _ _ h => h) (by assumption) rfl ?hy1q1 ?rest1q1
    case hy1q1 => (intro wS hSw; (try dsimp only at hSw); go_simp; try with_reducible rfl)
    try simp only [Act.put, List.setIfInBounds_toArray, List.set_cons_zero, List.set_cons_succ]
    refine held_quiet 2 (v := ?v2q2) rfl (by kernel_rfl) (fun _ _ _ h => h) (by assumption) rfl ?hy2q2 ?rest2q2
    case hy2q2 => (intro wS hSw; (try dsimp only at hSw); go_simp; try with_reducible rfl)
    try simp only [Act.put, List.setIfInBounds_toArray, List.set_cons_zero, List.set_cons_succ]
    refine held_quiet 3 (v := ?v3q3) rfl (by kernel_rfl) (fun _ _ _ h => h) (by assumption) rfl ?hy3q3 ?rest3q3
    case hy3q3 => (intro wS hSw; (try dsimp only at hSw); go_simp; try with_reducible rfl)
    try simp only [Act.put, List.setIfInBounds_toArray, List.set_cons_zero, List.set_cons_succ]
    refine held_quiet 4 (v := ?v4q4) rfl (by kernel_rfl) (fun _ _ _ h => h) (by assumption) rfl ?hy4q4 ?rest4q4
    case hy4q4 => (intro wS hSw; (try dsimp only at hSw); go_simp; try with_reducible rfl)
    try simp only [Act.put, List.setIfInBounds_toArray, List.set_cons_zero, List.set_cons_succ]
    refine held_quiet 5 (v := ?v5q5) rfl (by kernel_rfl) (fun _ _ _ h => h) (by assumption) rfl ?hy5q5 ?rest5q5
    case hy5q5 => (intro wS hSw; (try dsimp only at hSw); go_simp; try with_reducible rfl)
    try simp only [Act.put, List.setIfInBounds_toArray, List.set_cons_zero, List.set_cons_succ]
    refine held_two 0 6 rfl rfl (by kernel_rfl) ?_ ?_
    · go_wp2
      try refine ⟨hS0, ?_⟩
      refine held_one 6 rfl (by kernel_rfl) ?_
      go_wp2_with fail
      refine (Times_any x (Gfm.pE i) (by omega) (Gfm.pE_lt i) _).mono ?_
      rintro e w' ⟨rfl, hbt⟩
      have hbt : Below W.heap.size W w' := (Below.refl _ W).drew.trans hbt
      have hv' : Boxed w' (w.heap.size + 1 + 1) 40 v := (hbt.block _ hv.lt).trans hv
      have hvl' : Boxed w' w.heap.size 40 (.slice (some ⟨b1, o1, none⟩) n cap) := (hbt.block _ hvl.lt).trans hvl
      have hrow' := ownsRow_below hrow hbt
      have hB' := hB.trans (hbt.mono hB.size)
      have hbW : Below w.heap.size W w' := hbt.mono hB.size
      have hsz' := hB'.size
      have hKO : KeepsOthers W w' := ⟨hbt.size, fun k o hk _ => (hbt.block k (Array.getElem?_eq_some_iff.1 hk).1).trans hk⟩
      have hSt : (fun w' : World => w'.cell? ⟨w.heap.size, 0, none⟩ = some (.slice (some ⟨b1, o1, none⟩) n cap) ∧ w'.cell? ⟨b1, o1 + i, none⟩ = some (.string x)) w' := ⟨hvl'.cell, (hB'.cell (p := ⟨b1, o1 + i, none⟩) hb1).trans hc0⟩
      have hSd : (fun w' : World => w'.cell? ⟨w.heap.size, 0, none⟩ = some (.slice (some ⟨b1, o1, none⟩) n cap) ∧ w'.cell? ⟨b1, o1 + i, none⟩ = some (.string x)) (w'.alloc (.cells #[.string (Gfm.timesB x (Gfm.pE i))] 9)) := ⟨(hvl'.alloc _).cell, (((Below.refl w.heap.size w').alloc (by omega) _).cell (p := ⟨b1, o1 + i, none⟩) hb1).trans hSt.2⟩
      have hcv' := hv'.cell
      have hcv8 := (hv'.alloc (.cells #[.string (Gfm.timesB x (Gfm.pE i))] 9)).cell
      go_wp2
      try refine ⟨hSt, ?_⟩
      refine held_one 7 rfl (by kernel_rfl) ?_
      go_wp2
      try refine ⟨hSd, ?_⟩
      refine held_one 8 rfl (by kernel_rfl) ?_
      refine wpList_append_own _ rfl _ _ 40 rfl w.heap.size 9 i0 (.string ByteArray.empty) 1 16 Tryz.underlying40 hi hz0 hz1 hz2 rfl (by decide) v pre.length (qtVals f pre) rfl (hrow'.alloc _) ⟨w'.heap.size, 0, none⟩ 1 1 [.string (Gfm.timesB x (Gfm.pE i))] rfl rfl (cell_one_new _ _ _) (by simp [Value.oneCell']) (by unfold maxLen; omega) (by omega) (by simp; omega) ?_
      intro v' w1 hown' hgrow _
      obtain ⟨g', cap', rfl⟩ := ownsRow_succ hown'
      obtain ⟨hv1, hv2, hr2, hk2, hb2⟩ := hv'.appended (by decide) hrow' (by omega) (by omega) hown' hgrow
      have hvl1 := (hvl'.alloc _).kept hgrow (hvl'.not_row (by decide) hrow')
      have hB2 := hB'.trans hb2
      have hc2 := (hB'.trans (below_append hrow' (by omega) hgrow)).cell (p := ⟨b1, o1 + i, none⟩) hb1
      have hcv1 := hv1.cell
      have hfv1 := hv1.frozen
      have hSe : (fun w' : World => w'.cell? ⟨w.heap.size, 0, none⟩ = some (.slice (some ⟨b1, o1, none⟩) n cap) ∧ w'.cell? ⟨b1, o1 + i, none⟩ = some (.string x)) (w1.setCell ⟨w.heap.size + 1 + 1, 0, none⟩ (.slice (some ⟨g', 0, none⟩) (pre.length + 1) cap')) :=
        ⟨(boxed_setOther hvl1 (w.heap.size + 1 + 1) 0 _ (by omega)).cell, (hB2.cell (p := ⟨b1, o1 + i, none⟩) hb1).trans hc0⟩
      refine ⟨⟨hvl1.cell, hc2.trans hc0⟩, ?_⟩
      refine held_one 9 rfl (by kernel_rfl) ?_
      go_wp2
      first | refine ⟨hSe, held_done (by kernel_rfl) ?_⟩ | refine held_done (by kernel_rfl) ?_
      exact ⟨(hKO.trans hk2).from _, hbW.trans hb2, ⟨_, hv2, by rw [qtVals_snoc _ _ _ Hpre.out]; simpa using hr2, trivial⟩, hvl1.kept (grownBy_setCell' _ _ _) (by simp; omega), hB2⟩
    · go_wp2_with fail
      refine (Times_any x (Gfm.pE i) (by omega) (Gfm.pE_lt i) _).mono ?_
      rintro e w' ⟨rfl, hbt⟩
      have hbt : Below W.heap.size W w' := (Below.refl _ W).drew.trans hbt
      have hv' : Boxed w' (w.heap.size + 1 + 1) 40 v := (hbt.block _ hv.lt).trans hv
      have hvl' : Boxed w' w.heap.size 40 (.slice (some ⟨b1, o1, none⟩) n cap) := (hbt.block _ hvl.lt).trans hvl
      have hrow' := ownsRow_below hrow hbt
      have hB' := hB.trans (hbt.mono hB.size)
      have hbW : Below w.heap.size W w' := hbt.mono hB.size
      have hsz' := hB'.size
      have hKO : KeepsOthers W w' := ⟨hbt.size, fun k o hk _ => (hbt.block k (Array.getElem?_eq_some_iff.1 hk).1).trans hk⟩
      have hSt : (fun w' : World => w'.cell? ⟨w.heap.size, 0, none⟩ = some (.slice (some ⟨b1, o1, none⟩) n cap) ∧ w'.cell? ⟨b1, o1 + i, none⟩ = some (.string x)) w' := ⟨hvl'.cell, (hB'.cell (p := ⟨b1, o1 + i, none⟩) hb1).trans hc0⟩
      have hSd : (fun w' : World => w'.cell? ⟨w.heap.size, 0, none⟩ = some (.slice (some ⟨b1, o1, none⟩) n cap) ∧ w'.cell? ⟨b1, o1 + i, none⟩ = some (.string x)) (w'.alloc (.cells #[.string (Gfm.timesB x (Gfm.pE i))] 9)) := ⟨(hvl'.alloc _).cell, (((Below.refl w.heap.size w').alloc (by omega) _).cell (p := ⟨b1, o1 + i, none⟩) hb1).trans hSt.2⟩
      have hcv' := hv'.cell
      have hcv8 := (hv'.alloc (.cells #[.string (Gfm.timesB x (Gfm.pE i))] 9)).cell
      go_wp2
      try refine ⟨hSt, ?_⟩
      refine held_two 0 7 rfl rfl (by kernel_rfl) ?_ ?_
      · go_wp2
        try refine ⟨hSt, ?_⟩
        refine held_one 7 rfl (by kernel_rfl) ?_
        go_wp2
        try refine ⟨hSd, ?_⟩
        refine held_one 8 rfl (by kernel_rfl) ?_
        refine wpList_append_own _ rfl _ _ 40 rfl w.heap.size 9 i0 (.string ByteArray.empty) 1 16 Tryz.underlying40 hi hz0 hz1 hz2 rfl (by decide) v pre.length (qtVals f pre) rfl (hrow'.alloc _) ⟨w'.heap.size, 0, none⟩ 1 1 [.string (Gfm.timesB x (Gfm.pE i))] rfl rfl (cell_one_new _ _ _) (by simp [Value.oneCell']) (by unfold maxLen; omega) (by omega) (by simp; omega) ?_
        intro v' w1 hown' hgrow _
        obtain ⟨g', cap', rfl⟩ := ownsRow_succ hown'
        obtain ⟨hv1, hv2, hr2, hk2, hb2⟩ := hv'.appended (by decide) hrow' (by omega) (by omega) hown' hgrow
        have hvl1 := (hvl'.alloc _).kept hgrow (hvl'.not_row (by decide) hrow')
        have hB2 := hB'.trans hb2
        have hc2 := (hB'.trans (below_append hrow' (by omega) hgrow)).cell (p := ⟨b1, o1 + i, none⟩) hb1
        have hcv1 := hv1.cell
        have hfv1 := hv1.frozen
        have hSe : (fun w' : World => w'.cell? ⟨w.heap.size, 0, none⟩ = some (.slice (some ⟨b1, o1, none⟩) n cap) ∧ w'.cell? ⟨b1, o1 + i, none⟩ = some (.string x)) (w1.setCell ⟨w.heap.size + 1 + 1, 0, none⟩ (.slice (some ⟨g', 0, none⟩) (pre.length + 1) cap')) :=
          ⟨(boxed_setOther hvl1 (w.heap.size + 1 + 1) 0 _ (by omega)).cell, (hB2.cell (p := ⟨b1, o1 + i, none⟩) hb1).trans hc0⟩
        refine ⟨⟨hvl1.cell, hc2.trans hc0⟩, ?_⟩
        refine held_one 9 rfl (by kernel_rfl) ?_
        go_wp2
        first | refine ⟨hSe, held_done (by kernel_rfl) ?_⟩ | refine held_done (by kernel_rfl) ?_
        exact ⟨(hKO.trans hk2).from _, hbW.trans hb2, ⟨_, hv2, by rw [qtVals_snoc _ _ _ Hpre.out]; simpa using hr2, trivial⟩, hvl1.kept (grownBy_setCell' _ _ _) (by simp; omega), hB2⟩
      · go_wp2
        try refine ⟨hSd, ?_⟩
        refine held_one 0 rfl (by kernel_rfl) ?_
        go_wp2
        try refine ⟨hSd, ?_⟩
        refine held_one 8 rfl (by kernel_rfl) ?_
        refine wpList_append_own _ rfl _ _ 40 rfl w.heap.size 9 i0 (.string ByteArray.empty) 1 16 Tryz.underlying40 hi hz0 hz1 hz2 rfl (by decide) v pre.length (qtVals f pre) rfl (hrow'.alloc _) ⟨w'.heap.size, 0, none⟩ 1 1 [.string (Gfm.timesB x (Gfm.pE i))] rfl rfl (cell_one_new _ _ _) (by simp [Value.oneCell']) (by unfold maxLen; omega) (by omega) (by simp; omega) ?_
        intro v' w1 hown' hgrow _
        obtain ⟨g', cap', rfl⟩ := ownsRow_succ hown'
        obtain ⟨hv1, hv2, hr2, hk2, hb2⟩ := hv'.appended (by decide) hrow' (by omega) (by omega) hown' hgrow
        have hvl1 := (hvl'.alloc _).kept hgrow (hvl'.not_row (by decide) hrow')
        have hB2 := hB'.trans hb2
        have hc2 := (hB'.trans (below_append hrow' (by omega) hgrow)).cell (p := ⟨b1, o1 + i, none⟩) hb1
        have hcv1 := hv1.cell
        have hfv1 := hv1.frozen
        have hSe : (fun w' : World => w'.cell? ⟨w.heap.size, 0, none⟩ = some (.slice (some ⟨b1, o1, none⟩) n cap) ∧ w'.cell? ⟨b1, o1 + i, none⟩ = some (.string x)) (w1.setCell ⟨w.heap.size + 1 + 1, 0, none⟩ (.slice (some ⟨g', 0, none⟩) (pre.length + 1) cap')) :=
          ⟨(boxed_setOther hvl1 (w.heap.size + 1 + 1) 0 _ (by omega)).cell, (hB2.cell (p := ⟨b1, o1 + i, none⟩) hb1).trans hc0⟩
        refine ⟨⟨hvl1.cell, hc2.trans hc0⟩, ?_⟩
        refine held_one 9 rfl (by kernel_rfl) ?_
        go_wp2
        first | refine ⟨hSe, held_done (by kernel_rfl) ?_⟩ | refine held_done (by kernel_rfl) ?_
        exact ⟨(hKO.trans hk2).from _, hbW.trans hb2, ⟨_, hv2, by rw [qtVals_snoc _ _ _ Hpre.out]; simpa using hr2, trivial⟩, hvl1.kept (grownBy_setCell' _ _ _) (by simp; omega), hB2⟩
  case done =>
    rintro D ys W hD hys ⟨⟨v, hv, hrow, _⟩, hvl, hB⟩ hK
    have hc := hv.cell
    have hlen : ys.length = n := by
      have := congrArg List.length hys
      rw [List.length_map, List.length_range] at this; exact this
    rw [hlen, qtVals_all f ys hys] at hrow
    obtain ⟨a', cap', rfl, hrs, _, _⟩ := RowS.of_owns hrow
    gi_wp2_with fail
    refine ⟨trivial, (callsIn_wide.2 (added_any n (Gfm.qT f) hn hf.qT a' cap' _ hrs)).mono ?_⟩
    rintro e w' ⟨rfl, hb'⟩
    have hK' := (hb'.block D (Array.getElem?_eq_some_iff.1 hK).1).trans hK
    gi_wp2
    refine ⟨by simp, .inl ⟨_, _, rfl, run_takeDeferred hK', ?_⟩⟩
    exact ⟨_, results_tmp (fn := Tryz.f121) rfl _ _ _, rfl, (hB.trans (hb'.mono hB.size)).trans (belowK_b (w := w) (Nat.le_refl _) w' D _ _ (by simp at hD; omega) hK' rfl rfl)⟩
  case stop =>
    rintro D c pre W _ _ h _
    exact h.elim
end Go.Proofs.YtdgkhjgnjfgnlaaGreat
namespace Go.Proofs.YtdgkhjgnjfgnlaaGreat
open Go.RowKit
def sumP (m : Nat) (f : Nat → ByteArray) : ByteArray := Gfm.xorB (Gfm.addF m f) (f m)
def sumQ (m : Nat) (f : Nat → ByteArray) : ByteArray := Gfm.xorB (Gfm.addF m (Gfm.qT f)) (f (m + 1))
def goodF (m : Nat) (f : Nat → ByteArray) : Bool := Gfm.zeroS (sumP m f) && Gfm.zeroS (sumQ m f)
theorem Fits.sumP {B m : Nat} {f : Nat → ByteArray} (h : Fits B (m + 2) f) : (sumP m f).size ≤ B := by
 have h1 := (h.mono (m := m) (by omega)).add
 have h2 := h m (by omega)
 unfold Go.Proofs.YtdgkhjgnjfgnlaaGreat.sumP; rw [Gfm.xorB_size]; omega
theorem Fits.sumQ {B m : Nat} {f : Nat → ByteArray} (h : Fits B (m + 2) f) : (sumQ m f).size ≤ B := by
 have h1 := (h.mono (m := m) (by omega)).qT.add
 have h2 := h (m + 1) (by omega)
 unfold Go.Proofs.YtdgkhjgnjfgnlaaGreat.sumQ; rw [Gfm.xorB_size]; omega
set_option maxRecDepth 100000 in
set_option maxHeartbeats 2000000 in
theorem Sum_some (m : Nat) (f : Nat → ByteArray) (hm : m + 2 ≤ 1048576) (hf : Fits 1048576 (m + 2) f) (a : Option Addr) (cap : Nat) (hcap : m + 2 ≤ cap) (w : World) (hr : RowS w a (m + 2) f) :
  Calls Tryz.prog 115 #[.slice a (m + 2) cap] w fun e w' => e = .returned (.tuple #[.string (sumP m f), .string (sumQ m f)]) ∧ Below w.heap.size w w' := by
 obtain ⟨b, o, rfl, _⟩ := hr 0 (by omega)
 obtain ⟨n, hn⟩ : ∃ n, n = m + 2 := ⟨_, rfl⟩
 have hc1 := hr.at (j := m) (by omega)
 have hc2 := hr.at (j := m + 1) (by omega)
 have h1 := hf m (by omega)
 have h2 := hf (m + 1) (by omega)
 have HF : Hid (Fits 1048576 m f) := hf.mono (by omega)
 have HR : Hid (RowS w (some ⟨b, o, none⟩) m f) := hr.mono (by omega) fun _ _ => rfl
 have h3 := (hf.mono (m := m) (by omega)).add
 have h4 := (hf.mono (m := m) (by omega)).qT.add
 have HP : Hid (sumP m f = Gfm.xorB (Gfm.addF m f) (f m)) := rfl
 have HQ : Hid (sumQ m f = Gfm.xorB (Gfm.addF m (Gfm.qT f)) (f (m + 1))) := rfl
 obtain ⟨x, hx⟩ : ∃ x, f m = x := ⟨_, rfl⟩
 obtain ⟨y, hy⟩ : ∃ y, f (m + 1) = y := ⟨_, rfl⟩
 rw [hx] at hc1 h1 HP
 rw [hy] at hc2 h2 HQ
 rw [← hn]
 have e1 : (n : Int) - 2 = (m : Int) := by omega
 have e2 : ¬ (m : Int) < 0 := by omega
 have e3 : m < n := by omega
 have e4 : m + 1 < n := by omega
 have e5 : n ≤ 1048576 := by omega
 have e6 : m ≤ cap := by omega
 have e7 : ¬ cap = 0 := by omega
 clear hr hf hn hx hy
 go_enter Tryz.func115, Tryz.ntmps115
 go_wp2
 go_region
 go_wp2_with fail
 refine (P_any m f (by omega) HF.out _ _ _ HR.out.drew).mono ?_
 rintro e w1 ⟨rfl, hb1⟩
 have hb1 : Below w.heap.size w w1 := (Below.refl _ w).drew.trans hb1
 go_wp2_with fail
 refine (added_two (Gfm.addF m f) x h3 h1 _ _).mono ?_
 rintro e w2 ⟨rfl, hb2⟩
 have hB2 : Below w.heap.size w w2 := below2 hb1 hb2
 go_wp2_with fail
 refine (Q_any m f (by omega) HF.out _ _ _ (HR.out.below hB2)).mono ?_
 rintro e w3 ⟨rfl, hb3⟩
 go_wp2_with fail
 refine (added_two (Gfm.addF m (Gfm.qT f)) y h4 h2 _ _).mono ?_
 rintro e w4 ⟨rfl, hb4⟩
 have HB : Hid (Below w.heap.size w w4) := below2 (below2 hB2 hb3) hb4
 clear hb1 hb2 hb3 hb4 hB2
 go_wp2
 go_ret2
 exact ⟨ret_two (by rw [HP.out]; rfl) (by rw [HQ.out]; rfl), HB.out⟩
end Go.Proofs.YtdgkhjgnjfgnlaaGreat
namespace Go.Proofs.YtdgkhjgnjfgnlaaGreat
open Go.RowKit
open Gfm
def ownRow (n : Nat) (f : Nat → ByteArray) : Nat → ByteArray := joinF n f (two (addF n f) (addF n (qT f)))
theorem ownRow_data (n : Nat) (f : Nat → ByteArray) {i : Nat} (h : i < n) : ownRow n f i = f i := if_pos h
theorem ownRow_p (n : Nat) (f : Nat → ByteArray) : ownRow n f n = addF n f := by
 unfold ownRow joinF; rw [if_neg (by omega), Nat.sub_self]; rfl
theorem ownRow_q (n : Nat) (f : Nat → ByteArray) : ownRow n f (n + 1) = addF n (qT f) := by
 unfold ownRow joinF; rw [if_neg (by omega), show n + 1 - n = 1 from by omega]; rfl
theorem Fits.own {B n : Nat} {f : Nat → ByteArray} (h : Fits B n f) : Fits B (n + 2) (ownRow n f) := fun i hi => by
 by_cases h1 : i < n
 ·rw [ownRow_data n f h1]; exact h i h1
 ·by_cases h2 : i = n
  ·subst h2; rw [ownRow_p]; exact h.add
  ·have h3 : i = n + 1 := by omega
   subst h3; rw [ownRow_q]; exact h.qT.add
theorem textVals_set (n r : Nat) (f : Nat → ByteArray) (t : ByteArray) : (textVals n f).set r (.string t) = textVals n (upd f r t) := by
 refine List.ext_getElem? fun j => ?_
 rw [List.getElem?_set, textVals_length]
 by_cases h : r = j
 ·subst h
  rw [if_pos rfl]
  by_cases hn : r < n
  ·rw [if_pos hn, textVals_at _ hn, upd_same]
  ·rw [if_neg hn, List.getElem?_eq_none (by rw [textVals_length]; omega)]
 ·rw [if_neg h]
  by_cases hn : j < n
  ·rw [textVals_at _ hn, textVals_at _ hn, upd_other _ _ (Ne.symm h)]
  ·rw [List.getElem?_eq_none (by rw [textVals_length]; omega), List.getElem?_eq_none (by rw [textVals_length]; omega)]
theorem Fits.upd {B n : Nat} {f : Nat → ByteArray} (h : Fits B n f) {r : Nat} {t : ByteArray} (ht : t.size ≤ B) : Fits B n (upd f r t) := fun i hi => by
 by_cases e : i = r
 ·subst e; rw [upd_same]; exact ht
 ·rw [upd_other _ _ e]; exact h i hi
end Go.Proofs.YtdgkhjgnjfgnlaaGreat
