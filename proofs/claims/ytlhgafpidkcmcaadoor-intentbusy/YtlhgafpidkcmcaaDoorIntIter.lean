/- The walks of a map's dirty regions: the iterator over a number's bits, and what the library collects of it. -/
import Derived.Test.YtlhgafpidkcmcaaDoorIntTop
import Derived.Test.YtlhgafpidkcmcaaDoorIntBits
import Derived.Test.YtlhgafpidkcmcaaDoorLayTz
import Derived.Shelf.Abstract
import Derived.Maps.AppendAt
import Derived.RangeFuncWrites
import Derived.RangeFuncNested
import Derived.RangeFuncBox
import Derived.RangeFuncLeaves
import Derived.LoopNIn
import Derived.LoopIn
import Derived.Lib.JoinLaws
import Derived.TacticsInMore
import Derived.OwnWalkIn
namespace Go.Proofs.YtlhgafpidkcmcaaDoor
open Go.RowKit Go.Shelf
attribute [local go_sem] Oper.semAt_some

/-- the library's table of places -/
def In.tab (w : World) : Prop := TabAt 0 Lib.deBruijn64tab w
theorem In.tab.below {B : Nat} {w w' : World} (h : In.tab w) (hb : Below B w w') (hB : 0 < B) : In.tab w' := fun j hj => (hb.cell (p := ⟨0, j, none⟩) hB).trans (h j hj)
theorem In.tab.pos {w : World} (h : In.tab w) : 0 < w.heap.size := World.block_lt_of_cell? w _ (h 0 (by decide))
theorem In.tab.kept {w w' : World} (h : In.tab w) (hb : Below w.heap.size w w') : In.tab w' := h.below hb h.pos

theorem lowest_any (x : Nat) (hx : x < 18446744073709551616) (w : World) (hT : In.tab w) :
    Calls Tryd.prog 24 #[.int .u64 (x : Int)] w fun e w' => e = .returned (.int .i64 ((Lib.ctz 64 x : Nat) : Int)) ∧ w' = w :=
  Any7.bits_TrailingZeros64 Tryd.tzA x hx w (fun _ => hT)

theorem each_any (d : Nat) (w : World) :
    Calls Tryd.prog 19 #[.int .u64 (d : Int)] w fun e w' => e = .returned (.func (.func 23) #[] #[.pointer (some ⟨w.heap.size, 0, none⟩)]) ∧ w' = w.alloc (.cells #[.int .u64 (d : Int)] 36) := by
  go_enter Tryd.func19, Tryd.ntmps19
  go_wp2
  go_ret
  exact ⟨rfl, rfl⟩

set_option maxRecDepth 100000 in
set_option maxHeartbeats 2000000 in
theorem each1_in (d : Nat) (hd : d < 18446744073709551616) (m : Nat) (hm : 1 ≤ m) (l Bs : Nat) (w0 : World) (hT : In.tab w0) (J Jx : List Int → World → Prop)
    (hY : ∀ pre x W, J pre W → pre.length < (In.bits d).length → YieldAt Fence.wide (m - 1) Tryd.prog l #[.int .i64 x] W fun e W' =>
      (e = .returned (.bool true) ∧ J (pre ++ [x]) W' ∧ Below w0.heap.size W W') ∨ (e = .returned (.bool false) ∧ Jx (pre ++ [x]) W'))
    (W : World) (hW : Below w0.heap.size w0 W) (hBs : W.cell? ⟨Bs, 0, none⟩ = some (.int .u64 (d : Int))) (h0 : J [] W) :
    CallsIn Fence.wide m Tryd.prog 23 #[.func (.yield l) #[] #[], .pointer (some ⟨Bs, 0, none⟩)] W fun e W' => (∃ v, e = .returned v) ∧
      ((∃ ys : List Int, ys = In.ints d ∧ J ys W') ∨ (∃ pre : List Int, True ∧ Jx pre W')) := by
  refine callsIn_of_wp Tryd.func23 rfl trivial ?_ rfl
  simp only [Tryd.ntmps23, List.size_toArray, List.length_cons, List.length_nil, Nat.reduceAdd, Nat.reduceSub, Array.replicate_succ, Array.replicate_zero, List.push_toArray, List.append_toArray, List.nil_append, List.cons_append]
  have HD : Hid (d < 18446744073709551616) := hd
  gi_wp2
  gi_loopw [3] (fun i wr => ∃ (x : Nat) (pre : List Int), x ≤ d ∧ i = .int .u64 (x : Int) ∧ J pre wr ∧ pre ++ In.ints x = In.ints d ∧ Below w0.heap.size w0 wr)
    (fun i _ => (intOf i).toNat)
  case atStart => exact ⟨d, [], Nat.le_refl _, rfl, h0, rfl, hW⟩
  case round =>
    obtain ⟨x, pre, hxd, rfl, hJ, hpre, hb⟩ := hrel
    have hx : x < 18446744073709551616 := by have := HD.out; omega
    by_cases hx0 : x = 0
    · subst hx0
      have E : Hid (pre = In.ints d) := by show _ = _; rw [← hpre]; simp [In.ints, In.bits_zero]
      clear hpre
      gi_wp2
      go_end0
      exact ⟨⟨_, rfl⟩, .inl ⟨_, E.out, hJ⟩⟩
    · have hsplit : In.ints x = ((Lib.ctz 64 x : Nat) : Int) :: In.ints (x &&& (x - 1)) := by simp [In.ints, In.bits_pos hx0]
      have hlen : pre.length < (In.bits d).length := by
        have := congrArg List.length hpre
        rw [List.length_append, In.ints_length, In.ints_length, In.bits_pos hx0, List.length_cons] at this
        omega
      have E : Hid ((pre ++ [((Lib.ctz 64 x : Nat) : Int)]) ++ In.ints (x &&& (x - 1)) = In.ints d) := by show _ = _; rw [← hpre, hsplit, List.append_assoc]; rfl
      have T : Hid (In.tab wr) := hT.below hb hT.pos
      have EA : bits .and .u64 (x : Int) ((x : Int) - 1) = ((x &&& (x - 1) : Nat) : Int) := by
        rw [show (x : Int) - 1 = ((x - 1 : Nat) : Int) by omega]
        exact u64_and_nat x (x - 1) hx (by omega)
      have hless := In.less x hx0
      obtain ⟨z, hz⟩ : ∃ z, z = x &&& (x - 1) := ⟨_, rfl⟩
      have cl := lowest_any x hx wr T.out
      obtain ⟨k, hk⟩ : ∃ k, k = Lib.ctz 64 x := ⟨_, rfl⟩
      rw [← hz] at E EA hless
      rw [← hk] at E cl
      obtain ⟨fn, tmps, assign, body, hy, hR⟩ := hY pre (k : Int) wr hJ hlen
      have hne : ((x : Int) == 0) = false := by rw [beq_eq_false_iff_ne]; omega
      clear hsplit hpre hz hk hlen
      gi_wp2_with fail
      refine ⟨trivial, (callsIn_wide.2 cl).mono ?_⟩
      rintro e w1 ⟨rfl, rfl⟩
      gi_wp2
      refine hR.mono ?_
      rintro e W3 (⟨rfl, hJ3, hk3⟩ | ⟨rfl, hJx3⟩)
      · gi_wp2
        go_roundw
        case rel => exact ⟨z, _, by omega, rfl, hJ3, E.out, hb.trans hk3⟩
        case measure => simp [intOf]; omega
      · gi_wp2
        refine bodyPost_ret (results_none rfl _ _ _) rfl ?_
        exact ⟨⟨_, rfl⟩, .inr ⟨_, trivial, hJx3⟩⟩

theorem each_stops (d : Nat) (hd : d < 18446744073709551616) (m : Nat) (hm : 1 ≤ m) (Bs : Nat) (w0 w : World) (hT : In.tab w0) (hw : Below w0.heap.size w0 w) (hBs : Bs < w.heap.size) (hc : w.cell? ⟨Bs, 0, none⟩ = some (.int .u64 (d : Int))) :
    SeqStopsK Fence.wide m Tryd.prog 23 #[.pointer (some ⟨Bs, 0, none⟩)] (fun x : Int => #[Value.int .i64 x]) (Below w0.heap.size) (fun ys => ys = In.ints d) (fun _ => True) (In.bits d).length w := fun l J Jx W hW _ _ hY h0 =>
  each1_in d hd m hm l Bs w0 hT J Jx hY W (hw.trans (hW.mono hw.size)) ((hW.cell (p := ⟨Bs, 0, none⟩) hBs).trans hc) h0
end Go.Proofs.YtlhgafpidkcmcaaDoor
