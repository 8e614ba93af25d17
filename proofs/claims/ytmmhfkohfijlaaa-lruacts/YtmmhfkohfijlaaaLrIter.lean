/- The iterator that tells a ring's nodes, the last one first. -/
import Derived.Test.YtmmhfkohfijlaaaLrTop
import Derived.RangeFuncBox
import Derived.RangeFuncLeaves
import Derived.RangeFuncNested
import Derived.RangeFuncWrites
import Derived.Shelf.Abstract
import Derived.OwnWalkIn
import Derived.TacticsInMore
import Derived.LoopNIn
import Derived.LoopIn
import Derived.Sort.LoopGhostIn
import Derived.Maps.AppendAt
import Derived.Lib.JoinLaws
import Derived.LaidEqlPtr
namespace Go.Proofs.Ytmmhfkohfijlaaa
open Go.RowKit Go.Maps Go.Shelf Lr
attribute [local go_sem] Oper.semAt_some

namespace Lr
/-- a node of those -/
abbrev In (ns : N) : Type := { x : Nat × Int × Nat // x ∈ ns }
/-- those blocks stand as they were -/
def SameOn (G : Nat → Prop) (w w' : World) : Prop := ∀ k, G k → w'.heap[k]? = w.heap[k]?
theorem SameOn.trans {G : Nat → Prop} {a b c : World} (h : SameOn G a b) (k : SameOn G b c) : SameOn G a c := fun i hi => (k i hi).trans (h i hi)
theorem SameOn.refl (G : Nat → Prop) (a : World) : SameOn G a a := fun _ _ => rfl
theorem SameOn.below {G : Nat → Prop} {n : Nat} {a b : World} (h : Below n a b) (hG : ∀ k, G k → k < n) : SameOn G a b := fun i hi => h.block i (hG i hi)
theorem SameOn.put {G : Nat → Prop} {n : Nat} (hG : ∀ k, G k → k < n) (W : World) (l : Nat) (o o' : Obj) (hl : n ≤ l) (_ : W.heap[l]? = some o) (_ : o.isCells = false) (_ : o.isWalk = false) : SameOn G W (W.putObj l o') :=
  fun i hi => World.putObj_heap_other (by have := hG i hi; omega)
/-- what the iterator reads -/
def ItG (Bs e : Nat) (ns : N) (k : Nat) : Prop := k = Bs ∨ k ∈ e :: blk ns
theorem getD_at' {α : Type} {l : List α} {i : Nat} (h : i < l.length) {d : α} : l.getD i d = l[i] := by rw [List.getD_eq_getElem?_getD, List.getElem?_eq_getElem h]; rfl
theorem take_next {l : N} {k : Nat} (h : k < l.length) : l.reverse.take (l.length - (k + 1)) ++ [l[k]] = l.reverse.take (l.length - k) := by
  rw [show l.length - k = (l.length - (k + 1)) + 1 by omega, List.take_succ_eq_append_getElem (by simp; omega), List.getElem_reverse]
  congr 2
  congr 1
  omega
end Lr

theorem node_size : (Try.prog.info? 59).map (·.size) = some 4 := by kernel_rfl
theorem node_info : ∃ j, Try.prog.info? 59 = some j ∧ j.size ≠ 0 := by
  have h := node_size
  cases hj : Try.prog.info? 59 with
  | none => rw [hj] at h; cases h
  | some j => rw [hj] at h; have h2 : j.size = 4 := by simpa using h
              exact ⟨j, rfl, by omega⟩
theorem neq_same (a : Nat) (w : World) : (binOp .neq 48 (.pointer (some ⟨a, 0, none⟩)) (.pointer (some ⟨a, 0, none⟩))).run Try.prog w = .ok (.bool false) w := by
  obtain ⟨j, hj, _⟩ := node_info
  have h : ∀ d : Nat, (Op.equalIn (d + 1) 48 (.pointer (some ⟨a, 0, none⟩)) (.pointer (some ⟨a, 0, none⟩))).run Try.prog w = .ok true w := fun d => by
    simp [Op.equalIn, run_underlying Try.underlying48, sizeOf, typeInfo, hj, run_sameAddr_same]
  simp only [binOp]
  simp [Op.equal, Op.maxDepth, h 9999]
theorem neq_other {a b : Nat} {ca cb : Array Value} {ta tb : TypeId} (w : World) (hne : a ≠ b) (ha : w.heap[a]? = some (.cells ca ta (0, 0))) (hb : w.heap[b]? = some (.cells cb tb (0, 0))) :
    (binOp .neq 48 (.pointer (some ⟨a, 0, none⟩)) (.pointer (some ⟨b, 0, none⟩))).run Try.prog w = .ok (.bool true) w := by
  obtain ⟨j, hj, hsz⟩ := node_info
  have h : ∀ d : Nat, (Op.equalIn (d + 1) 48 (.pointer (some ⟨a, 0, none⟩)) (.pointer (some ⟨b, 0, none⟩))).run Try.prog w = .ok false w := fun d => by
    simp [Op.equalIn, run_underlying Try.underlying48, sizeOf, typeInfo, hj, hsz, run_sameAddr_other w (a := ⟨a, 0, none⟩) (b := ⟨b, 0, none⟩) (fun e => hne (by injection e)) ha hb]
  simp only [binOp]
  simp [Op.equal, Op.maxDepth, h 9999]

theorem upward_any (e : Nat) (w : World) :
    Calls Try.prog 27 #[.pointer (some ⟨e, 0, none⟩)] w fun r w' => r = .returned (.func (.func 37) #[] #[.pointer (some ⟨w.heap.size, 0, none⟩)]) ∧ w' = w.alloc (.cells #[.pointer (some ⟨e, 0, none⟩)] 48) := by
  go_enter Try.func27, Try.ntmps27
  go_wp2
  go_ret
  exact ⟨rfl, rfl⟩

set_option maxRecDepth 100000 in
set_option maxHeartbeats 2000000 in
theorem upward1_in (F : Fence) (n : Nat) (hF : F.fn 37) (hro : F.round = none) (hn : 1 ≤ n) (l Bs : Nat) (e : Nat) (ns : N) (w0 : World) (hr : RingAt w0 e ns) (hBs : w0.heap[Bs]? = some (.cells #[.pointer (some ⟨e, 0, none⟩)] 48 (0, 0))) (J Jx : List (In ns) → World → Prop)
    (hY : ∀ pre x W, J pre W → pre.length < ns.length → YieldAt F (n - 1) Try.prog l #[.pointer (some ⟨x.1.1, 0, none⟩)] W fun r W' =>
      (r = .returned (.bool true) ∧ J (pre ++ [x]) W' ∧ SameOn (ItG Bs e ns) W W') ∨ (r = .returned (.bool false) ∧ Jx (pre ++ [x]) W'))
    (W : World) (hW : SameOn (ItG Bs e ns) w0 W) (h0 : J [] W) :
    CallsIn F n Try.prog 37 #[.func (.yield l) #[] #[], .pointer (some ⟨Bs, 0, none⟩)] W fun r W' => (∃ v, r = .returned v) ∧
      ((∃ ys : List (In ns), ys.map (·.1) = ns.reverse ∧ J ys W') ∨ (∃ pre : List (In ns), (∃ t, pre.map (·.1) ++ t = ns.reverse) ∧ Jx pre W')) := by
  obtain ⟨A, B, V, h1, h2, _⟩ := hr
  obtain ⟨N, hN⟩ : ∃ N, N = ns.length := ⟨_, rfl⟩
  have hc : ∀ W', SameOn (ItG Bs e ns) w0 W' → W'.cell? ⟨Bs, 0, none⟩ = some (.pointer (some ⟨e, 0, none⟩)) := fun W' h => by rw [cell_of_row W' Bs 0 _ _ _ ((h Bs (.inl rfl)).trans hBs)]; rfl
  have ha : ∀ W', SameOn (ItG Bs e ns) w0 W' → ∀ k, k ≤ N → W'.cell? ⟨pl e (blk ns) (k + 1), 0, none⟩ = some (.pointer (some ⟨pl e (blk ns) k, 0, none⟩)) := fun W' h k hk => by
    have hm := pl_mem e (blk ns) (k + 1)
    rw [cell_of_row W' _ 0 _ _ _ ((h _ (.inr hm)).trans (h2 _ hm)), h1.a k (by simpa [← hN] using hk)]; rfl
  have HN : Hid (N = ns.length) := hN
  have HND : Hid ((e :: blk ns).Nodup) := h1.nd
  have HY : Hid (∀ pre x W, J pre W → pre.length < ns.length → YieldAt F (n - 1) Try.prog l #[.pointer (some ⟨x.1.1, 0, none⟩)] W fun r W' =>
      (r = .returned (.bool true) ∧ J (pre ++ [x]) W' ∧ SameOn (ItG Bs e ns) W W') ∨ (r = .returned (.bool false) ∧ Jx (pre ++ [x]) W')) := hY
  have HC : Hid (∀ W', SameOn (ItG Bs e ns) w0 W' → W'.cell? ⟨Bs, 0, none⟩ = some (.pointer (some ⟨e, 0, none⟩))) := hc
  have HA : Hid (∀ W', SameOn (ItG Bs e ns) w0 W' → ∀ k, k ≤ N → W'.cell? ⟨pl e (blk ns) (k + 1), 0, none⟩ = some (.pointer (some ⟨pl e (blk ns) k, 0, none⟩))) := ha
  have HT : Hid (∀ W', SameOn (ItG Bs e ns) w0 W' → ∀ k, k ∈ e :: blk ns → ∃ cs, W'.heap[k]? = some (.cells cs 59 (0, 0))) := fun W' h k hk => ⟨_, (h k (.inr hk)).trans (h2 k hk)⟩
  have H0 : Hid (J [] W) := h0
  have HW : Hid (SameOn (ItG Bs e ns) w0 W) := hW
  have cB := hc W hW
  have cE := ha W hW N (Nat.le_refl _)
  have hlast : pl e (blk ns) (N + 1) = e := by rw [hN, ← List.length_map (f := fun x : Nat × Int × Nat => x.1)]; exact pl_last e _
  rw [hlast] at cE
  clear hN h1 h2 hY h0 hW hc ha hBs hlast
  refine callsIn_of_wp Try.func37 rfl hF ?_ hro
  simp only [Try.ntmps37, List.size_toArray, List.length_cons, List.length_nil, Nat.reduceAdd, Nat.reduceSub, Array.replicate_succ, Array.replicate_zero, List.push_toArray, List.append_toArray, List.nil_append, List.cons_append]
  gi_wp2
  gi_loopg [3] N (fun k m wr => ∃ (pre : List (In ns)) (b : Nat), k ≤ N ∧ m = .pointer (some ⟨b, 0, none⟩) ∧ b = pl e (blk ns) k ∧ pre.map (·.1) = ns.reverse.take (N - k) ∧ J pre wr ∧ SameOn (ItG Bs e ns) w0 wr)
  case atStart => exact ⟨[], _, Nat.le_refl _, rfl, rfl, by rw [Nat.sub_self]; rfl, H0.out, HW.out⟩
  case round =>
    obtain ⟨pre, b, hk, rfl, hb, hpre, hJ, hbw⟩ := hrel
    have HPre : Hid (pre.map (·.1) = ns.reverse.take (N - gk)) := hpre
    have HBw : Hid (SameOn (ItG Bs e ns) w0 wr) := hbw
    have cb := HC.out wr hbw
    cases gk with
    | zero =>
      have hbe : b = e := hb
      have fneq := neq_same e wr
      have E : Hid (pre.map (·.1) = ns.reverse) := by show _ = _; rw [HPre.out, Nat.sub_zero, HN.out, List.take_of_length_le (by simp)]
      clear hb hpre hbw HPre
      subst hbe
      gi_wp2
      refine ⟨fun _ h => (by cases h), ?_⟩
      gi_wp2
      go_end0
      exact ⟨⟨_, rfl⟩, .inl ⟨_, E.out, hJ⟩⟩
    | succ k =>
      have hkl : k < ns.length := by have := HN.out; omega
      have hbn : b = ns[k].1 := by rw [hb, pl_succ, getD_at' (by simpa using hkl)]; simp
      have hne : b ≠ e := fun q => by
        rw [hb, ← pl_zero e (blk ns)] at q
        have := pl_inj HND.out (by simp; omega) (Nat.zero_le _) q
        omega
      obtain ⟨x, hx⟩ : ∃ x : In ns, x = ⟨ns[k], List.getElem_mem hkl⟩ := ⟨_, rfl⟩
      have hlen : pre.length < ns.length := by
        have h0 := HN.out
        have := congrArg List.length HPre.out
        rw [List.length_map, List.length_take, List.length_reverse] at this
        omega
      have hy0 := HY.out pre x wr hJ hlen
      rw [show x.1.1 = b by rw [hx, hbn]] at hy0
      obtain ⟨fn, tmps, assign, body, hy, hR⟩ := hy0
      have HPre2 : Hid ((pre ++ [x]).map (·.1) = ns.reverse.take (N - k)) := by
        show _ = _
        rw [List.map_append, HPre.out, HN.out, hx]
        exact take_next hkl
      have HBb : Hid (b = pl e (blk ns) (k + 1)) := hb
      obtain ⟨c1, hc1⟩ := HT.out wr hbw b (by rw [hb]; exact pl_mem _ _ _)
      obtain ⟨c2, hc2⟩ := HT.out wr hbw e (List.mem_cons_self ..)
      have fneq := neq_other wr hne hc1 hc2
      clear hb hpre hbw HPre hx hbn hkl hlen hc1 hc2 hne
      gi_wp2
      refine hR.mono ?_
      rintro r W3 (⟨rfl, hJ3, hk3⟩ | ⟨rfl, hJx3⟩)
      · have hs3 := HBw.out.trans hk3
        have HS3 : Hid (SameOn (ItG Bs e ns) w0 W3) := hs3
        have cb3 := HA.out W3 hs3 k (by omega)
        rw [← HBb.out] at cb3
        clear hs3 hk3
        gi_wp2
        gi_roundg k
        case measure => omega
        case rel => exact ⟨_, _, by omega, rfl, rfl, HPre2.out, hJ3, HS3.out⟩
      · gi_wp2
        go_end0
        exact ⟨⟨_, rfl⟩, .inr ⟨_, ⟨_, by rw [HPre2.out]; exact List.take_append_drop _ _⟩, hJx3⟩⟩

theorem upward_stops (F : Fence) (n : Nat) (hF : F.fn 37) (hro : F.round = none) (hn : 1 ≤ n) (Bs : Nat) (e : Nat) (ns : N) (w : World) (hr : RingAt w e ns) (hBs : w.heap[Bs]? = some (.cells #[.pointer (some ⟨e, 0, none⟩)] 48 (0, 0))) :
    SeqStopsK F n Try.prog 37 #[.pointer (some ⟨Bs, 0, none⟩)] (fun x : In ns => #[Value.pointer (some ⟨x.1.1, 0, none⟩)]) (SameOn (ItG Bs e ns)) (fun ys => ys.map (·.1) = ns.reverse) (fun pre => ∃ t, pre.map (·.1) ++ t = ns.reverse) ns.length w := fun l J Jx W hW _ _ hY h0 =>
  upward1_in F n hF hro hn l Bs e ns w hr hBs J Jx hY W (SameOn.below hW fun k hk => by
    rcases hk with rfl | hk
    · exact (Array.getElem?_eq_some_iff.1 hBs).1
    · exact hr.lt hk) h0
end Go.Proofs.Ytmmhfkohfijlaaa
