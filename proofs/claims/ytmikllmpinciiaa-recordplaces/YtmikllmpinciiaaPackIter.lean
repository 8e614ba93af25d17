/- The iterator that goes through numbers and widths: for every loop body that keeps what lay ahead of it. -/
import Derived.RangeFuncBox
import Derived.RangeFuncLeaves
import Derived.RangeFuncNested
import Derived.Shelf.Abstract
import Derived.OwnWalkIn
import Derived.TacticsInMore
import Derived.LoopNIn
import Derived.LoopIn
import Derived.Maps.AppendAt
import Derived.Test.YtmikllmpinciiaaPackWalk
namespace Go.Proofs.Ytmikllmpinciiaa
open Go.RowKit Go.Shelf
attribute [local go_sem] Oper.semAt_some

namespace Pk
abbrev Pl (m : Nat) : Type := { p : Nat × Nat // p.1 < m ∧ p.2 < 8 }
/-- the places ahead of byte k of number i -/
def plP (ws : List Int) (i k : Nat) : List (Nat × Nat) := ((List.range i).flatMap fun j => (List.range (wd ws j)).map fun t => (j, t)) ++ (List.range k).map fun t => (i, t)
theorem plP_succ (ws : List Int) (i k : Nat) : plP ws i (k + 1) = plP ws i k ++ [(i, k)] := by
  unfold plP; rw [List.range_succ (n := k), List.map_append, ← List.append_assoc]; rfl
theorem plP_next (ws : List Int) (i : Nat) : plP ws i (wd ws i) = plP ws (i + 1) 0 := by
  simp [plP, List.range_succ]
theorem plP_length (ws : List Int) (i k : Nat) : (plP ws i k).length = offs ws i + k := by
  unfold plP
  rw [List.length_append, List.length_map, List.length_range]
  congr 1
  induction i with
  | zero => rfl
  | succ i ih => rw [List.range_succ, List.flatMap_append, List.length_append, ih]; simp; rfl
theorem snoc_place {m : Nat} {pre : List (Pl m)} {ws : List Int} {i k : Nat} (x : Pl m) (h : pre.map (·.1) = plP ws i k) (hx : x.1 = (i, k)) : (pre ++ [x]).map (·.1) = plP ws i (k + 1) := by
  rw [List.map_append, h, plP_succ, ← hx]; rfl
end Pk

theorem places_any (a : Option Addr) (len cap : Nat) (w : World) :
    Calls Try.prog 28 #[.slice a len cap] w fun e w' => e = .returned (.func (.func 38) #[] #[.pointer (some ⟨w.heap.size, 0, none⟩)]) ∧ w' = w.alloc (.cells #[.slice a len cap] 53) := by
  go_enter Try.func28, Try.ntmps28
  go_wp2
  go_ret
  exact ⟨rfl, rfl⟩

set_option maxRecDepth 100000 in
set_option maxHeartbeats 2000000 in
theorem places1_in (F : Fence) (n : Nat) (hF : F.fn 38) (hro : F.round = none) (hn : 1 ≤ n) (l Bs : Nat) (ws : List Int) (hok : Pk.okW ws = true) (b : Option Addr) (cb : Nat) (w0 : World)
    (hr : RowI .i64 w0 b ws.length (fun j => ws.getD j 0)) (J Jx : List (Pk.Pl ws.length) → World → Prop)
    (hY : ∀ pre x W, J pre W → pre.length < Pk.offs ws ws.length → YieldAt F (n - 1) Try.prog l #[.int .i64 (x.1.1 : Int), .int .i64 (8 * (x.1.2 : Int))] W fun e W' =>
      (e = .returned (.bool true) ∧ J (pre ++ [x]) W' ∧ Below w0.heap.size W W') ∨ (e = .returned (.bool false) ∧ Jx (pre ++ [x]) W'))
    (W : World) (hW : Below w0.heap.size w0 W) (hBs : W.cell? ⟨Bs, 0, none⟩ = some (.slice b ws.length cb)) (h0 : J [] W) :
    CallsIn F n Try.prog 38 #[.func (.yield l) #[] #[], .pointer (some ⟨Bs, 0, none⟩)] W fun e W' => (∃ v, e = .returned v) ∧
      ((∃ ys : List (Pk.Pl ws.length), ys.map (·.1) = Pk.plP ws ws.length 0 ∧ J ys W') ∨ (∃ pre : List (Pk.Pl ws.length), True ∧ Jx pre W')) := by
  have h64 := Pk.okW_len hok
  have hat : ∀ k, k < ws.length → _ := fun k hk => Pk.wd_le hok hk
  have Hok : Hid (Pk.okW ws = true) := hok
  clear hok
  obtain ⟨m, hm0⟩ : ∃ m, m = ws.length := ⟨_, rfl⟩
  have Hm : Hid (m = ws.length) := hm0
  rw [← hm0] at h64 hBs
  refine callsIn_of_wp Try.func38 rfl hF ?_ hro
  simp only [Try.ntmps38, List.size_toArray, List.length_cons, List.length_nil, Nat.reduceAdd, Nat.reduceSub, Array.replicate_succ, Array.replicate_zero, List.push_toArray, List.append_toArray, List.nil_append, List.cons_append]
  clear hm0
  gi_wp2
  gi_loopw [8] (fun i wr => ∃ (k : Nat) (pre : List (Pk.Pl ws.length)), k ≤ m ∧ i = .int .i64 k ∧ pre.map (·.1) = Pk.plP ws k 0 ∧ J pre wr ∧ Below w0.heap.size w0 wr)
    (fun i _ => m - (intOf i).toNat)
  case atStart => exact ⟨0, [], Nat.zero_le _, rfl, rfl, h0, hW⟩
  case round =>
    obtain ⟨k, pre, hk, rfl, hpre, hJ, hb⟩ := hrel
    have Hpre : Hid (pre.map (·.1) = Pk.plP ws k 0) := hpre
    clear hpre
    by_cases hlt : k < m
    · obtain ⟨b2, o2, rfl, hc2⟩ := hr k (by rw [← Hm.out]; exact hlt)
      have hb2 := World.block_lt_of_cell? w0 _ hc2
      have hc3 : wr.cell? ⟨b2, o2 + k, none⟩ = some (.int .i64 (ws.getD k 0)) := (hb.cell (p := ⟨b2, o2 + k, none⟩) hb2).trans hc2
      obtain ⟨h1, h8, hx⟩ := hat k (by rw [← Hm.out]; exact hlt)
      obtain ⟨x, hx2⟩ : ∃ x, Pk.wd ws k = x := ⟨_, rfl⟩
      rw [← hx] at hc3
      rw [hx2] at hc3 h1 h8
      have Hx : Hid (Pk.wd ws k = x) := hx2
      clear hc2 hx hx2
      gi_wp2
      gi_loopw [14] (fun t wr' => ∃ (j : Nat) (pre' : List (Pk.Pl ws.length)), j ≤ x ∧ t = .int .i64 j ∧ pre'.map (·.1) = Pk.plP ws k j ∧ J pre' wr' ∧ Below w0.heap.size w0 wr')
        (fun t _ => x - (intOf t).toNat)
      case atStart => exact ⟨0, pre, Nat.zero_le _, rfl, Hpre.out, hJ, hb⟩
      case round =>
        obtain ⟨j, pre', hj, rfl, hpre', hJ', hb'⟩ := hrel
        have Hpre' : Hid (pre'.map (·.1) = Pk.plP ws k j) := hpre'
        clear hpre'
        by_cases hjlt : j < x
        · obtain ⟨fn, tmps, assign, body, hy, hR⟩ := hY pre' ⟨(k, j), by rw [← Hm.out]; exact hlt, by omega⟩ _ hJ' (by
            have e := congrArg List.length Hpre'.out
            rw [List.length_map, Pk.plP_length] at e
            have := Pk.offs_mono ws (show k + 1 ≤ ws.length by rw [← Hm.out]; exact hlt)
            have e2 : Pk.offs ws (k + 1) = Pk.offs ws k + x := by rw [← Hx.out]; rfl
            omega)
          dsimp only at hy
          gi_wp2
          refine hR.mono ?_
          rintro e W3 (⟨rfl, hJ3, hk3⟩ | ⟨rfl, hJx3⟩)
          · gi_wp2
            go_roundw
            case rel => exact ⟨j + 1, _, by omega, by go_num, Pk.snoc_place _ Hpre'.out rfl, hJ3, hb'.trans hk3⟩
            case measure => simp [intOf]; omega
          · gi_wp2
            refine bodyPost_ret (results_none rfl _ _ _) rfl ?_
            exact ⟨⟨_, rfl⟩, .inr ⟨_, trivial, hJx3⟩⟩
        · have hjx : j = x := by omega
          have E : Hid (pre'.map (·.1) = Pk.plP ws (k + 1) 0) := by show _ = _; rw [Hpre'.out, hjx, ← Hx.out, Pk.plP_next]
          clear hjx
          gi_wp2
          go_roundw
          case rel => exact ⟨k + 1, pre', by omega, by go_num, E.out, hJ', hb'⟩
          case measure => simp [intOf]; omega
    · have hkk : k = m := by omega
      have E : Hid (pre.map (·.1) = Pk.plP ws ws.length 0) := by show _ = _; rw [Hpre.out, hkk, Hm.out]
      clear hkk
      gi_wp2
      go_end0
      exact ⟨⟨_, rfl⟩, .inl ⟨pre, E.out, hJ⟩⟩

theorem places_stops (F : Fence) (n : Nat) (hF : F.fn 38) (hro : F.round = none) (hn : 1 ≤ n) (Bs : Nat) (ws : List Int) (hok : Pk.okW ws = true) (b : Option Addr) (cb : Nat) (w0 w : World) (hw : Below w0.heap.size w0 w)
    (hr : RowI .i64 w0 b ws.length (fun j => ws.getD j 0)) (hBs : Bs < w.heap.size) (hc : w.cell? ⟨Bs, 0, none⟩ = some (.slice b ws.length cb)) :
    SeqStopsK F n Try.prog 38 #[.pointer (some ⟨Bs, 0, none⟩)] (fun x : Pk.Pl ws.length => #[Value.int .i64 (x.1.1 : Int), Value.int .i64 (8 * (x.1.2 : Int))]) (Below w0.heap.size) (fun ys => ys.map (·.1) = Pk.plP ws ws.length 0) (fun _ => True) (Pk.offs ws ws.length) w := fun l J Jx W hW _ _ hY h0 =>
  places1_in F n hF hro hn l Bs ws hok b cb w0 hr J Jx hY W (hw.trans (hW.mono hw.size)) ((hW.cell (p := ⟨Bs, 0, none⟩) hBs).trans hc) h0
end Go.Proofs.Ytmikllmpinciiaa
