import Derived.Test.YtdgkhjgnjfgnlaaGreatMRpA
import Derived.RangeFuncBox
import Derived.RangeFuncLeaves
import Derived.RangeFuncNested
import Derived.RangeFuncWrites
import Derived.Shelf.Abstract
import Derived.OwnWalkIn
import Derived.TacticsInMore
import Derived.LoopNIn
import Derived.LoopIn
import Derived.Sort.LoopGhostIn
import Derived.Maps.AppendAt
import Derived.Lib.JoinLaws
import Derived.Test.YtdgkhjgnjfgnlaaGreatMRoB
namespace Go.Proofs.YtdgkhjgnjfgnlaaGreat
open Go.RowKit Go.Maps Go.Shelf
attribute [local go_sem] Oper.semAt_some
namespace Ro
abbrev Role (c : Nat) : Type := { x : Nat // x < c }
def Same1 (B : Nat) (w w' : World) : Prop := w'.heap[B]? = w.heap[B]?
theorem Same1.trans {B : Nat} {x y z : World} (h : Same1 B x y) (k : Same1 B y z) : Same1 B x z := Eq.trans k h
theorem Same1.put {B n : Nat} (hB : B < n) (W : World) (l : Nat) (o o' : Obj) (hl : n ≤ l) (_ : W.heap[l]? = some o) (_ : o.isCells = false) (_ : o.isWalk = false) : Same1 B W (W.putObj l o') := World.putObj_heap_other (by omega)
theorem Same1.of_below {B n : Nat} {w w' : World} (h : Below n w w') (hB : B < n) : Same1 B w w' := h.block B hB
end Ro
theorem box7_own {β : Type} (B : Nat) (c0 c1 c2 c3 c4 c5 c6 : Value) : Own (fun (_ : β) W => Box7 W B c0 c1 c2 c3 c4 c5 c6) := by
 rintro s X Y row h hg hrow
 exact ⟨cell_kept h.k0 hg hrow, cell_kept h.k1 hg hrow, cell_kept h.k2 hg hrow, cell_kept h.k3 hg hrow, cell_kept h.k4 hg hrow, cell_kept h.k5 hg hrow, cell_kept h.k6 hg hrow, fun j => by
  obtain ⟨o, ho, hc⟩ := cells_of_cell h.k0
  exact (World.frozen?_of_block (a := ⟨B, j, none⟩) (grownBy_keeps_cells hg hrow ho hc)).trans (h.fz j)⟩
theorem box7_of_block {w w' : World} {B : Nat} {c0 c1 c2 c3 c4 c5 c6 : Value} (h : Box7 w B c0 c1 c2 c3 c4 c5 c6) (e : w'.heap[B]? = w.heap[B]?) : Box7 w' B c0 c1 c2 c3 c4 c5 c6 :=
 ⟨(World.cell?_of_block (a := ⟨B, 0, none⟩) e).trans h.k0, (World.cell?_of_block (a := ⟨B, 1, none⟩) e).trans h.k1, (World.cell?_of_block (a := ⟨B, 2, none⟩) e).trans h.k2, (World.cell?_of_block (a := ⟨B, 3, none⟩) e).trans h.k3, (World.cell?_of_block (a := ⟨B, 4, none⟩) e).trans h.k4, (World.cell?_of_block (a := ⟨B, 5, none⟩) e).trans h.k5, (World.cell?_of_block (a := ⟨B, 6, none⟩) e).trans h.k6, fun j => (World.frozen?_of_block (a := ⟨B, j, none⟩) e).trans (h.fz j)⟩
section
variable {c k r : Nat} {da ba : Option Addr} {dn dcap bn bcap : Nat} {C : Nat → Ro.Col} {bf : Nat → Int}
set_option maxRecDepth 100000 in
theorem roles16_any (row off : Nat) (w : World) :
  Calls Tryz.prog 40 #[.agg #[.int .i64 (c : Int), .int .i64 (k : Int), .int .i64 (r : Int), .slice da c dcap, .slice ba c bcap, .int .i64 (row : Int), .int .i64 (off : Int)]] w fun e w' => e = .returned (.func (.func 75) #[] #[.pointer (some ⟨w.heap.size, 0, none⟩)]) ∧ w' = w.alloc (.cells #[.int .i64 (c : Int), .int .i64 (k : Int), .int .i64 (r : Int), .slice da c dcap, .slice ba c bcap, .int .i64 (row : Int), .int .i64 (off : Int)] 77) := by
 go_enter Tryz.func40, Tryz.ntmps40
 go_wp2
 go_ret
 exact ⟨rfl, rfl⟩
set_option maxRecDepth 100000 in
set_option maxHeartbeats 2000000 in
theorem roles1_in (n : Nat) (hn : 1 ≤ n) (l Bs : Nat) (hok : Lay.ok (c : Int) (k : Int) (r : Int)) (row off : Nat) (hr : row < r) (w0 : World) (hBs : Box7 w0 Bs (.int .i64 (c : Int)) (.int .i64 (k : Int)) (.int .i64 (r : Int)) (.slice da c dcap) (.slice ba c bcap) (.int .i64 (row : Int)) (.int .i64 (off : Int))) (J Jx : List (Ro.Role c) → World → Prop)
    (hJ : ∀ pre A B, J pre A → Below A.heap.size A B → J pre B)
    (hY : ∀ pre x W, J pre W → pre.length < c → YieldAt Fence.wide (n - 1) Tryz.prog l #[.int .i64 (x.1 : Int), .int .i64 ((Ro.colN c row x.1 : Nat) : Int)] W fun e W' =>
      (e = .returned (.bool true) ∧ J (pre ++ [x]) W' ∧ Ro.Same1 Bs W W') ∨ (e = .returned (.bool false) ∧ Jx (pre ++ [x]) W'))
    (W : World) (hW : Ro.Same1 Bs w0 W) (h0 : J [] W) :
    CallsIn Fence.wide n Tryz.prog 75 #[.func (.yield l) #[] #[], .pointer (some ⟨Bs, 0, none⟩)] W fun e W' => (∃ v, e = .returned v) ∧
      ((∃ ys : List (Ro.Role c), ys.map (·.1) = List.range c ∧ J ys W') ∨ (∃ pre : List (Ro.Role c), True ∧ Jx pre W')) := by
  have hc10 : c ≤ 10 := by have := hok.1; omega
  have hb0 := hBs.lt
  have HJ : Hid (∀ pre A B, J pre A → Below A.heap.size A B → J pre B) := hJ
  have HY : Hid (∀ pre x W, J pre W → pre.length < c → YieldAt Fence.wide (n - 1) Tryz.prog l #[.int .i64 (x.1 : Int), .int .i64 ((Ro.colN c row x.1 : Nat) : Int)] W fun e W' =>
      (e = .returned (.bool true) ∧ J (pre ++ [x]) W' ∧ Ro.Same1 Bs W W') ∨ (e = .returned (.bool false) ∧ Jx (pre ++ [x]) W')) := hY
  have HB : Hid (∀ W', Ro.Same1 Bs w0 W' → Box7 W' Bs (.int .i64 (c : Int)) (.int .i64 (k : Int)) (.int .i64 (r : Int)) (.slice da c dcap) (.slice ba c bcap) (.int .i64 (row : Int)) (.int .i64 (off : Int))) := fun W' h => box7_of_block hBs h
  have HCO : Hid (∀ W t, t < c → Calls Tryz.prog 51 #[.agg #[.int .i64 (c : Int), .int .i64 (k : Int), .int .i64 (r : Int), .slice da c dcap, .slice ba c bcap, .int .i64 (row : Int), .int .i64 (off : Int)], .int .i64 (t : Int)] W fun e w' => e = .returned (.int .i64 ((Ro.colN c row t : Nat) : Int)) ∧ Below W.heap.size W w') := fun W t ht => column16_any hok row off t hr ht W
  have H0 : Hid (J [] W) := h0
  have HW : Hid (Ro.Same1 Bs w0 W) := hW
  obtain ⟨k0, k1, k2, k3, k4, k5, k6, _⟩ := HB.out W hW
  clear hJ hY h0 hW hBs hok hr hb0
  refine callsIn_of_wp Tryz.func75 rfl trivial ?_ rfl
  simp only [Tryz.ntmps75, List.size_toArray, List.length_cons, List.length_nil, Nat.reduceAdd, Nat.reduceSub, Array.replicate_succ, Array.replicate_zero, List.push_toArray, List.append_toArray, List.nil_append, List.cons_append]
  gi_wp2
  gi_loopw [8] (fun i wr => ∃ (t : Nat) (pre : List (Ro.Role c)), t ≤ c ∧ i = .int .i64 t ∧ pre.map (·.1) = List.range t ∧ J pre wr ∧ Ro.Same1 Bs w0 wr)
    (fun i _ => c - (intOf i).toNat)
  case atStart => exact ⟨0, [], Nat.zero_le _, rfl, rfl, H0.out, HW.out⟩
  case round =>
    obtain ⟨t, pre, ht, rfl, hpre, hJw, hbw⟩ := hrel
    have HPre : Hid (pre.map (·.1) = List.range t) := hpre
    have HBW : Hid (Ro.Same1 Bs w0 wr) := hbw
    have HJW : Hid (J pre wr) := hJw
    have HB1 := HB.out wr hbw
    have hbl : Bs < wr.heap.size := HB1.lt
    obtain ⟨m0, m1, m2, m3, m4, m5, m6, _⟩ := HB1
    clear hpre hbw hJw
    by_cases hlt : t < c
    · have hlen : pre.length < c := by
        have := congrArg List.length HPre.out
        rw [List.length_map, List.length_range] at this
        omega
      have HPre2 : Hid ((pre ++ [(⟨t, hlt⟩ : Ro.Role c)]).map (·.1) = List.range (t + 1)) := by
        show _ = _
        rw [List.map_append, HPre.out, List.range_succ]; rfl
      obtain ⟨z, hz⟩ : ∃ z, Ro.colN c row t = z := ⟨_, rfl⟩
      have HC : Hid (∀ W, Calls Tryz.prog 51 #[.agg #[.int .i64 (c : Int), .int .i64 (k : Int), .int .i64 (r : Int), .slice da c dcap, .slice ba c bcap, .int .i64 (row : Int), .int .i64 (off : Int)], .int .i64 (t : Int)] W fun e w' => e = .returned (.int .i64 (z : Nat)) ∧ Below W.heap.size W w') := fun W => by rw [← hz]; exact HCO.out W t hlt
      have HYT : Hid (∀ W, J pre W → YieldAt Fence.wide (n - 1) Tryz.prog l #[.int .i64 (t : Int), .int .i64 (z : Int)] W fun e W' =>
          (e = .returned (.bool true) ∧ J (pre ++ [⟨t, hlt⟩]) W' ∧ Ro.Same1 Bs W W') ∨ (e = .returned (.bool false) ∧ Jx (pre ++ [⟨t, hlt⟩]) W')) := fun W h => by rw [← hz]; exact HY.out pre ⟨t, hlt⟩ W h hlen
      clear hz hlen
      gi_wp2_with fail
      refine ⟨trivial, (callsIn_wide.2 (HC.out _)).mono ?_⟩
      rintro e w1 ⟨rfl, hb1⟩
      have HS1 : Hid (Ro.Same1 Bs w0 w1) := HBW.out.trans (Ro.Same1.of_below hb1 hbl)
      obtain ⟨fn, tmps, assign, body, hy, hR⟩ := HYT.out w1 (HJ.out pre wr w1 HJW.out hb1)
      clear hb1 m0 m1 m2 m3 m4 m5 m6 hbl
      gi_wp2
      refine hR.mono ?_
      rintro e W3 (⟨rfl, hJ3, hk3⟩ | ⟨rfl, hJx3⟩)
      · have HS3 : Hid (Ro.Same1 Bs w0 W3) := HS1.out.trans hk3
        clear hk3
        gi_wp2
        go_roundw
        case rel => exact ⟨t + 1, _, by omega, by go_num, HPre2.out, hJ3, HS3.out⟩
        case measure => simp [intOf]; omega
      · gi_wp2
        refine bodyPost_ret (results_none rfl _ _ _) rfl ?_
        exact ⟨⟨_, rfl⟩, .inr ⟨_, trivial, hJx3⟩⟩
    · have htc : t = c := by omega
      have E : Hid (pre.map (·.1) = List.range c) := by show _ = _; rw [HPre.out, htc]
      clear htc
      gi_wp2
      go_end0
      exact ⟨⟨_, rfl⟩, .inl ⟨pre, E.out, HJW.out⟩⟩
theorem abides_below {β : Type} {n : Nat} {J : β → World → Prop} (h : AbidesFrom n J) (pre : β) (A B : World) (hJ : J pre A) (hb : Below A.heap.size A B) : J pre B :=
 h pre A B none hJ ⟨hb.1, hb.2, hb.3, hb.size, fun k hk _ => hb.block k hk⟩ (fun r e => by cases e)
theorem roles_stops (n : Nat) (hn : 1 ≤ n) (Bs : Nat) (hok : Lay.ok (c : Int) (k : Int) (r : Int)) (row off : Nat) (hr : row < r) (w : World) (hBs : Box7 w Bs (.int .i64 (c : Int)) (.int .i64 (k : Int)) (.int .i64 (r : Int)) (.slice da c dcap) (.slice ba c bcap) (.int .i64 (row : Int)) (.int .i64 (off : Int))) :
  SeqStopsK Fence.wide n Tryz.prog 75 #[.pointer (some ⟨Bs, 0, none⟩)] (fun x : Ro.Role c => #[Value.int .i64 (x.1 : Int), Value.int .i64 ((Ro.colN c row x.1 : Nat) : Int)]) (Ro.Same1 Bs) (fun ys => ys.map (·.1) = List.range c) (fun _ => True) c w := fun l J Jx W hW hA _ hY h0 =>
 roles1_in n hn l Bs hok row off hr w hBs J Jx (fun pre A B => abides_below hA pre A B) hY W (Ro.Same1.of_below hW hBs.lt) h0
end
end Go.Proofs.YtdgkhjgnjfgnlaaGreat
namespace Go.Proofs.YtdgkhjgnjfgnlaaGreat
open Go.RowKit Go.Maps Go.Shelf
namespace Ro
def hereX (f : Nat → ByteArray) (l : List Nat) (j : Nat) : ByteArray := if j ∈ l then f j else ⟨#[]⟩
def lostP (g : Nat → Nat) (l : List Nat) : List Int := (l.filter fun q => g q != 0).map fun q => ((q : Nat) : Int)
theorem hereX_snoc (f : Nat → ByteArray) (l : List Nat) (x j : Nat) : hereX f (l ++ [x]) j = if j = x then f x else hereX f l j := by
 unfold hereX
 by_cases e : j = x
 ·subst e; simp
 ·simp [e]
theorem hereX_same {f : Nat → ByteArray} {x : Nat} (h : f x = ⟨#[]⟩) (l : List Nat) (j : Nat) : hereX f (l ++ [x]) j = hereX f l j := by
 rw [hereX_snoc]
 split
 ·rename_i e
  subst e
  unfold hereX
  rw [h]; split <;> rfl
 ·rfl
theorem hereX_all (f : Nat → ByteArray) {c j : Nat} (h : j < c) : hereX f (List.range c) j = f j := if_pos (List.mem_range.2 h)
theorem lostP_yes {g : Nat → Nat} {x : Nat} (h : g x ≠ 0) (l : List Nat) : lostP g (l ++ [x]) = lostP g l ++ [(x : Int)] := by
 unfold lostP
 rw [List.filter_append, List.map_append]
 congr 1
 simp [h]
theorem lostP_no {g : Nat → Nat} {x : Nat} (h : g x = 0) (l : List Nat) : lostP g (l ++ [x]) = lostP g l := by
 unfold lostP
 rw [List.filter_append, List.map_append]
 simp [h]
theorem lostP_len (g : Nat → Nat) (l : List Nat) : (lostP g l).length ≤ l.length := by
 unfold lostP
 rw [List.length_map]
 exact List.length_filter_le _ _
section
variable {c k r dn bn : Nat} {C : Nat → Col} {bf : Nat → Int} {row off : Nat}
theorem rdE_cases (hm : ∀ i, i < c → fitB (4 + r * k) (C i) = true) (hr : row < r) (ho : off < k) {z : Nat} (hz : z < c) : rdE k C bf (row : Int) (off : Int) z = 0 ∨ rdE k C bf (row : Int) (off : Int) z = 41 ∨ rdE k C bf (row : Int) (off : Int) z = 42 := by
 unfold rdE
 cases hmi : missB C bf (row : Int) z with
 | true => right; left; rfl
 | false =>
  cases hC : C z with
  | none => right; left; rfl
  | some x =>
   obtain ⟨p, D⟩ := x
   have hd : D.dead = false := by
    unfold missB at hmi
    rw [hC] at hmi
    simp only [Bool.or_eq_false_iff] at hmi
    exact hmi.1
   have hf := hm z hz
   rw [hC] at hf
   have hn : 4 + r * k ≤ D.n := of_decide_eq_true hf
   have hlt : 4 + row * k + off < 4 + r * k := by
    have : (row + 1) * k ≤ r * k := Nat.mul_le_mul_right k hr
    rw [Nat.add_mul] at this
    omega
   have hb : D.hasB (4 + (row : Int) * (k : Int) + (off : Int)) = true := by
    unfold Dr.hasB
    rw [Bool.and_eq_true, decide_eq_true_eq, decide_eq_true_eq]
    have e : (4 + (row : Int) * (k : Int) + (off : Int)) = ((4 + row * k + off : Nat) : Int) := by rw [Int.natCast_add, Int.natCast_add, Int.natCast_mul]; rfl
    rw [e]
    unfold Dr.n at hn
    exact ⟨by omega, by omega⟩
   show D.readE _ = 0 ∨ D.readE _ = 41 ∨ D.readE _ = 42
   unfold Dr.readE Dr.reachE Dr.runsE
   rw [hd, hb]
   cases hg : (D.goes && D.left == 0) with
   | true => right; right; rfl
   | false =>
    cases D.spoilt.getD (4 + (row : Int) * (k : Int) + (off : Int)).toNat false with
    | true => right; left; rfl
    | false => left; rfl
theorem rdX_none {row off : Int} {z : Nat} (h : rdE k C bf row off z ≠ 0) : rdX k C bf row off z = ⟨#[]⟩ := by
 unfold rdX
 unfold rdE at h
 split
 ·rfl
 ·rename_i hmi
  cases hC : C z with
  | none => rfl
  | some x =>
   rw [if_neg hmi, hC] at h
   show txt (x.2.readS _) = _
   unfold Dr.readS
   rw [if_neg h]; rfl
end
end Ro
theorem keeps_below {W W' : World} (h : Below W.heap.size W W') : KeepsOthers W W' := ⟨h.size, fun k _ hk _ => (h.block k (Array.getElem?_eq_some_iff.1 hk).1).trans hk⟩
theorem boxed_below {W W' : World} {B : Nat} {t : TypeId} {v : Value} {n : Nat} (h : Boxed W B t v) (hb : Below n W W') (hB : B < n) : Boxed W' B t v := (hb.block B hB).trans h
def RdJ (w : World) (q c k r : Nat) (da ba : Option Addr) (dcap bcap row off : Nat) (f : Nat → ByteArray) (g : Nat → Nat) (pre : List (Ro.Role c)) (W : World) : Prop :=
 (∀ y ∈ pre, g y.1 ≠ 42) ∧ q + 5 ≤ W.heap.size ∧ (rowV W (q + 1) c (fun j => .string (Ro.hereX f (pre.map (·.1)) j)) ∧ q + 1 < W.heap.size) ∧
  (∃ v, Boxed W (q + 1 + 1 + 1) 28 v ∧ W.ownsRow (q + 5) 3 1 v (Ro.lostP g (pre.map (·.1))).length (iVs (Ro.lostP g (pre.map (·.1)))) ∧ True) ∧
  Boxed W (q + 1 + 1) 40 (.slice (some ⟨q + 1, 0, none⟩) c c) ∧ Box7 W q (.int .i64 (c : Int)) (.int .i64 (k : Int)) (.int .i64 (r : Int)) (.slice da c dcap) (.slice ba c bcap) (.int .i64 (row : Int)) (.int .i64 (off : Int)) ∧
  Boxed W (w.heap.size + 1) 40 (.slice none 0 0) ∧ Boxed W (w.heap.size + 1 + 1) 28 (.slice none 0 0) ∧ Boxed W (w.heap.size + 1 + 1 + 1) 41 (.int .i64 0) ∧ Below w.heap.size w W
theorem rdJ_own {w : World} {q c k r : Nat} {da ba : Option Addr} {dcap bcap row off : Nat} {f : Nat → ByteArray} {g : Nat → Nat} {B : Nat} (hB : w.heap.size ≤ B) : OwnFrom B (RdJ w q c k r da ba dcap bcap row off f g) :=
 OwnFrom.and (fun _ _ _ _ h _ _ => h) (OwnFrom.and (fun _ _ _ _ h hg _ => Nat.le_trans h hg.size) (OwnFrom.and (Own.from (rowV_own (q + 1) c (fun (pre : List (Ro.Role c)) j => Value.string (Ro.hereX f (pre.map (·.1)) j))) _)
  (OwnFrom.and (Own.from (holdsRow_own (q + 5) (q + 1 + 1 + 1) 28 3 1 (fun (pre : List (Ro.Role c)) => (Ro.lostP g (pre.map (·.1))).length) (fun pre => iVs (Ro.lostP g (pre.map (·.1)))) (fun _ _ => True)) _)
   (OwnFrom.and (Own.from (boxed_own _ _ _) _) (OwnFrom.and (Own.from (box7_own _ _ _ _ _ _ _ _) _) (OwnFrom.and (Own.from (boxed_own _ _ _) _) (OwnFrom.and (Own.from (boxed_own _ _ _) _) (OwnFrom.and (Own.from (boxed_own _ _ _) _) (ownFrom_below (Nat.le_refl _) hB)))))))))
def RdX (w : World) (c : Nat) (g : Nat → Nat) (d : Code) (pre : List (Ro.Role c)) (W : World) : Prop :=
 (d = Code.ret ∧ ∃ y ∈ pre, g y.1 = 42) ∧ Boxed W (w.heap.size + 1) 40 (.slice none 0 0) ∧ Boxed W (w.heap.size + 1 + 1) 28 (.slice none 0 0) ∧ Boxed W (w.heap.size + 1 + 1 + 1) 41 (.int .i64 42) ∧ Below w.heap.size w W
theorem rdX_own {w : World} {c : Nat} {g : Nat → Nat} {d : Code} {B : Nat} (hB : w.heap.size ≤ B) : OwnFrom B (RdX w c g d) :=
 OwnFrom.and (fun _ _ _ _ h _ _ => h) (OwnFrom.and (Own.from (boxed_own _ _ _) _) (OwnFrom.and (Own.from (boxed_own _ _ _) _) (OwnFrom.and (Own.from (boxed_own _ _ _) _) (ownFrom_below (Nat.le_refl _) hB))))
section
variable {w W W' : World} {q c k r : Nat} {da ba : Option Addr} {dcap bcap row off : Nat} {f : Nat → ByteArray} {g : Nat → Nat} {pre : List (Ro.Role c)}
theorem RdJ.call (h : RdJ w q c k r da ba dcap bcap row off f g pre W) (hb : Below W.heap.size W W') : RdJ w q c k r da ba dcap bcap row off f g pre W' := by
 obtain ⟨a, s5, ⟨b1, b2⟩, ⟨v, c1, c2, _⟩, d, e, f6, f7, f8, hB⟩ := h
 exact ⟨a, Nat.le_trans s5 hb.size, ⟨b1.below hb b2, Nat.lt_of_lt_of_le b2 hb.size⟩, ⟨v, boxed_below c1 hb c1.lt, ownsRow_below c2 hb, trivial⟩, boxed_below d hb d.lt, e.kept hb, boxed_below f6 hb f6.lt, boxed_below f7 hb f7.lt, boxed_below f8 hb f8.lt, hB.trans (hb.mono hB.size)⟩
theorem RdJ.read (h : RdJ w q c k r da ba dcap bcap row off f g pre W) (hq : w.heap.size + 4 ≤ q) {x : Nat} (hx : x < c) (hg : g x = 0) {X : ByteArray} (hf : f x = X) : RdJ w q c k r da ba dcap bcap row off f g (pre ++ [⟨x, hx⟩]) (W.setCell ⟨q + 1, x, none⟩ (.string X)) := by
  obtain ⟨a, s5, ⟨b1, b2⟩, ⟨v, c1, c2, _⟩, d, e, f6, f7, f8, hB⟩ := h
  have hm : (pre ++ [(⟨x, hx⟩ : Ro.Role c)]).map (·.1) = pre.map (·.1) ++ [x] := by rw [List.map_append]; rfl
  have hsame : ∀ B, B ≠ q + 1 → B < W.heap.size → (W.setCell ⟨q + 1, x, none⟩ (.string X)).heap[B]? = W.heap[B]? := fun B hne hl => (grownBy_setCellAt W (q + 1) x (.string X)).block B hl (fun e => hne (by injection e))
  refine ⟨fun y hy => ?_, Nat.le_trans s5 (grownBy_setCellAt W (q + 1) x (.string X)).size, ⟨?_, Nat.lt_of_lt_of_le b2 (grownBy_setCellAt W (q + 1) x (.string X)).size⟩, ⟨v, ?_, ?_, trivial⟩, ?_, box7_of_block e (hsame q (by omega) e.lt), boxed_setOther f6 _ _ _ (by omega), boxed_setOther f7 _ _ _ (by omega), boxed_setOther f8 _ _ _ (by omega), hB.setCell (p := ⟨q + 1, x, none⟩) (by show _ ≤ q + 1; omega) _⟩
  · rcases List.mem_append.1 hy with hy | hy
    · exact a y hy
    · rw [List.mem_singleton.1 hy]; show g x ≠ 42; omega
  · rw [hm]
    refine (b1.set x (.string X)).mono fun j _ => ?_
    rw [Ro.hereX_snoc, hf]
    split <;> rfl
  · exact boxed_setOther c1 _ _ _ (by omega)
  · rw [hm, Ro.lostP_no hg]
    refine c2.kept (grownBy_setCellAt W (q + 1) x (.string X)) ?_
    rcases c2.2 with ⟨rfl, _⟩ | ⟨g', cap, cur, rfl, hge, _⟩
    · exact .inl rfl
    · exact .inr (fun e => by
        have : g' = q + 1 := by simpa [Value.ownBlock] using e
        omega)
  · exact boxed_setOther d _ _ _ (by omega)
theorem RdJ.lost (h : RdJ w q c k r da ba dcap bcap row off f g pre W) (hq : w.heap.size + 4 ≤ q) {x : Nat} (hx : x < c) (hg : g x ≠ 0) (hg2 : g x ≠ 42) (hf : f x = ⟨#[]⟩) {v v' : Value} {nl : Nat} {w1 : World} (hn : nl = (Ro.lostP g (pre.map (·.1))).length)
  (hv : Boxed W (q + 1 + 1 + 1) 28 v) (hown : W.ownsRow (q + 5) 3 1 v nl (iVs (Ro.lostP g (pre.map (·.1))))) (hown' : w1.ownsRow (q + 5) 3 1 v' (nl + 1) (iVs (Ro.lostP g (pre.map (·.1))) ++ [.int .i64 (x : Int)])) (hgrow : (W.alloc (.cells #[.int .i64 (x : Int)] 3)).grownBy w1 v.ownBlock) :
  RdJ w q c k r da ba dcap bcap row off f g (pre ++ [⟨x, hx⟩]) (w1.setCell ⟨q + 1 + 1 + 1, 0, none⟩ v') ∧ KeepsOthers W (w1.setCell ⟨q + 1 + 1 + 1, 0, none⟩ v') ∧ Ro.Same1 (q + 1 + 1 + 1 + 1) W (w1.setCell ⟨q + 1 + 1 + 1, 0, none⟩ v') := by
 obtain ⟨a, s5, ⟨b1, b2⟩, _, d, e, f6, f7, f8, hB⟩ := h
 have hm : (pre ++ [(⟨x, hx⟩ : Ro.Role c)]).map (·.1) = pre.map (·.1) ++ [x] := by rw [List.map_append]; rfl
 have hba : Below (q + 5) W w1 := below_append hown s5 hgrow
 have hsame : ∀ B, B ≠ q + 1 + 1 + 1 → B < q + 5 → (w1.setCell ⟨q + 1 + 1 + 1, 0, none⟩ v').heap[B]? = W.heap[B]? := fun B hne hl => ((grownBy_setCell' w1 (q + 1 + 1 + 1) v').block B (by have := hba.size; omega) (fun e => hne (by injection e))).trans (hba.block B hl)
 obtain ⟨p1, p2, _, p4, _⟩ := hv.appended (by decide) (row_low16 hown (B' := w.heap.size) (by omega)) (by omega) (by omega) (row_low16 hown' (B' := w.heap.size) (by omega)) hgrow
 refine ⟨⟨fun y hy => ?_, Nat.le_trans s5 p4.size, ⟨?_, Nat.lt_of_lt_of_le b2 p4.size⟩, ⟨v', p2, ?_, trivial⟩, (hsame _ (by omega) (by omega)).trans d, box7_of_block e (hsame q (by omega) (by omega)), (hsame _ (by omega) (by omega)).trans f6, (hsame _ (by omega) (by omega)).trans f7, (hsame _ (by omega) (by omega)).trans f8, ?_⟩, p4, hsame _ (by omega) (by omega)⟩
 ·rcases List.mem_append.1 hy with hy | hy
  ·exact a y hy
  ·rw [List.mem_singleton.1 hy]; exact hg2
 ·rw [hm]
  have h1 := (b1.below hba (by omega)).below (B := q + 1 + 1) ((Below.refl _ w1).setCell (p := ⟨q + 1 + 1 + 1, 0, none⟩) (Nat.le_succ _) v') (by omega)
  exact h1.mono fun j _ => by rw [Ro.hereX_same hf]
 ·rw [hm, Ro.lostP_yes hg, List.length_append, iVs_snoc, ← hn]
  exact hown'.kept (grownBy_setCell' w1 (q + 1 + 1 + 1) v') (.inr (p1.not_row (by decide) hown').symm)
 ·exact (hB.trans (hba.mono (by omega))).setCell (p := ⟨q + 1 + 1 + 1, 0, none⟩) (by show _ ≤ q + 1 + 1 + 1; omega) v'
end
end Go.Proofs.YtdgkhjgnjfgnlaaGreat
namespace Go.Proofs.YtdgkhjgnjfgnlaaGreat
open Go.RowKit Go.Maps Go.Shelf
attribute [local go_sem] Oper.semAt_some
theorem boxed3_set {W : World} {B1 B2 B3 n : Nat} {t1 t2 t3 : TypeId} {v1 v2 v3 : Value} (h1 : Boxed W B1 t1 v1) (h2 : Boxed W B2 t2 v2) (h3 : Boxed W B3 t3 v3) (n12 : B1 ≠ B2) (n13 : B1 ≠ B3) (n23 : B2 ≠ B3) (l1 : n ≤ B1) (l2 : n ≤ B2) (l3 : n ≤ B3) (u1 u2 u3 : Value) :
  Boxed (((W.setCell ⟨B1, 0, none⟩ u1).setCell ⟨B2, 0, none⟩ u2).setCell ⟨B3, 0, none⟩ u3) B1 t1 u1 ∧ Boxed (((W.setCell ⟨B1, 0, none⟩ u1).setCell ⟨B2, 0, none⟩ u2).setCell ⟨B3, 0, none⟩ u3) B2 t2 u2 ∧ Boxed (((W.setCell ⟨B1, 0, none⟩ u1).setCell ⟨B2, 0, none⟩ u2).setCell ⟨B3, 0, none⟩ u3) B3 t3 u3 ∧
   Below n W (((W.setCell ⟨B1, 0, none⟩ u1).setCell ⟨B2, 0, none⟩ u2).setCell ⟨B3, 0, none⟩ u3) ∧ KeepsOthers W (((W.setCell ⟨B1, 0, none⟩ u1).setCell ⟨B2, 0, none⟩ u2).setCell ⟨B3, 0, none⟩ u3) :=
 ⟨((h1.set u1).other n12 u2).other n13 u3, ((h2.other (Ne.symm n12) u1).set u2).other n23 u3, ((h3.other (Ne.symm n13) u1).other (Ne.symm n23) u2).set u3,
  (((Below.refl n W).setCell (p := ⟨B1, 0, none⟩) l1 u1).setCell (p := ⟨B2, 0, none⟩) l2 u2).setCell (p := ⟨B3, 0, none⟩) l3 u3,
  ((KeepsOthers.setCell W ⟨B1, 0, none⟩ u1).trans (KeepsOthers.setCell _ ⟨B2, 0, none⟩ u2)).trans (KeepsOthers.setCell _ ⟨B3, 0, none⟩ u3)⟩
theorem results3_16 (tmps : Array Value) (w : World) (b1 b2 b3 : Nat) (v1 v2 v3 : Value) (p1 : tmps.getD 6 undef = .pointer (some ⟨b1, 0, none⟩)) (p2 : tmps.getD 7 undef = .pointer (some ⟨b2, 0, none⟩)) (p3 : tmps.getD 8 undef = .pointer (some ⟨b3, 0, none⟩))
  (h1 : w.cell? ⟨b1, 0, none⟩ = some v1) (h2 : w.cell? ⟨b2, 0, none⟩ = some v2) (h3 : w.cell? ⟨b3, 0, none⟩ = some v3) : (results Tryz.f12 tmps).run Tryz.prog w = .ok (.tuple #[v1, v2, v3]) w := by
 have q1 : tmps[6]?.getD undef = .pointer (some ⟨b1, 0, none⟩) := by simpa using p1
 have q2 : tmps[7]?.getD undef = .pointer (some ⟨b2, 0, none⟩) := by simpa using p2
 have q3 : tmps[8]?.getD undef = .pointer (some ⟨b3, 0, none⟩) := by simpa using p3
 simp [results, Tryz.f12, q1, q2, q3, go_sem, h1, h2, h3]
section
variable {c k r : Nat} {da ba : Option Addr} {dn dcap bn bcap : Nat} {C : Nat → Ro.Col} {bf : Nat → Int}
set_option maxRecDepth 100000 in
set_option maxHeartbeats 4000000 in
theorem read16_no (hok : Lay.ok (c : Int) (k : Int) (r : Int)) (hdn : dn ≤ 1000000) (row off : Int) (w : World) (h : PrSet w da dn ba bn C bf) (hno : Ro.chk c k r dn bn C row off ≠ 0) :
  Calls Tryz.prog 12 #[.agg #[.int .i64 (c : Int), .int .i64 (k : Int), .int .i64 (r : Int), .slice da dn dcap, .slice ba bn bcap], .int .i64 row, .int .i64 off] w fun e w' => e = .returned (.tuple #[.slice none 0 0, .slice none 0 0, .int .i64 (Ro.chk c k r dn bn C row off : Nat)]) ∧ Below w.heap.size w w' := by
 have al : ∀ (W : World) (o : Obj), Below W.heap.size W (W.alloc o) := fun W o => (Below.refl _ _).alloc (Nat.le_refl _) _
 have X0 : Hid (At5 w w.heap.size c k r (.slice da dn dcap) (.slice ba bn bcap) ((((w.alloc (.cells #[.int .i64 (c : Int), .int .i64 (k : Int), .int .i64 (r : Int), .slice da dn dcap, .slice ba bn bcap] 30)).alloc (.cells #[.slice none 0 0] 40)).alloc (.cells #[.slice none 0 0] 28)).alloc (.cells #[.int .i64 0] 41))) := ((At5.new w c k r _ _ 30).kept (al _ _)).kept (al _ _) |>.kept (al _ _)
 have hp := placeOf16_no (dcap := dcap) (bcap := bcap) hok hdn row off _ (h.below X0.out.2.2.2.2.2) hno
 obtain ⟨E, hE⟩ : ∃ E, Ro.chk c k r dn bn C row off = E := ⟨_, rfl⟩
 rw [hE] at hp hno ⊢
 have hne : ((E : Int) != 0) = true := by rw [bne_iff_ne]; omega
 have b6 := (((Boxed.new (w.alloc (.cells #[.int .i64 (c : Int), .int .i64 (k : Int), .int .i64 (r : Int), .slice da dn dcap, .slice ba bn bcap] 30)) 40 (.slice none 0 0)).alloc (.cells #[.slice none 0 0] 28)).alloc (.cells #[.int .i64 0] 41))
 have b7 := (Boxed.new ((w.alloc (.cells #[.int .i64 (c : Int), .int .i64 (k : Int), .int .i64 (r : Int), .slice da dn dcap, .slice ba bn bcap] 30)).alloc (.cells #[.slice none 0 0] 40)) 28 (.slice none 0 0)).alloc (.cells #[.int .i64 0] 41)
 have b8 := Boxed.new (((w.alloc (.cells #[.int .i64 (c : Int), .int .i64 (k : Int), .int .i64 (r : Int), .slice da dn dcap, .slice ba bn bcap] 30)).alloc (.cells #[.slice none 0 0] 40)).alloc (.cells #[.slice none 0 0] 28)) 41 (.int .i64 0)
 simp only [World.size_alloc] at b6 b7 b8
 have HP : Hid (Calls Tryz.prog 39 #[.agg #[.int .i64 (c : Int), .int .i64 (k : Int), .int .i64 (r : Int), .slice da dn dcap, .slice ba bn bcap], .int .i64 row, .int .i64 off] ((((w.alloc (.cells #[.int .i64 (c : Int), .int .i64 (k : Int), .int .i64 (r : Int), .slice da dn dcap, .slice ba bn bcap] 30)).alloc (.cells #[.slice none 0 0] 40)).alloc (.cells #[.slice none 0 0] 28)).alloc (.cells #[.int .i64 0] 41)) fun e w' => e = .returned (.tuple #[.agg #[.int .i64 0, .int .i64 0, .int .i64 0, .slice none 0 0, .slice none 0 0, .int .i64 0, .int .i64 0], .int .i64 (E : Nat)]) ∧ Below ((((w.alloc (.cells #[.int .i64 (c : Int), .int .i64 (k : Int), .int .i64 (r : Int), .slice da dn dcap, .slice ba bn bcap] 30)).alloc (.cells #[.slice none 0 0] 40)).alloc (.cells #[.slice none 0 0] 28)).alloc (.cells #[.int .i64 0] 41)).heap.size ((((w.alloc (.cells #[.int .i64 (c : Int), .int .i64 (k : Int), .int .i64 (r : Int), .slice da dn dcap, .slice ba bn bcap] 30)).alloc (.cells #[.slice none 0 0] 40)).alloc (.cells #[.slice none 0 0] 28)).alloc (.cells #[.int .i64 0] 41)) w') := hp
 have HB6 : Hid (Boxed ((((w.alloc (.cells #[.int .i64 (c : Int), .int .i64 (k : Int), .int .i64 (r : Int), .slice da dn dcap, .slice ba bn bcap] 30)).alloc (.cells #[.slice none 0 0] 40)).alloc (.cells #[.slice none 0 0] 28)).alloc (.cells #[.int .i64 0] 41)) (w.heap.size + 1) 40 (.slice none 0 0)) := b6
 have HB7 : Hid (Boxed ((((w.alloc (.cells #[.int .i64 (c : Int), .int .i64 (k : Int), .int .i64 (r : Int), .slice da dn dcap, .slice ba bn bcap] 30)).alloc (.cells #[.slice none 0 0] 40)).alloc (.cells #[.slice none 0 0] 28)).alloc (.cells #[.int .i64 0] 41)) (w.heap.size + 1 + 1) 28 (.slice none 0 0)) := b7
 have HB8 : Hid (Boxed ((((w.alloc (.cells #[.int .i64 (c : Int), .int .i64 (k : Int), .int .i64 (r : Int), .slice da dn dcap, .slice ba bn bcap] 30)).alloc (.cells #[.slice none 0 0] 40)).alloc (.cells #[.slice none 0 0] 28)).alloc (.cells #[.int .i64 0] 41)) (w.heap.size + 1 + 1 + 1) 41 (.int .i64 0)) := b8
 have hlast : w.heap.size < ((((w.alloc (.cells #[.int .i64 (c : Int), .int .i64 (k : Int), .int .i64 (r : Int), .slice da dn dcap, .slice ba bn bcap] 30)).alloc (.cells #[.slice none 0 0] 40)).alloc (.cells #[.slice none 0 0] 28)).alloc (.cells #[.int .i64 0] 41)).heap.size := World.block_lt_of_cell? _ _ X0.out.1
 obtain ⟨k0, k1, k2, k3, k4, _⟩ := X0.out
 clear hp hE h hok hno b6 b7 b8
 go_enter Tryz.func12, Tryz.ntmps12
 go_wp2_with fail
 refine HP.out.mono ?_
 rintro e w1 ⟨rfl, hb1⟩
 have B1 : Hid (Below w.heap.size w w1) := (X0.out.kept hb1).2.2.2.2.2
 have b6 : Boxed w1 (w.heap.size + 1) 40 (.slice none 0 0) := (hb1.block _ HB6.out.lt).trans HB6.out
 have b7 : Boxed w1 (w.heap.size + 1 + 1) 28 (.slice none 0 0) := (hb1.block _ HB7.out.lt).trans HB7.out
 have b8 : Boxed w1 (w.heap.size + 1 + 1 + 1) 41 (.int .i64 0) := (hb1.block _ HB8.out.lt).trans HB8.out
 have K6 : Hid (Boxed w1 (w.heap.size + 1) 40 (.slice none 0 0)) := b6
 have K7 : Hid (Boxed w1 (w.heap.size + 1 + 1) 28 (.slice none 0 0)) := b7
 have K8 : Hid (Boxed w1 (w.heap.size + 1 + 1 + 1) 41 (.int .i64 0)) := b8
 have c6 := b6.cell
 have c7 := b7.cell
 have c8 := b8.cell
 have f6 := b6.frozen
 have f7 := b7.frozen
 have f8 := b8.frozen
 have l6 := b6.lt
 have l7 := b7.lt
 have l8 := b8.lt
 clear hb1 k0 k1 k2 k3 k4 hlast b6 b7 b8
 go_wp2_with fail
 obtain ⟨r6, r7, r8, rb, _⟩ := boxed3_set (n := w.heap.size) K6.out K7.out K8.out (by omega) (by omega) (by omega) (by omega) (by omega) (by omega) (.slice none 0 0) (.slice none 0 0) (.int .i64 (E : Int))
 exact bodyPost_ret (results3_16 _ _ _ _ _ _ _ _ rfl rfl rfl (r6.alloc _).cell (r7.alloc _).cell (r8.alloc _).cell) rfl ⟨rfl, (B1.out.trans rb).alloc (Nat.le_trans B1.out.size rb.size) _⟩
set_option maxRecDepth 100000 in
set_option maxHeartbeats 16000000 in
theorem read16_yes (hok : Lay.ok (c : Int) (k : Int) (r : Int)) (row off : Nat) (w : World) (h : PrSet w da c ba c C bf) (hyes : Ro.chk c k r c c C (row : Int) (off : Int) = 0) :
    Calls Tryz.prog 12 #[.agg #[.int .i64 (c : Int), .int .i64 (k : Int), .int .i64 (r : Int), .slice da c dcap, .slice ba c bcap], .int .i64 (row : Int), .int .i64 (off : Int)] w
      (RdSays w (Ro.readE c k r c c C bf (row : Int) (off : Int)) (Ro.readN c k r c c C bf (row : Int) (off : Int)) (Ro.oneX c k C bf (row : Int) (off : Int)) (Ro.readL c k r c c C bf (row : Int) (off : Int))) := by
  have hin := (Ro.chk_yes hyes).2.2.1
  have hr : row < r := by omega
  have ho : off < k := by omega
  have hc10 : c ≤ 10 := by have := hok.1; omega
  have hc4 : 4 ≤ c := by have := hok.1; omega
  have al : ∀ (W : World) (o : Obj), Below W.heap.size W (W.alloc o) := fun W o => (Below.refl _ _).alloc (Nat.le_refl _) _
  have X0 : Hid (At5 w w.heap.size c k r (.slice da c dcap) (.slice ba c bcap) ((((w.alloc (.cells #[.int .i64 (c : Int), .int .i64 (k : Int), .int .i64 (r : Int), .slice da c dcap, .slice ba c bcap] 30)).alloc (.cells #[.slice none 0 0] 40)).alloc (.cells #[.slice none 0 0] 28)).alloc (.cells #[.int .i64 0] 41))) := ((At5.new w c k r _ _ 30).kept (al _ _)).kept (al _ _) |>.kept (al _ _)
  have hp := placeOf16_yes (dcap := dcap) (bcap := bcap) hok (by omega) (row : Int) (off : Int) _ (h.below X0.out.2.2.2.2.2) hyes
  have b6 := (((Boxed.new (w.alloc (.cells #[.int .i64 (c : Int), .int .i64 (k : Int), .int .i64 (r : Int), .slice da c dcap, .slice ba c bcap] 30)) 40 (.slice none 0 0)).alloc (.cells #[.slice none 0 0] 28)).alloc (.cells #[.int .i64 0] 41))
  have b7 := (Boxed.new ((w.alloc (.cells #[.int .i64 (c : Int), .int .i64 (k : Int), .int .i64 (r : Int), .slice da c dcap, .slice ba c bcap] 30)).alloc (.cells #[.slice none 0 0] 40)) 28 (.slice none 0 0)).alloc (.cells #[.int .i64 0] 41)
  have b8 := Boxed.new (((w.alloc (.cells #[.int .i64 (c : Int), .int .i64 (k : Int), .int .i64 (r : Int), .slice da c dcap, .slice ba c bcap] 30)).alloc (.cells #[.slice none 0 0] 40)).alloc (.cells #[.slice none 0 0] 28)) 41 (.int .i64 0)
  simp only [World.size_alloc] at b6 b7 b8
  have HP : Hid (Calls Tryz.prog 39 #[.agg #[.int .i64 (c : Int), .int .i64 (k : Int), .int .i64 (r : Int), .slice da c dcap, .slice ba c bcap], .int .i64 (row : Int), .int .i64 (off : Int)] ((((w.alloc (.cells #[.int .i64 (c : Int), .int .i64 (k : Int), .int .i64 (r : Int), .slice da c dcap, .slice ba c bcap] 30)).alloc (.cells #[.slice none 0 0] 40)).alloc (.cells #[.slice none 0 0] 28)).alloc (.cells #[.int .i64 0] 41)) fun e w' => e = .returned (.tuple #[.agg #[.int .i64 (c : Int), .int .i64 (k : Int), .int .i64 (r : Int), .slice da c dcap, .slice ba c bcap, .int .i64 (row : Int), .int .i64 (off : Int)], .int .i64 0]) ∧ Below ((((w.alloc (.cells #[.int .i64 (c : Int), .int .i64 (k : Int), .int .i64 (r : Int), .slice da c dcap, .slice ba c bcap] 30)).alloc (.cells #[.slice none 0 0] 40)).alloc (.cells #[.slice none 0 0] 28)).alloc (.cells #[.int .i64 0] 41)).heap.size ((((w.alloc (.cells #[.int .i64 (c : Int), .int .i64 (k : Int), .int .i64 (r : Int), .slice da c dcap, .slice ba c bcap] 30)).alloc (.cells #[.slice none 0 0] 40)).alloc (.cells #[.slice none 0 0] 28)).alloc (.cells #[.int .i64 0] 41)) w') := hp
  have HB6 : Hid (Boxed ((((w.alloc (.cells #[.int .i64 (c : Int), .int .i64 (k : Int), .int .i64 (r : Int), .slice da c dcap, .slice ba c bcap] 30)).alloc (.cells #[.slice none 0 0] 40)).alloc (.cells #[.slice none 0 0] 28)).alloc (.cells #[.int .i64 0] 41)) (w.heap.size + 1) 40 (.slice none 0 0)) := b6
  have HB7 : Hid (Boxed ((((w.alloc (.cells #[.int .i64 (c : Int), .int .i64 (k : Int), .int .i64 (r : Int), .slice da c dcap, .slice ba c bcap] 30)).alloc (.cells #[.slice none 0 0] 40)).alloc (.cells #[.slice none 0 0] 28)).alloc (.cells #[.int .i64 0] 41)) (w.heap.size + 1 + 1) 28 (.slice none 0 0)) := b7
  have HB8 : Hid (Boxed ((((w.alloc (.cells #[.int .i64 (c : Int), .int .i64 (k : Int), .int .i64 (r : Int), .slice da c dcap, .slice ba c bcap] 30)).alloc (.cells #[.slice none 0 0] 40)).alloc (.cells #[.slice none 0 0] 28)).alloc (.cells #[.int .i64 0] 41)) (w.heap.size + 1 + 1 + 1) 41 (.int .i64 0)) := b8
  have hlast : w.heap.size < ((((w.alloc (.cells #[.int .i64 (c : Int), .int .i64 (k : Int), .int .i64 (r : Int), .slice da c dcap, .slice ba c bcap] 30)).alloc (.cells #[.slice none 0 0] 40)).alloc (.cells #[.slice none 0 0] 28)).alloc (.cells #[.int .i64 0] 41)).heap.size := World.block_lt_of_cell? _ _ X0.out.1
  obtain ⟨k0, k1, k2, k3, k4, _⟩ := X0.out
  have hmk := run_make_row' (P := Tryz.prog) 40 9 (.string ByteArray.empty) 16 Tryz.underlying40 (by kernel_rfl) rfl .i64 .i64 c (by omega) (by omega)
  have H : Hid (PrSet w da c ba c C bf) := h
  have hm := (Ro.chk_yes hyes).2.2.2
  obtain ⟨f, hf⟩ : ∃ f, Ro.oneX c k C bf (row : Int) (off : Int) = f := ⟨_, rfl⟩
  obtain ⟨g, hg⟩ : ∃ g, Ro.oneE c k C bf (row : Int) (off : Int) = g := ⟨_, rfl⟩
  have HF : Hid (Ro.oneX c k C bf (row : Int) (off : Int) = f) := hf
  have HG : Hid (Ro.oneE c k C bf (row : Int) (off : Int) = g) := hg
  have HE : Hid (∀ b, Ro.offT c k C bf (row : Int) (off : Int) c = b → Ro.readE c k r c c C bf (row : Int) (off : Int) = if b then 42 else 0) := fun b hb => by unfold Ro.readE; rw [if_pos hyes, hb]
  rw [hf]
  obtain ⟨i0, q1, q2, q3, q4⟩ := info_parts (show (Tryz.prog.info? 3).map (fun i => (i.zero, i.size, i.bytes)) = some (some (.int .i64 0), 1, 8) by kernel_rfl)
  clear hp h b6 b7 b8 hf hg
  refine (callsIn_wide (n := 3)).1 ?_
  refine callsIn_of_wp_marks Tryz.func12 rfl trivial ?_ rfl
  simp only [Tryz.ntmps12, List.size_toArray, List.length_cons, List.length_nil, Nat.reduceAdd, Nat.reduceSub, Array.replicate_succ, Array.replicate_zero, List.push_toArray, List.append_toArray, List.nil_append, List.cons_append]
  gi_wp2_with fail
  refine ⟨trivial, (callsIn_wide.2 HP.out).mono ?_⟩
  rintro e w1 ⟨rfl, hb1⟩
  have A1 : Hid (At5 w w.heap.size c k r (.slice da c dcap) (.slice ba c bcap) w1) := X0.out.kept hb1
  have hl1 : w.heap.size < w1.heap.size := World.block_lt_of_cell? _ _ A1.out.1
  obtain ⟨m0, m1, m2, m3, m4, _⟩ := A1.out
  have K6 : Hid (Boxed w1 (w.heap.size + 1) 40 (.slice none 0 0)) := (hb1.block _ HB6.out.lt).trans HB6.out
  have K7 : Hid (Boxed w1 (w.heap.size + 1 + 1) 28 (.slice none 0 0)) := (hb1.block _ HB7.out.lt).trans HB7.out
  have K8 : Hid (Boxed w1 (w.heap.size + 1 + 1 + 1) 41 (.int .i64 0)) := (hb1.block _ HB8.out.lt).trans HB8.out
  have l8 := K8.out.lt
  clear hb1 k0 k1 k2 k3 k4 hlast
  gi_wp2_with fail
  refine ⟨trivial, (callsIn_wide.2 (roles16_any row off _)).mono ?_⟩
  rintro e w2 ⟨rfl, rfl⟩
  gi_wp2_with fail
  have hq : w.heap.size + 4 ≤ w1.heap.size := by omega
  have HQ : Hid (w.heap.size + 4 ≤ w1.heap.size) := hq
  have hrow0 : rowV ((w1.alloc (.cells #[.int .i64 (c : Int), .int .i64 (k : Int), .int .i64 (r : Int), .slice da c dcap, .slice ba c bcap, .int .i64 (row : Int), .int .i64 (off : Int)] 77)).alloc (.cells (madeCells #[.string ByteArray.empty] c) 9)) (w1.heap.size + 1) c (fun j => .string (Ro.hereX f [] j)) := by
    have h := rowV_new (w1.alloc (.cells #[.int .i64 (c : Int), .int .i64 (k : Int), .int .i64 (r : Int), .slice da c dcap, .slice ba c bcap, .int .i64 (row : Int), .int .i64 (off : Int)] 77)) (madeCells #[.string ByteArray.empty] c) 9 (fun j => .string (Ro.hereX f [] j)) (fun j hj => by
      have hj' : j < c := by simpa [size_madeCells] using hj
      simp [madeCells, hj', Nat.mod_one, Ro.hereX]; rfl)
    rw [World.size_alloc, size_madeCells] at h
    simpa using h
  have g1 := al w1 (.cells #[.int .i64 (c : Int), .int .i64 (k : Int), .int .i64 (r : Int), .slice da c dcap, .slice ba c bcap, .int .i64 (row : Int), .int .i64 (off : Int)] 77)
  have hsz5 : ((((((w1.alloc (.cells #[.int .i64 (c : Int), .int .i64 (k : Int), .int .i64 (r : Int), .slice da c dcap, .slice ba c bcap, .int .i64 (row : Int), .int .i64 (off : Int)] 77)).alloc (.cells (madeCells #[.string ByteArray.empty] c) 9)).alloc (.cells #[.slice (some ⟨w1.heap.size + 1, 0, none⟩) c c] 40)).alloc (.cells #[.slice none 0 0] 28)).alloc (.cells #[.int .i64 (c : Int), .int .i64 (k : Int), .int .i64 (r : Int), .slice da c dcap, .slice ba c bcap, .int .i64 (row : Int), .int .i64 (off : Int)] 77))).heap.size = w1.heap.size + 5 := by simp
  have hJ0 : RdJ w w1.heap.size c k r da ba dcap bcap row off f g [] ((((((w1.alloc (.cells #[.int .i64 (c : Int), .int .i64 (k : Int), .int .i64 (r : Int), .slice da c dcap, .slice ba c bcap, .int .i64 (row : Int), .int .i64 (off : Int)] 77)).alloc (.cells (madeCells #[.string ByteArray.empty] c) 9)).alloc (.cells #[.slice (some ⟨w1.heap.size + 1, 0, none⟩) c c] 40)).alloc (.cells #[.slice none 0 0] 28)).alloc (.cells #[.int .i64 (c : Int), .int .i64 (k : Int), .int .i64 (r : Int), .slice da c dcap, .slice ba c bcap, .int .i64 (row : Int), .int .i64 (off : Int)] 77))) := by
    have e2 : Below w1.heap.size w1 ((((((w1.alloc (.cells #[.int .i64 (c : Int), .int .i64 (k : Int), .int .i64 (r : Int), .slice da c dcap, .slice ba c bcap, .int .i64 (row : Int), .int .i64 (off : Int)] 77)).alloc (.cells (madeCells #[.string ByteArray.empty] c) 9)).alloc (.cells #[.slice (some ⟨w1.heap.size + 1, 0, none⟩) c c] 40)).alloc (.cells #[.slice none 0 0] 28)).alloc (.cells #[.int .i64 (c : Int), .int .i64 (k : Int), .int .i64 (r : Int), .slice da c dcap, .slice ba c bcap, .int .i64 (row : Int), .int .i64 (off : Int)] 77))) := ((((g1.alloc (by simp) _).alloc (by simp; omega) _).alloc (by simp; omega) _).alloc (by simp; omega) _)
    refine ⟨fun y hy => (by cases hy), (by rw [hsz5]; exact Nat.le_refl _), ⟨?_, (by simp)⟩, ⟨_, ?_, World.ownsRow_nil _ _ _ _, trivial⟩, ?_, ?_, boxed_below K6.out e2 K6.out.lt, boxed_below K7.out e2 K7.out.lt, boxed_below K8.out e2 K8.out.lt, A1.out.2.2.2.2.2.trans (e2.mono A1.out.2.2.2.2.2.size)⟩
    · exact hrow0.below ((((Below.refl _ _).alloc (Nat.le_refl _) _).alloc (by simp) _).alloc (by simp) _) (by simp)
    · have h := (Boxed.new (((w1.alloc (.cells #[.int .i64 (c : Int), .int .i64 (k : Int), .int .i64 (r : Int), .slice da c dcap, .slice ba c bcap, .int .i64 (row : Int), .int .i64 (off : Int)] 77)).alloc (.cells (madeCells #[.string ByteArray.empty] c) 9)).alloc (.cells #[.slice (some ⟨w1.heap.size + 1, 0, none⟩) c c] 40)) 28 (.slice none 0 0)).alloc (.cells #[.int .i64 (c : Int), .int .i64 (k : Int), .int .i64 (r : Int), .slice da c dcap, .slice ba c bcap, .int .i64 (row : Int), .int .i64 (off : Int)] 77)
      simp only [World.size_alloc] at h; exact h
    · have h := ((Boxed.new ((w1.alloc (.cells #[.int .i64 (c : Int), .int .i64 (k : Int), .int .i64 (r : Int), .slice da c dcap, .slice ba c bcap, .int .i64 (row : Int), .int .i64 (off : Int)] 77)).alloc (.cells (madeCells #[.string ByteArray.empty] c) 9)) 40 (.slice (some ⟨w1.heap.size + 1, 0, none⟩) c c)).alloc (.cells #[.slice none 0 0] 28)).alloc (.cells #[.int .i64 (c : Int), .int .i64 (k : Int), .int .i64 (r : Int), .slice da c dcap, .slice ba c bcap, .int .i64 (row : Int), .int .i64 (off : Int)] 77)
      simp only [World.size_alloc] at h; exact h
    · have h0 := Box7.new w1 77 (.int .i64 (c : Int)) (.int .i64 (k : Int)) (.int .i64 (r : Int)) (.slice da c dcap) (.slice ba c bcap) (.int .i64 (row : Int)) (.int .i64 (off : Int))
      exact h0.kept (((((Below.refl _ _).alloc (Nat.le_refl _) _).alloc (by simp) _).alloc (by simp) _).alloc (by simp) _)
  have hBs : Box7 ((((((w1.alloc (.cells #[.int .i64 (c : Int), .int .i64 (k : Int), .int .i64 (r : Int), .slice da c dcap, .slice ba c bcap, .int .i64 (row : Int), .int .i64 (off : Int)] 77)).alloc (.cells (madeCells #[.string ByteArray.empty] c) 9)).alloc (.cells #[.slice (some ⟨w1.heap.size + 1, 0, none⟩) c c] 40)).alloc (.cells #[.slice none 0 0] 28)).alloc (.cells #[.int .i64 (c : Int), .int .i64 (k : Int), .int .i64 (r : Int), .slice da c dcap, .slice ba c bcap, .int .i64 (row : Int), .int .i64 (off : Int)] 77))) (w1.heap.size + 1 + 1 + 1 + 1) (.int .i64 (c : Int)) (.int .i64 (k : Int)) (.int .i64 (r : Int)) (.slice da c dcap) (.slice ba c bcap) (.int .i64 (row : Int)) (.int .i64 (off : Int)) := by
    have h := Box7.new ((((w1.alloc (.cells #[.int .i64 (c : Int), .int .i64 (k : Int), .int .i64 (r : Int), .slice da c dcap, .slice ba c bcap, .int .i64 (row : Int), .int .i64 (off : Int)] 77)).alloc (.cells (madeCells #[.string ByteArray.empty] c) 9)).alloc (.cells #[.slice (some ⟨w1.heap.size + 1, 0, none⟩) c c] 40)).alloc (.cells #[.slice none 0 0] 28)) 77 (.int .i64 (c : Int)) (.int .i64 (k : Int)) (.int .i64 (r : Int)) (.slice da c dcap) (.slice ba c bcap) (.int .i64 (row : Int)) (.int .i64 (off : Int))
    simp only [World.size_alloc] at h
    exact h
  refine wpIn_rangeFunc_ownG rfl (by decide) (gf := 75) (lb := #[.pointer (some ⟨w1.heap.size + 1 + 1 + 1 + 1, 0, none⟩)]) rfl trivial (enters_of Tryz.func75 (by kernel_rfl) rfl)
    (roles_stops (3 - 1) (by decide) (w1.heap.size + 1 + 1 + 1 + 1) hok row off hr _ hBs) (fun h k => Ro.Same1.trans h k) (Ro.Same1.put hBs.lt) (Below.refl _ _) (fun _ => rfl)
    (RdJ w w1.heap.size c k r da ba dcap bcap row off f g) (RdX w c g) (rdJ_own (by rw [hsz5]; omega)) (fun d => rdX_own (by rw [hsz5]; omega)) hJ0
    (fun x => { tmps := #[.agg #[.int .i64 (c : Int), .int .i64 (k : Int), .int .i64 (r : Int), .slice da c dcap, .slice ba c bcap], .int .i64 (row : Int), .int .i64 (off : Int), .pointer (some ⟨w.heap.size, 0, none⟩), undef, undef, .pointer (some ⟨w.heap.size + 1, 0, none⟩), .pointer (some ⟨w.heap.size + 1 + 1, 0, none⟩), .pointer (some ⟨w.heap.size + 1 + 1 + 1, 0, none⟩),
          .pointer (some ⟨w1.heap.size, 0, none⟩), .int .i64 0, .pointer (some ⟨w1.heap.size + 1 + 1, 0, none⟩), .pointer (some ⟨w1.heap.size + 1 + 1 + 1, 0, none⟩), .int .i64 (x.1 : Int), .int .i64 ((Ro.colN c row x.1 : Nat) : Int), undef, undef,
          .tuple #[.agg #[.int .i64 (c : Int), .int .i64 (k : Int), .int .i64 (r : Int), .slice da c dcap, .slice ba c bcap, .int .i64 (row : Int), .int .i64 (off : Int)], .int .i64 0], .agg #[.int .i64 (c : Int), .int .i64 (k : Int), .int .i64 (r : Int), .slice da c dcap, .slice ba c bcap], .int .i64 (row : Int), .int .i64 (off : Int), .tuple #[.agg #[.int .i64 (c : Int), .int .i64 (k : Int), .int .i64 (r : Int), .slice da c dcap, .slice ba c bcap, .int .i64 (row : Int), .int .i64 (off : Int)], .int .i64 0], .agg #[.int .i64 (c : Int), .int .i64 (k : Int), .int .i64 (r : Int), .slice da c dcap, .slice ba c bcap, .int .i64 (row : Int), .int .i64 (off : Int)], .int .i64 0, .int .i64 0, .bool false, undef, .pointer (some ⟨w.heap.size, 0, none⟩), .pointer (some ⟨w.heap.size, 0, none⟩), .int .i64 (c : Int),
          .slice (some ⟨w1.heap.size + 1, 0, none⟩) c c, .agg #[.int .i64 (c : Int), .int .i64 (k : Int), .int .i64 (r : Int), .slice da c dcap, .slice ba c bcap, .int .i64 (row : Int), .int .i64 (off : Int)], .func (.func 75) #[] #[.pointer (some ⟨w1.heap.size + 1 + 1 + 1 + 1, 0, none⟩)], .int .i64 (x.1 : Int), .int .i64 ((Ro.colN c row x.1 : Nat) : Int),
          undef, undef, undef, undef, undef, undef, undef, undef, undef, undef, undef, undef, undef, undef, undef, undef, undef, undef, undef, undef, undef, undef], defers := [] }) ?assign ?body ?done ?stop
  case assign =>
    intro l x W K hK
    gi_wp2
    exact hK
  case body =>
    rintro l pre ⟨x, hx⟩ W hJ hlt
    have hcases := Ro.rdE_cases (C := C) (bf := bf) hm hr ho (Ro.colN_lt (c := c) (row := row) (role := x) (by omega))
    obtain ⟨z, hz⟩ : ∃ z, Ro.colN c row x = z := ⟨_, rfl⟩
    have hzc : z < c := by rw [← hz]; exact Ro.colN_lt (by omega)
    rw [hz] at hcases
    have hrd := fun (W : World) (hW : Below w.heap.size w W) => read16_any (da := da) (ba := ba) (dcap := dcap) (bcap := bcap) hok row off hr ho z hzc W (H.out.below hW)
    have hnX0 : Ro.rdE k C bf (row : Int) (off : Int) z ≠ 0 → Ro.rdX k C bf (row : Int) (off : Int) z = ⟨#[]⟩ := Ro.rdX_none
    have hfx : f x = Ro.rdX k C bf (row : Int) (off : Int) z := by rw [← HF.out, Ro.oneX_rd, Int.toNat_natCast, hz]
    have hgx : g x = Ro.rdE k C bf (row : Int) (off : Int) z := by rw [← HG.out, Ro.oneE_rd, Int.toNat_natCast, hz]
    obtain ⟨E, hE⟩ : ∃ E, Ro.rdE k C bf (row : Int) (off : Int) z = E := ⟨_, rfl⟩
    obtain ⟨X, hX⟩ : ∃ X, Ro.rdX k C bf (row : Int) (off : Int) z = X := ⟨_, rfl⟩
    simp only [hE, hX] at hcases hrd hnX0 hfx hgx
    have hnE : E ≠ 0 → X = ⟨#[]⟩ := hnX0
    have HRD : Hid (∀ W, Below w.heap.size w W → Calls Tryz.prog 41 #[.agg #[.int .i64 (c : Int), .int .i64 (k : Int), .int .i64 (r : Int), .slice da c dcap, .slice ba c bcap, .int .i64 (row : Int), .int .i64 (off : Int)], .int .i64 (z : Int)] W fun e w' => e = .returned (.tuple #[.string X, .int .i64 (E : Nat)]) ∧ Below W.heap.size W w') := hrd
    have HJ : Hid (RdJ w w1.heap.size c k r da ba dcap bcap row off f g pre W) := hJ
    have HK : Hid (_ ∧ _) := hJ
    obtain ⟨_, hs5, _, _, _, hb7, _, _, _, hB⟩ := hJ
    have HB : Hid (Below w.heap.size w W) := hB
    obtain ⟨n0, n1, n2, n3, n4, n5, n6, _⟩ := hb7
    have hlq : w1.heap.size < W.heap.size := by omega
    have HS5 : Hid (w1.heap.size + 5 ≤ W.heap.size) := hs5
    have HFX : Hid (f x = X) := hfx
    have HGX : Hid (g x = E) := hgx
    have hx9 : x < c := hx
    clear HK hrd hnX0 hfx hgx hE hX hm hok hr ho hB hs5 hJ0 hBs hsz5 hrow0 g1 hq hzc
    rcases hcases with h0 | h0 | h0
    · have v0 : ((E : Int) == 0) = true := by rw [h0]; rfl
      have HG0 : Hid (g x = 0) := by show _ = _; rw [HGX.out, h0]
      clear h0 hnE
      gi_wp2_with fail
      refine ⟨trivial, (CallsIn.inRound _ (callsIn_wide.2 (HRD.out _ HB.out))).mono ?_⟩
      rintro e W2 ⟨rfl, hb2⟩
      have HJ2 : Hid (RdJ w w1.heap.size c k r da ba dcap bcap row off f g pre W2) := HJ.out.call hb2
      have KW : Hid (KeepsOthers W W2) := keeps_below hb2
      have SW : Hid (Ro.Same1 (w1.heap.size + 1 + 1 + 1 + 1) W W2) := Ro.Same1.of_below hb2 (by have := HS5.out; omega)
      have hs2 : w1.heap.size + 5 ≤ W2.heap.size := Nat.le_trans HS5.out hb2.size
      clear hb2 n0 n1 n2 n3 n4 n5 n6 hlq
      obtain ⟨_, _, ⟨hr1, _⟩, _, hvc, _⟩ := HJ2.out
      have cc := hvc.cell
      obtain ⟨rc, rf⟩ := hr1 x hx9
      obtain ⟨y, hy⟩ : ∃ y, Ro.hereX f (pre.map (·.1)) x = y := ⟨_, rfl⟩
      simp only [hy] at rc
      have hxi : (x : Int) < (c : Int) := by omega
      have hlr : w1.heap.size + 1 < W2.heap.size := by omega
      have hlc : w1.heap.size + 1 + 1 < W2.heap.size := by omega
      clear hr1 hvc hy
      gi_wp2
      exact ⟨(KW.out.trans (KeepsOthers.setCell W2 ⟨w1.heap.size + 1, x, none⟩ (.string X))).from _, SW.out.trans ((grownBy_setCellAt W2 (w1.heap.size + 1) x (.string X)).block _ (by omega) (fun e => by injection e with e; omega)), HJ2.out.read HQ.out hx HG0.out HFX.out⟩
    · have v0 : ((E : Int) == 0) = false := by rw [h0]; rfl
      have v1 : ((E : Int) == 41) = true := by rw [h0]; rfl
      have HG1 : Hid (g x ≠ 0 ∧ g x ≠ 42 ∧ f x = ⟨#[]⟩) := ⟨by rw [HGX.out, h0]; decide, by rw [HGX.out, h0]; decide, by rw [HFX.out]; exact hnE (by omega)⟩
      clear h0 hnE
      gi_wp2_with fail
      refine ⟨trivial, (CallsIn.inRound _ (callsIn_wide.2 (HRD.out _ HB.out))).mono ?_⟩
      rintro e W2 ⟨rfl, hb2⟩
      have HJ2 : Hid (RdJ w w1.heap.size c k r da ba dcap bcap row off f g pre W2) := HJ.out.call hb2
      have KW : Hid (KeepsOthers W W2) := keeps_below hb2
      have SW : Hid (Ro.Same1 (w1.heap.size + 1 + 1 + 1 + 1) W W2) := Ro.Same1.of_below hb2 (by have := HS5.out; omega)
      have hs2 : w1.heap.size + 5 ≤ W2.heap.size := Nat.le_trans HS5.out hb2.size
      clear hb2 n0 n1 n2 n3 n4 n5 n6 hlq
      obtain ⟨nl, hnl⟩ : ∃ nl, nl = (Ro.lostP g (pre.map (·.1))).length := ⟨_, rfl⟩
      have hnl9 : nl < 10 := by
        have := Ro.lostP_len g (pre.map (·.1))
        rw [List.length_map] at this
        omega
      have HNL : Hid (nl = (Ro.lostP g (pre.map (·.1))).length) := hnl
      obtain ⟨_, _, _, ⟨v, hvl, hown, _⟩, _⟩ := HJ2.out
      rw [← hnl] at hown
      have HVL : Hid (Boxed W2 (w1.heap.size + 1 + 1 + 1) 28 v) := hvl
      have HOWN : Hid (W2.ownsRow (w1.heap.size + 5) 3 1 v nl (iVs (Ro.lostP g (pre.map (·.1))))) := hown
      have cl := hvl.cell
      have hlc : w1.heap.size + 1 + 1 + 1 < W2.heap.size := by omega
      clear hnl hvl hown
      gi_wp2_with (gi_at_builtin; refine wpListIn_append_own _ rfl _ _ 28 rfl (w1.heap.size + 5) 3 i0 (.int .i64 0) 1 8 Tryz.underlying28 q1 q2 q3 q4 rfl (by decide) v nl (iVs (Ro.lostP g (pre.map (·.1)))) rfl (HOWN.out.alloc _) ⟨W2.heap.size, 0, none⟩ 1 1 [.int .i64 (x : Int)] rfl rfl (cell_one_new _ _ _) (by simp [Value.oneCell']) (by unfold maxLen; omega) (by omega) (by simp; omega) ?_; go_loud (intro v' w3 hown' hgrow _; obtain ⟨g5, cap5, rfl⟩ := ownsRow_succ hown'; have hba := below_append HOWN.out hs2 hgrow; have cl3 := (boxed_below HVL.out hba (by omega)).cell; have fl3 := (boxed_below HVL.out hba (by omega)).frozen; have hl3 : w1.heap.size + 1 + 1 + 1 < w3.heap.size := (boxed_below HVL.out hba (by omega)).lt; have HL : Hid (_ ∧ _ ∧ _) := HJ2.out.lost HQ.out hx HG1.out.1 HG1.out.2.1 HG1.out.2.2 HNL.out HVL.out HOWN.out hown' hgrow; clear hown' hgrow hba cl))
      exact ⟨(KW.out.trans HL.out.2.1).from _, SW.out.trans HL.out.2.2, HL.out.1⟩
    · have v0 : ((E : Int) == 0) = false := by rw [h0]; rfl
      have v1 : ((E : Int) == 41) = false := by rw [h0]; rfl
      have HG1 : Hid (g x = 42) := by show _ = _; rw [HGX.out, h0]
      have HE42 : Hid (E = 42) := h0
      clear h0 hnE
      gi_wp2_with fail
      refine ⟨trivial, (CallsIn.inRound _ (callsIn_wide.2 (HRD.out _ HB.out))).mono ?_⟩
      rintro e W2 ⟨rfl, hb2⟩
      have HJ2 : Hid (RdJ w w1.heap.size c k r da ba dcap bcap row off f g pre W2) := HJ.out.call hb2
      have KW : Hid (KeepsOthers W W2) := keeps_below hb2
      have SW : Hid (Ro.Same1 (w1.heap.size + 1 + 1 + 1 + 1) W W2) := Ro.Same1.of_below hb2 (by have := HS5.out; omega)
      have hs2 : w1.heap.size + 5 ≤ W2.heap.size := Nat.le_trans HS5.out hb2.size
      clear hb2 n0 n1 n2 n3 n4 n5 n6 hlq
      obtain ⟨_, _, _, _, _, _, k6, k7, k8, kB⟩ := HJ2.out
      have L6 : Hid (Boxed W2 (w.heap.size + 1) 40 (.slice none 0 0)) := k6
      have L7 : Hid (Boxed W2 (w.heap.size + 1 + 1) 28 (.slice none 0 0)) := k7
      have L8 : Hid (Boxed W2 (w.heap.size + 1 + 1 + 1) 41 (.int .i64 0)) := k8
      have LB : Hid (Below w.heap.size w W2) := kB
      have c6 := k6.cell
      have c7 := k7.cell
      have c8 := k8.cell
      have f6 := k6.frozen
      have f7 := k7.frozen
      have f8 := k8.frozen
      have l6 := k6.lt
      have l7 := k7.lt
      have l8 := k8.lt
      clear k6 k7 k8 kB
      gi_wp2
      obtain ⟨r6, r7, r8, rb, rk⟩ := boxed3_set (n := w.heap.size) L6.out L7.out L8.out (by omega) (by omega) (by omega) (by omega) (by omega) (by omega) (.slice none 0 0) (.slice none 0 0) (.int .i64 (E : Int))
      rw [HE42.out] at r6 r7 r8 rb rk ⊢
      exact ⟨(KW.out.trans rk).from _, ⟨rfl, ⟨x, hx⟩, by simp, HG1.out⟩, r6, r7, r8, LB.out.trans rb⟩
  case done =>
    rintro D ys W hD hys hJ hK
    rw [hsz5] at hD
    have hno : Ro.offT c k C bf (row : Int) (off : Int) c = false := by
      unfold Ro.offT
      rw [List.any_eq_false]
      intro q hq
      rw [← hys] at hq
      obtain ⟨y, hy, rfl⟩ := List.mem_map.1 hq
      have := hJ.1 y hy
      rw [HG.out]
      simpa using this
    have EE : Hid (Ro.readE c k r c c C bf (row : Int) (off : Int) = 0) := HE.out false hno
    have EN : Hid (Ro.readN c k r c c C bf (row : Int) (off : Int) = c) := by show _ = _; unfold Ro.readN; rw [EE.out]; rfl
    have EL : Hid (Ro.readL c k r c c C bf (row : Int) (off : Int) = Ro.lostP g (ys.map (·.1))) := by show _ = _; unfold Ro.readL; rw [EE.out, if_pos rfl, hys]; unfold Ro.lostT Ro.lostP; rw [HG.out]
    obtain ⟨_, _, ⟨hr1, _⟩, ⟨v, hvl, hown, _⟩, hvc, _, k6, k7, k8, kB⟩ := hJ
    have L6 : Hid (Boxed W (w.heap.size + 1) 40 (.slice none 0 0)) := k6
    have L7 : Hid (Boxed W (w.heap.size + 1 + 1) 28 (.slice none 0 0)) := k7
    have L8 : Hid (Boxed W (w.heap.size + 1 + 1 + 1) 41 (.int .i64 0)) := k8
    have LB : Hid (Below w.heap.size w W) := kB
    have HYS : Hid (ys.map (·.1) = List.range c) := hys
    have HR1 : Hid (rowV W (w1.heap.size + 1) c (fun j => .string (Ro.hereX f (ys.map (·.1)) j))) := hr1
    obtain ⟨nl, hnl⟩ : ∃ nl, nl = (Ro.lostP g (ys.map (·.1))).length := ⟨_, rfl⟩
    have HNL : Hid (nl = (Ro.lostP g (ys.map (·.1))).length) := hnl
    have hsh : ∃ ai ci, v = .slice ai nl ci := by
      obtain ⟨ai, ci, e, _⟩ := RowI.of_owns (k := .i64) (show Int16 W _ (Ro.lostP g (ys.map (·.1))) v from hown)
      exact ⟨ai, ci, by rw [hnl]; exact e⟩
    obtain ⟨ai, ci, rfl⟩ := hsh
    rw [← hnl] at hown
    have HOWN : Hid (W.ownsRow (w1.heap.size + 5) 3 1 (.slice ai nl ci) nl (iVs (Ro.lostP g (ys.map (·.1))))) := hown
    have HKD : Hid (W.heap[D]? = some (.deferred (some []))) := hK
    have cc := hvc.cell
    have cl := hvl.cell
    have lc := hvc.lt
    have ll := hvl.lt
    have c6 := k6.cell
    have c7 := k7.cell
    have c8 := k8.cell
    have f6 := k6.frozen
    have f7 := k7.frozen
    have f8 := k8.frozen
    have l6 := k6.lt
    have l7 := k7.lt
    have l8 := k8.lt
    clear k6 k7 k8 kB hys hr1 hown hvl hvc hno hK hnl hm hok hr ho hJ0 hBs hrow0 g1
    gi_wp2_with fail
    refine wpIn_wide.2 ?_
    go_region
    obtain ⟨r6, r7, r8, rb, rk⟩ := boxed3_set (n := w.heap.size) L6.out L7.out L8.out (by omega) (by omega) (by omega) (by omega) (by omega) (by omega) (.slice (some ⟨w1.heap.size + 1, 0, none⟩) c c) (.slice ai nl ci) (.int .i64 0)
    have hrow3 : ∀ j, j < c → (((W.setCell ⟨w.heap.size + 1, 0, none⟩ (.slice (some ⟨w1.heap.size + 1, 0, none⟩) c c)).setCell ⟨w.heap.size + 1 + 1, 0, none⟩ (.slice ai nl ci)).setCell ⟨w.heap.size + 1 + 1 + 1, 0, none⟩ (.int .i64 0)).cell? ⟨w1.heap.size + 1, j, none⟩ = some (.string (f j)) := fun j hj => by
      have h := (HR1.out j hj).1
      rw [HYS.out] at h
      dsimp only at h
      rw [Ro.hereX_all f hj] at h
      have hne : ∀ i, i < w1.heap.size + 1 → (⟨i, 0, none⟩ : Addr) ≠ ⟨w1.heap.size + 1, j, none⟩ := fun i hi e => by injection e with e; omega
      exact (World.cell?_setCell_other _ _ _ _ (hne _ (by have := HQ.out; omega))).trans ((World.cell?_setCell_other _ _ _ _ (hne _ (by have := HQ.out; omega))).trans ((World.cell?_setCell_other _ _ _ _ (hne _ (by have := HQ.out; omega))).trans h))
    have hno : ∀ i, i < w1.heap.size + 5 → (Value.slice ai nl ci).ownBlock = none ∨ (Value.slice ai nl ci).ownBlock ≠ some i := fun i hi => by
      rcases HOWN.out.2 with ⟨e, _⟩ | ⟨g', cap, cur, e, hge, _⟩
      · exact .inl (by rw [e]; rfl)
      · exact .inr (fun e2 => by
          rw [e] at e2
          have : g' = i := by simpa [Value.ownBlock] using e2
          omega)
    have own3 := ((HOWN.out.kept (grownBy_setCell' W (w.heap.size + 1) (.slice (some ⟨w1.heap.size + 1, 0, none⟩) c c)) (hno _ (by have := HQ.out; omega))).kept (grownBy_setCell' _ (w.heap.size + 1 + 1) (.slice ai nl ci)) (hno _ (by have := HQ.out; omega))).kept (grownBy_setCell' _ (w.heap.size + 1 + 1 + 1) (.int .i64 0)) (hno _ (by have := HQ.out; omega))
    generalize (((W.setCell ⟨w.heap.size + 1, 0, none⟩ (.slice (some ⟨w1.heap.size + 1, 0, none⟩) c c)).setCell ⟨w.heap.size + 1 + 1, 0, none⟩ (.slice ai nl ci)).setCell ⟨w.heap.size + 1 + 1 + 1, 0, none⟩ (.int .i64 0)) = W3 at r6 r7 r8 rb rk hrow3 own3 ⊢
    have hK3 : W3.drew.heap[D]? = some (.deferred (some [])) := rk.same D _ HKD.out rfl
    have R6 : Hid (Boxed W3.drew (w.heap.size + 1) 40 (.slice (some ⟨w1.heap.size + 1, 0, none⟩) c c)) := r6
    have R7 : Hid (Boxed W3.drew (w.heap.size + 1 + 1) 28 (.slice ai nl ci)) := r7
    have R8 : Hid (Boxed W3.drew (w.heap.size + 1 + 1 + 1) 41 (.int .i64 0)) := r8
    have HRW : Hid (∀ j, j < c → W3.drew.cell? ⟨w1.heap.size + 1, j, none⟩ = some (.string (f j))) := hrow3
    have HO3 : Hid (W3.drew.ownsRow (w1.heap.size + 5) 3 1 (.slice ai nl ci) nl (iVs (Ro.lostP g (ys.map (·.1))))) := own3
    have HB3 : Hid (Below w.heap.size w W3.drew) := (LB.out.trans rb).drew
    clear r6 r7 r8 rb rk hrow3 own3 hno
    generalize W3.drew = W4 at R6 R7 R8 HRW HO3 HB3 hK3 ⊢
    gi_wp2
    refine ⟨by simp, .inl ⟨_, _, rfl, run_takeDeferred hK3, ?_⟩⟩
    have kp : ∀ {a : Addr} {u : Value}, W4.cell? a = some u → (W4.putObj D (.deferred none)).cell? a = some u := fun h => cell_kept h (grownBy_putObj' _ D (.deferred none)) (fun r e => by cases e; exact ⟨_, hK3, rfl⟩)
    refine ⟨_, results3_16 _ _ _ _ _ _ _ _ rfl rfl rfl (kp R6.out.cell) (kp R7.out.cell) (kp R8.out.cell), ?_⟩
    unfold RdSays
    rw [EE.out, EN.out, EL.out, ← HNL.out]
    refine ⟨⟨_, c, ai, ci, rfl, fun j hj => ⟨w1.heap.size + 1, 0, rfl, by rw [Nat.zero_add]; exact kp (HRW.out j hj)⟩, Nat.le_refl _, ?_, ?_⟩, HB3.out.trans (belowK_b (w := w) (Nat.le_refl _) _ D _ _ (by omega) hK3 rfl rfl)⟩
    · have h3 := HO3.out
      rw [HNL.out] at h3 ⊢
      obtain ⟨ai', ci', e, hi, _⟩ := RowI.of_owns (k := .i64) (show Int16 W4 _ (Ro.lostP g (ys.map (·.1))) _ from h3)
      injection e with e1 _ _
      rw [e1]
      exact fun j hj => by
        obtain ⟨b, o, e5, hc5⟩ := hi j hj
        exact ⟨b, o, e5, kp hc5⟩
    · rcases HO3.out.2 with ⟨e, h0⟩ | ⟨g', cap, cur, e, _, _, hn, _⟩
      · injection e with _ e2 _
        omega
      · injection e with _ _ e3
        omega
  case stop =>
    rintro D d pre W hD _ ⟨⟨rfl, y, hy, h42⟩, h6, h7, h8, hB⟩ hK
    rw [hsz5] at hD
    have hyes2 : Ro.offT c k C bf (row : Int) (off : Int) c = true := by
      unfold Ro.offT
      rw [List.any_eq_true]
      exact ⟨y.1, List.mem_range.2 y.2, by rw [HG.out, h42]; rfl⟩
    have EE : Hid (Ro.readE c k r c c C bf (row : Int) (off : Int) = 42) := HE.out true hyes2
    have EN : Hid (Ro.readN c k r c c C bf (row : Int) (off : Int) = 0) := by show _ = _; unfold Ro.readN; rw [EE.out]; rfl
    have EL : Hid (Ro.readL c k r c c C bf (row : Int) (off : Int) = []) := by show _ = _; unfold Ro.readL; rw [EE.out]; rfl
    have HB2 : Hid (Below w.heap.size w W) := hB
    have L6 : Hid (Boxed W (w.heap.size + 1) 40 (.slice none 0 0)) := h6
    have L7 : Hid (Boxed W (w.heap.size + 1 + 1) 28 (.slice none 0 0)) := h7
    have L8 : Hid (Boxed W (w.heap.size + 1 + 1 + 1) 41 (.int .i64 42)) := h8
    clear hm hok hr ho hJ0 hBs hrow0 g1 hy h42 hyes2 hB h6 h7 h8
    gi_wp2
    refine ⟨by simp, .inl ⟨_, _, rfl, run_takeDeferred hK, ?_⟩⟩
    have c6 := cell_kept L6.out.cell (grownBy_putObj' _ D (.deferred none)) (fun r e => by cases e; exact ⟨_, hK, rfl⟩)
    have c7 := cell_kept L7.out.cell (grownBy_putObj' _ D (.deferred none)) (fun r e => by cases e; exact ⟨_, hK, rfl⟩)
    have c8 := cell_kept L8.out.cell (grownBy_putObj' _ D (.deferred none)) (fun r e => by cases e; exact ⟨_, hK, rfl⟩)
    refine ⟨_, results3_16 _ _ _ _ _ _ _ _ rfl rfl rfl c6 c7 c8, ?_⟩
    unfold RdSays
    rw [EE.out, EN.out, EL.out]
    exact ⟨⟨none, 0, none, 0, rfl, RowS.nil _ _ _, Nat.le_refl _, fun j hj => absurd hj (Nat.not_lt_zero _), Nat.le_refl _⟩, HB2.out.trans (belowK_b (w := w) (Nat.le_refl _) _ D _ _ (by omega) hK rfl rfl)⟩
end
end Go.Proofs.YtdgkhjgnjfgnlaaGreat
namespace Go.Proofs.YtdgkhjgnjfgnlaaGreat
open Go.RowKit Go.Maps Go.Shelf
attribute [local go_sem] Oper.semAt_some
def LtJ (w : World) (q c k r : Nat) (da ba : Option Addr) (dcap bcap row off : Nat) (g : Nat → Nat) (pre : List (Ro.Role c)) (W : World) : Prop :=
 q + 3 ≤ W.heap.size ∧ (∃ v, Boxed W (q + 1) 28 v ∧ W.ownsRow (q + 3) 3 1 v (Ro.lostP g (pre.map (·.1))).length (iVs (Ro.lostP g (pre.map (·.1)))) ∧ True) ∧ Box7 W q (.int .i64 (c : Int)) (.int .i64 (k : Int)) (.int .i64 (r : Int)) (.slice da c dcap) (.slice ba c bcap) (.int .i64 (row : Int)) (.int .i64 (off : Int)) ∧ Boxed W (w.heap.size + 1) 3 (.int .i64 (row : Int)) ∧ Below w.heap.size w W
theorem ltJ_own {w : World} {q c k r : Nat} {da ba : Option Addr} {dcap bcap row off : Nat} {g : Nat → Nat} {B : Nat} (hB : w.heap.size ≤ B) : OwnFrom B (LtJ w q c k r da ba dcap bcap row off g) :=
 OwnFrom.and (fun _ _ _ _ h hg _ => Nat.le_trans h hg.size) (OwnFrom.and (Own.from (holdsRow_own (q + 3) (q + 1) 28 3 1 (fun (pre : List (Ro.Role c)) => (Ro.lostP g (pre.map (·.1))).length) (fun pre => iVs (Ro.lostP g (pre.map (·.1)))) (fun _ _ => True)) _)
  (OwnFrom.and (Own.from (box7_own _ _ _ _ _ _ _ _) _) (OwnFrom.and (Own.from (boxed_own _ _ _) _) (ownFrom_below (Nat.le_refl _) hB))))
section
variable {w W W' : World} {q c k r : Nat} {da ba : Option Addr} {dcap bcap row off : Nat} {g : Nat → Nat} {pre : List (Ro.Role c)}
theorem LtJ.call (h : LtJ w q c k r da ba dcap bcap row off g pre W) (hb : Below W.heap.size W W') : LtJ w q c k r da ba dcap bcap row off g pre W' := by
 obtain ⟨s3, ⟨v, c1, c2, _⟩, e, f6, hB⟩ := h
 exact ⟨Nat.le_trans s3 hb.size, ⟨v, boxed_below c1 hb c1.lt, ownsRow_below c2 hb, trivial⟩, e.kept hb, boxed_below f6 hb f6.lt, hB.trans (hb.mono hB.size)⟩
theorem LtJ.here (h : LtJ w q c k r da ba dcap bcap row off g pre W) {x : Nat} (hx : x < c) (hg : g x = 0) : LtJ w q c k r da ba dcap bcap row off g (pre ++ [⟨x, hx⟩]) W := by
 obtain ⟨s3, hv, e, f6, hB⟩ := h
 have hm : (pre ++ [(⟨x, hx⟩ : Ro.Role c)]).map (·.1) = pre.map (·.1) ++ [x] := by rw [List.map_append]; rfl
 refine ⟨s3, ?_, e, f6, hB⟩
 rw [hm, Ro.lostP_no hg]
 exact hv
theorem LtJ.lost (h : LtJ w q c k r da ba dcap bcap row off g pre W) (hq : w.heap.size + 2 ≤ q) {x : Nat} (hx : x < c) (hg : g x ≠ 0) {v v' : Value} {nl : Nat} {w1 : World} (hn : nl = (Ro.lostP g (pre.map (·.1))).length)
  (hv : Boxed W (q + 1) 28 v) (hown : W.ownsRow (q + 3) 3 1 v nl (iVs (Ro.lostP g (pre.map (·.1))))) (hown' : w1.ownsRow (q + 3) 3 1 v' (nl + 1) (iVs (Ro.lostP g (pre.map (·.1))) ++ [.int .i64 (x : Int)])) (hgrow : (W.alloc (.cells #[.int .i64 (x : Int)] 3)).grownBy w1 v.ownBlock) :
  LtJ w q c k r da ba dcap bcap row off g (pre ++ [⟨x, hx⟩]) (w1.setCell ⟨q + 1, 0, none⟩ v') ∧ KeepsOthers W (w1.setCell ⟨q + 1, 0, none⟩ v') ∧ Ro.Same1 (q + 1 + 1) W (w1.setCell ⟨q + 1, 0, none⟩ v') := by
 obtain ⟨s3, _, e, f6, hB⟩ := h
 have hm : (pre ++ [(⟨x, hx⟩ : Ro.Role c)]).map (·.1) = pre.map (·.1) ++ [x] := by rw [List.map_append]; rfl
 have hba : Below (q + 3) W w1 := below_append hown s3 hgrow
 have hsame : ∀ B, B ≠ q + 1 → B < q + 3 → (w1.setCell ⟨q + 1, 0, none⟩ v').heap[B]? = W.heap[B]? := fun B hne hl => ((grownBy_setCell' w1 (q + 1) v').block B (by have := hba.size; omega) (fun e => hne (by injection e))).trans (hba.block B hl)
 obtain ⟨p1, p2, _, p4, _⟩ := hv.appended (by decide) (row_low16 hown (B' := w.heap.size) (by omega)) (by omega) (by omega) (row_low16 hown' (B' := w.heap.size) (by omega)) hgrow
 refine ⟨⟨Nat.le_trans s3 p4.size, ⟨v', p2, ?_, trivial⟩, box7_of_block e (hsame q (by omega) (by omega)), (hsame _ (by omega) (by omega)).trans f6, ?_⟩, p4, hsame _ (by omega) (by omega)⟩
 ·rw [hm, Ro.lostP_yes hg, List.length_append, iVs_snoc, ← hn]
  exact hown'.kept (grownBy_setCell' w1 (q + 1) v') (.inr (p1.not_row (by decide) hown').symm)
 ·exact (hB.trans (hba.mono (by omega))).setCell (p := ⟨q + 1, 0, none⟩) (by show _ ≤ q + 1; omega) v'
end
theorem Ro.lostP_miss (c : Nat) (C : Nat → Ro.Col) (bf : Nat → Int) (row : Int) (t : Nat) : Ro.lostP (fun q => (Ro.missB C bf row (Ro.colN c row.toNat q)).toNat) (List.range t) = Ro.missT c C bf row t := by
 unfold Ro.lostP Ro.missT
 congr 2
 funext q
 dsimp only
 cases Ro.missB C bf row (Ro.colN c row.toNat q) <;> rfl
section
variable {c k r : Nat} {da ba : Option Addr} {dn dcap bn bcap : Nat} {C : Nat → Ro.Col} {bf : Nat → Int}
set_option maxRecDepth 100000 in
set_option maxHeartbeats 4000000 in
theorem lost16_no (hok : Lay.ok (c : Int) (k : Int) (r : Int)) (hdn : dn ≤ 1000000) (row : Int) (w : World) (h : PrSet w da dn ba bn C bf) (hno : Ro.chk c k r dn bn C row 0 ≠ 0) :
  Calls Tryz.prog 18 #[.agg #[.int .i64 (c : Int), .int .i64 (k : Int), .int .i64 (r : Int), .slice da dn dcap, .slice ba bn bcap], .int .i64 row] w fun e w' => e = .returned (.tuple #[.slice none 0 0, .int .i64 (Ro.chk c k r dn bn C row 0 : Nat)]) ∧ Below w.heap.size w w' := by
 have al : ∀ (W : World) (o : Obj), Below W.heap.size W (W.alloc o) := fun W o => (Below.refl _ _).alloc (Nat.le_refl _) _
 have X0 : Hid (At5 w w.heap.size c k r (.slice da dn dcap) (.slice ba bn bcap) (((w.alloc (.cells #[.int .i64 (c : Int), .int .i64 (k : Int), .int .i64 (r : Int), .slice da dn dcap, .slice ba bn bcap] 30)).alloc (.cells #[.int .i64 row] 3)))) := (At5.new w c k r _ _ 30).kept (al _ _)
 have hp := placeOf16_no (dcap := dcap) (bcap := bcap) hok hdn row 0 _ (h.below X0.out.2.2.2.2.2) hno
 obtain ⟨E, hE⟩ : ∃ E, Ro.chk c k r dn bn C row 0 = E := ⟨_, rfl⟩
 rw [hE] at hp hno ⊢
 have hne : ((E : Int) != 0) = true := by rw [bne_iff_ne]; omega
 have HP : Hid (Calls Tryz.prog 39 #[.agg #[.int .i64 (c : Int), .int .i64 (k : Int), .int .i64 (r : Int), .slice da dn dcap, .slice ba bn bcap], .int .i64 row, .int .i64 0] (((w.alloc (.cells #[.int .i64 (c : Int), .int .i64 (k : Int), .int .i64 (r : Int), .slice da dn dcap, .slice ba bn bcap] 30)).alloc (.cells #[.int .i64 row] 3))) fun e w' => e = .returned (.tuple #[.agg #[.int .i64 0, .int .i64 0, .int .i64 0, .slice none 0 0, .slice none 0 0, .int .i64 0, .int .i64 0], .int .i64 (E : Nat)]) ∧ Below (((w.alloc (.cells #[.int .i64 (c : Int), .int .i64 (k : Int), .int .i64 (r : Int), .slice da dn dcap, .slice ba bn bcap] 30)).alloc (.cells #[.int .i64 row] 3))).heap.size (((w.alloc (.cells #[.int .i64 (c : Int), .int .i64 (k : Int), .int .i64 (r : Int), .slice da dn dcap, .slice ba bn bcap] 30)).alloc (.cells #[.int .i64 row] 3))) w') := hp
 have hlast : w.heap.size < (((w.alloc (.cells #[.int .i64 (c : Int), .int .i64 (k : Int), .int .i64 (r : Int), .slice da dn dcap, .slice ba bn bcap] 30)).alloc (.cells #[.int .i64 row] 3))).heap.size := World.block_lt_of_cell? _ _ X0.out.1
 obtain ⟨k0, k1, k2, k3, k4, _⟩ := X0.out
 clear hp hE h hok hno
 go_enter Tryz.func18, Tryz.ntmps18
 go_wp2_with fail
 refine HP.out.mono ?_
 rintro e w1 ⟨rfl, hb1⟩
 have B1 : Hid (Below w.heap.size w w1) := (X0.out.kept hb1).2.2.2.2.2
 clear hb1 k0 k1 k2 k3 k4 hlast
 go_wp2
 go_ret2
 exact ⟨rfl, B1.out.alloc B1.out.size _⟩
set_option maxRecDepth 100000 in
set_option maxHeartbeats 16000000 in
theorem lost16_yes (hok : Lay.ok (c : Int) (k : Int) (r : Int)) (row off : Nat) (hoff : off = 0) (w : World) (h : PrSet w da c ba c C bf) (hyes : Ro.chk c k r c c C (row : Int) 0 = 0) :
    Calls Tryz.prog 18 #[.agg #[.int .i64 (c : Int), .int .i64 (k : Int), .int .i64 (r : Int), .slice da c dcap, .slice ba c bcap], .int .i64 (row : Int)] w (LsAns w 0 (Ro.missT c C bf (row : Int) c)) := by
  have hin := (Ro.chk_yes hyes).2.2.1
  have hr : row < r := by omega
  have hc10 : c ≤ 10 := by have := hok.1; omega
  have hc4 : 4 ≤ c := by have := hok.1; omega
  have al : ∀ (W : World) (o : Obj), Below W.heap.size W (W.alloc o) := fun W o => (Below.refl _ _).alloc (Nat.le_refl _) _
  have X0 : Hid (At5 w w.heap.size c k r (.slice da c dcap) (.slice ba c bcap) (((w.alloc (.cells #[.int .i64 (c : Int), .int .i64 (k : Int), .int .i64 (r : Int), .slice da c dcap, .slice ba c bcap] 30)).alloc (.cells #[.int .i64 (row : Int)] 3)))) := (At5.new w c k r _ _ 30).kept (al _ _)
  have hp := placeOf16_yes (dcap := dcap) (bcap := bcap) hok (by omega) (row : Int) 0 _ (h.below X0.out.2.2.2.2.2) hyes
  have b6 := Boxed.new (w.alloc (.cells #[.int .i64 (c : Int), .int .i64 (k : Int), .int .i64 (r : Int), .slice da c dcap, .slice ba c bcap] 30)) 3 (.int .i64 (row : Int))
  simp only [World.size_alloc] at b6
  have HP : Hid (Calls Tryz.prog 39 #[.agg #[.int .i64 (c : Int), .int .i64 (k : Int), .int .i64 (r : Int), .slice da c dcap, .slice ba c bcap], .int .i64 (row : Int), .int .i64 0] (((w.alloc (.cells #[.int .i64 (c : Int), .int .i64 (k : Int), .int .i64 (r : Int), .slice da c dcap, .slice ba c bcap] 30)).alloc (.cells #[.int .i64 (row : Int)] 3))) fun e w' => e = .returned (.tuple #[.agg #[.int .i64 (c : Int), .int .i64 (k : Int), .int .i64 (r : Int), .slice da c dcap, .slice ba c bcap, .int .i64 (row : Int), .int .i64 (off : Int)], .int .i64 0]) ∧ Below (((w.alloc (.cells #[.int .i64 (c : Int), .int .i64 (k : Int), .int .i64 (r : Int), .slice da c dcap, .slice ba c bcap] 30)).alloc (.cells #[.int .i64 (row : Int)] 3))).heap.size (((w.alloc (.cells #[.int .i64 (c : Int), .int .i64 (k : Int), .int .i64 (r : Int), .slice da c dcap, .slice ba c bcap] 30)).alloc (.cells #[.int .i64 (row : Int)] 3))) w') := by
    subst hoff; exact hp
  have HB6 : Hid (Boxed (((w.alloc (.cells #[.int .i64 (c : Int), .int .i64 (k : Int), .int .i64 (r : Int), .slice da c dcap, .slice ba c bcap] 30)).alloc (.cells #[.int .i64 (row : Int)] 3))) (w.heap.size + 1) 3 (.int .i64 (row : Int))) := b6
  have hlast : w.heap.size < (((w.alloc (.cells #[.int .i64 (c : Int), .int .i64 (k : Int), .int .i64 (r : Int), .slice da c dcap, .slice ba c bcap] 30)).alloc (.cells #[.int .i64 (row : Int)] 3))).heap.size := World.block_lt_of_cell? _ _ X0.out.1
  have kr := b6.cell
  obtain ⟨k0, k1, k2, k3, k4, _⟩ := X0.out
  have H : Hid (PrSet w da c ba c C bf) := h
  obtain ⟨g, hg⟩ : ∃ g, (fun q => (Ro.missB C bf (row : Int) (Ro.colN c (row : Int).toNat q)).toNat) = g := ⟨_, rfl⟩
  have HG : Hid ((fun q => (Ro.missB C bf (row : Int) (Ro.colN c (row : Int).toNat q)).toNat) = g) := hg
  have HT : Hid (Ro.missT c C bf (row : Int) c = Ro.lostP g (List.range c)) := by show _ = _; rw [← hg, Ro.lostP_miss]
  obtain ⟨i0, q1, q2, q3, q4⟩ := info_parts (show (Tryz.prog.info? 3).map (fun i => (i.zero, i.size, i.bytes)) = some (some (.int .i64 0), 1, 8) by kernel_rfl)
  clear hp h b6 hg hoff hyes hin
  refine (callsIn_wide (n := 3)).1 ?_
  refine callsIn_of_wp_marks Tryz.func18 rfl trivial ?_ rfl
  simp only [Tryz.ntmps18, List.size_toArray, List.length_cons, List.length_nil, Nat.reduceAdd, Nat.reduceSub, Array.replicate_succ, Array.replicate_zero, List.push_toArray, List.append_toArray, List.nil_append, List.cons_append]
  gi_wp2_with fail
  refine ⟨trivial, (callsIn_wide.2 HP.out).mono ?_⟩
  rintro e w1 ⟨rfl, hb1⟩
  have A1 : Hid (At5 w w.heap.size c k r (.slice da c dcap) (.slice ba c bcap) w1) := X0.out.kept hb1
  have hl1 : w.heap.size < w1.heap.size := World.block_lt_of_cell? _ _ A1.out.1
  obtain ⟨m0, m1, m2, m3, m4, _⟩ := A1.out
  have K6 : Hid (Boxed w1 (w.heap.size + 1) 3 (.int .i64 (row : Int))) := (hb1.block _ HB6.out.lt).trans HB6.out
  have l8 := K6.out.lt
  clear hb1 k0 k1 k2 k3 k4 hlast kr
  gi_wp2_with fail
  refine ⟨trivial, (callsIn_wide.2 (roles16_any row off _)).mono ?_⟩
  rintro e w2 ⟨rfl, rfl⟩
  gi_wp2_with fail
  have hq : w.heap.size + 2 ≤ w1.heap.size := by omega
  have HQ : Hid (w.heap.size + 2 ≤ w1.heap.size) := hq
  have g1 := al w1 (.cells #[.int .i64 (c : Int), .int .i64 (k : Int), .int .i64 (r : Int), .slice da c dcap, .slice ba c bcap, .int .i64 (row : Int), .int .i64 (off : Int)] 77)
  have hsz3 : ((((w1.alloc (.cells #[.int .i64 (c : Int), .int .i64 (k : Int), .int .i64 (r : Int), .slice da c dcap, .slice ba c bcap, .int .i64 (row : Int), .int .i64 (off : Int)] 77)).alloc (.cells #[.slice none 0 0] 28)).alloc (.cells #[.int .i64 (c : Int), .int .i64 (k : Int), .int .i64 (r : Int), .slice da c dcap, .slice ba c bcap, .int .i64 (row : Int), .int .i64 (off : Int)] 77))).heap.size = w1.heap.size + 3 := by simp
  have hJ0 : LtJ w w1.heap.size c k r da ba dcap bcap row off g [] ((((w1.alloc (.cells #[.int .i64 (c : Int), .int .i64 (k : Int), .int .i64 (r : Int), .slice da c dcap, .slice ba c bcap, .int .i64 (row : Int), .int .i64 (off : Int)] 77)).alloc (.cells #[.slice none 0 0] 28)).alloc (.cells #[.int .i64 (c : Int), .int .i64 (k : Int), .int .i64 (r : Int), .slice da c dcap, .slice ba c bcap, .int .i64 (row : Int), .int .i64 (off : Int)] 77))) := by
    have e2 : Below w1.heap.size w1 ((((w1.alloc (.cells #[.int .i64 (c : Int), .int .i64 (k : Int), .int .i64 (r : Int), .slice da c dcap, .slice ba c bcap, .int .i64 (row : Int), .int .i64 (off : Int)] 77)).alloc (.cells #[.slice none 0 0] 28)).alloc (.cells #[.int .i64 (c : Int), .int .i64 (k : Int), .int .i64 (r : Int), .slice da c dcap, .slice ba c bcap, .int .i64 (row : Int), .int .i64 (off : Int)] 77))) := ((g1.alloc (by simp) _).alloc (by simp; omega) _)
    refine ⟨(by rw [hsz3]; exact Nat.le_refl _), ⟨_, ?_, World.ownsRow_nil _ _ _ _, trivial⟩, ?_, boxed_below K6.out e2 K6.out.lt, A1.out.2.2.2.2.2.trans (e2.mono A1.out.2.2.2.2.2.size)⟩
    · have h := (Boxed.new (w1.alloc (.cells #[.int .i64 (c : Int), .int .i64 (k : Int), .int .i64 (r : Int), .slice da c dcap, .slice ba c bcap, .int .i64 (row : Int), .int .i64 (off : Int)] 77)) 28 (.slice none 0 0)).alloc (.cells #[.int .i64 (c : Int), .int .i64 (k : Int), .int .i64 (r : Int), .slice da c dcap, .slice ba c bcap, .int .i64 (row : Int), .int .i64 (off : Int)] 77)
      simp only [World.size_alloc] at h; exact h
    · have h0 := Box7.new w1 77 (.int .i64 (c : Int)) (.int .i64 (k : Int)) (.int .i64 (r : Int)) (.slice da c dcap) (.slice ba c bcap) (.int .i64 (row : Int)) (.int .i64 (off : Int))
      exact h0.kept (((Below.refl _ _).alloc (Nat.le_refl _) _).alloc (by simp) _)
  have hBs : Box7 ((((w1.alloc (.cells #[.int .i64 (c : Int), .int .i64 (k : Int), .int .i64 (r : Int), .slice da c dcap, .slice ba c bcap, .int .i64 (row : Int), .int .i64 (off : Int)] 77)).alloc (.cells #[.slice none 0 0] 28)).alloc (.cells #[.int .i64 (c : Int), .int .i64 (k : Int), .int .i64 (r : Int), .slice da c dcap, .slice ba c bcap, .int .i64 (row : Int), .int .i64 (off : Int)] 77))) (w1.heap.size + 1 + 1) (.int .i64 (c : Int)) (.int .i64 (k : Int)) (.int .i64 (r : Int)) (.slice da c dcap) (.slice ba c bcap) (.int .i64 (row : Int)) (.int .i64 (off : Int)) := by
    have h := Box7.new ((w1.alloc (.cells #[.int .i64 (c : Int), .int .i64 (k : Int), .int .i64 (r : Int), .slice da c dcap, .slice ba c bcap, .int .i64 (row : Int), .int .i64 (off : Int)] 77)).alloc (.cells #[.slice none 0 0] 28)) 77 (.int .i64 (c : Int)) (.int .i64 (k : Int)) (.int .i64 (r : Int)) (.slice da c dcap) (.slice ba c bcap) (.int .i64 (row : Int)) (.int .i64 (off : Int))
    simp only [World.size_alloc] at h
    exact h
  refine wpIn_rangeFunc_ownG rfl (by decide) (gf := 75) (lb := #[.pointer (some ⟨w1.heap.size + 1 + 1, 0, none⟩)]) rfl trivial (enters_of Tryz.func75 (by kernel_rfl) rfl)
    (roles_stops (3 - 1) (by decide) (w1.heap.size + 1 + 1) hok row off hr _ hBs) (fun h k => Ro.Same1.trans h k) (Ro.Same1.put hBs.lt) (Below.refl _ _) (fun _ => rfl)
    (LtJ w w1.heap.size c k r da ba dcap bcap row off g) (fun _ _ _ => False) (ltJ_own (by rw [hsz3]; omega)) (fun _ _ _ _ _ hs _ _ => hs) hJ0
    (fun x => { tmps := #[.agg #[.int .i64 (c : Int), .int .i64 (k : Int), .int .i64 (r : Int), .slice da c dcap, .slice ba c bcap], .int .i64 (row : Int), .pointer (some ⟨w.heap.size, 0, none⟩), .pointer (some ⟨w.heap.size + 1, 0, none⟩), .slice none 0 0, .int .i64 0, .pointer (some ⟨w1.heap.size, 0, none⟩), .int .i64 0, .pointer (some ⟨w1.heap.size + 1, 0, none⟩),
          .int .i64 (x.1 : Int), .int .i64 ((Ro.colN c row x.1 : Nat) : Int), .tuple #[.agg #[.int .i64 (c : Int), .int .i64 (k : Int), .int .i64 (r : Int), .slice da c dcap, .slice ba c bcap, .int .i64 (row : Int), .int .i64 (off : Int)], .int .i64 0], .agg #[.int .i64 (c : Int), .int .i64 (k : Int), .int .i64 (r : Int), .slice da c dcap, .slice ba c bcap], .int .i64 (row : Int), .tuple #[.agg #[.int .i64 (c : Int), .int .i64 (k : Int), .int .i64 (r : Int), .slice da c dcap, .slice ba c bcap, .int .i64 (row : Int), .int .i64 (off : Int)], .int .i64 0], .agg #[.int .i64 (c : Int), .int .i64 (k : Int), .int .i64 (r : Int), .slice da c dcap, .slice ba c bcap, .int .i64 (row : Int), .int .i64 (off : Int)], .int .i64 0, .int .i64 0, .bool false, undef, .agg #[.int .i64 (c : Int), .int .i64 (k : Int), .int .i64 (r : Int), .slice da c dcap, .slice ba c bcap, .int .i64 (row : Int), .int .i64 (off : Int)],
          .func (.func 75) #[] #[.pointer (some ⟨w1.heap.size + 1 + 1, 0, none⟩)], .int .i64 (x.1 : Int), .int .i64 ((Ro.colN c row x.1 : Nat) : Int),
          undef, undef, undef, undef, undef, undef, undef, undef, undef, undef], defers := [] }) ?assign ?body ?done ?stop
  case assign =>
    intro l x W K hK
    gi_wp2
    exact hK
  case body =>
    rintro l pre ⟨x, hx⟩ W hJ hlt
    obtain ⟨z, hz⟩ : ∃ z, Ro.colN c row x = z := ⟨_, rfl⟩
    have hzc : z < c := by rw [← hz]; exact Ro.colN_lt (by omega)
    have hmi := fun (W : World) (hW : Below w.heap.size w W) => missing16_any (c := c) (k := k) (r := r) (da := da) (ba := ba) (dcap := dcap) (bcap := bcap) (row : Int) z hzc hzc W (H.out.below hW)
    have hgx : g x = (Ro.missB C bf (row : Int) z).toNat := by rw [← HG.out]; dsimp only; rw [Int.toNat_natCast, hz]
    obtain ⟨m, hm⟩ : ∃ m, Ro.missB C bf (row : Int) z = m := ⟨_, rfl⟩
    simp only [hm] at hmi hgx
    have HMI : Hid (∀ W, Below w.heap.size w W → Calls Tryz.prog 53 #[.agg #[.int .i64 (c : Int), .int .i64 (k : Int), .int .i64 (r : Int), .slice da c dcap, .slice ba c bcap], .int .i64 (row : Int), .int .i64 (z : Int)] W fun e w' => e = .returned (.bool m) ∧ Below W.heap.size W w') := hmi
    have HJ : Hid (LtJ w w1.heap.size c k r da ba dcap bcap row off g pre W) := hJ
    obtain ⟨hs3, _, hb7, hrw, hB⟩ := hJ
    have HB : Hid (Below w.heap.size w W) := hB
    obtain ⟨n0, n1, n2, n3, n4, n5, n6, _⟩ := hb7
    have nr := hrw.cell
    have hlr := hrw.lt
    have hlq : w1.heap.size < W.heap.size := by omega
    have HS3 : Hid (w1.heap.size + 3 ≤ W.heap.size) := hs3
    have HGX : Hid (g x = m.toNat) := hgx
    have hx9 : x < c := hx
    clear hmi hgx hm hok hr hB hs3 hJ0 hBs hsz3 g1 hq hzc hrw
    gi_wp2_with fail
    refine ⟨trivial, (CallsIn.inRound _ (callsIn_wide.2 (HMI.out _ HB.out))).mono ?_⟩
    rintro e W2 ⟨rfl, hb2⟩
    have HJ2 : Hid (LtJ w w1.heap.size c k r da ba dcap bcap row off g pre W2) := HJ.out.call hb2
    have KW : Hid (KeepsOthers W W2) := keeps_below hb2
    have SW : Hid (Ro.Same1 (w1.heap.size + 1 + 1) W W2) := Ro.Same1.of_below hb2 (by have := HS3.out; omega)
    have hs2 : w1.heap.size + 3 ≤ W2.heap.size := Nat.le_trans HS3.out hb2.size
    clear hb2 n0 n1 n2 n3 n4 n5 n6 hlq nr hlr
    cases m with
    | false =>
      gi_wp2
      exact ⟨KW.out.from _, SW.out, HJ2.out.here hx HGX.out⟩
    | true =>
      obtain ⟨nl, hnl⟩ : ∃ nl, nl = (Ro.lostP g (pre.map (·.1))).length := ⟨_, rfl⟩
      have hnl9 : nl < 10 := by
        have := Ro.lostP_len g (pre.map (·.1))
        rw [List.length_map] at this
        omega
      have HNL : Hid (nl = (Ro.lostP g (pre.map (·.1))).length) := hnl
      have HG1 : Hid (g x ≠ 0) := by show _ ≠ _; rw [HGX.out]; decide
      obtain ⟨_, ⟨v, hvl, hown, _⟩, _⟩ := HJ2.out
      rw [← hnl] at hown
      have HVL : Hid (Boxed W2 (w1.heap.size + 1) 28 v) := hvl
      have HOWN : Hid (W2.ownsRow (w1.heap.size + 3) 3 1 v nl (iVs (Ro.lostP g (pre.map (·.1))))) := hown
      have cl := hvl.cell
      have hlc : w1.heap.size + 1 < W2.heap.size := by omega
      clear hnl hvl hown
      gi_wp2_with (gi_at_builtin; refine wpListIn_append_own _ rfl _ _ 28 rfl (w1.heap.size + 3) 3 i0 (.int .i64 0) 1 8 Tryz.underlying28 q1 q2 q3 q4 rfl (by decide) v nl (iVs (Ro.lostP g (pre.map (·.1)))) rfl (HOWN.out.alloc _) ⟨W2.heap.size, 0, none⟩ 1 1 [.int .i64 (x : Int)] rfl rfl (cell_one_new _ _ _) (by simp [Value.oneCell']) (by unfold maxLen; omega) (by omega) (by simp; omega) ?_; go_loud (intro v' w3 hown' hgrow _; obtain ⟨g5, cap5, rfl⟩ := ownsRow_succ hown'; have hba := below_append HOWN.out hs2 hgrow; have cl3 := (boxed_below HVL.out hba (by omega)).cell; have fl3 := (boxed_below HVL.out hba (by omega)).frozen; have hl3 : w1.heap.size + 1 < w3.heap.size := (boxed_below HVL.out hba (by omega)).lt; have HL : Hid (_ ∧ _ ∧ _) := HJ2.out.lost HQ.out hx HG1.out HNL.out HVL.out HOWN.out hown' hgrow; clear hown' hgrow hba cl))
      exact ⟨(KW.out.trans HL.out.2.1).from _, SW.out.trans HL.out.2.2, HL.out.1⟩
  case done =>
    rintro D ys W hD hys hJ hK
    rw [hsz3] at hD
    obtain ⟨_, ⟨v, hvl, hown, _⟩, _, _, kB⟩ := hJ
    rw [hys, ← HT.out] at hown
    have HOWN : Hid (Int16 W (w1.heap.size + 3) (Ro.missT c C bf (row : Int) c) v) := hown
    have LB : Hid (Below w.heap.size w W) := kB
    have cl := hvl.cell
    have ll := hvl.lt
    clear kB hys hown hvl hok hr hJ0 hBs g1
    gi_wp2
    refine ⟨by simp, .inl ⟨_, _, rfl, run_takeDeferred hK, ?_⟩⟩
    have kp := (belowK_b (w := w) (Nat.le_refl _) W D (.deferred (some [])) (.deferred none) (by omega) hK rfl rfl)
    refine ⟨_, results_tmp2 (fn := Tryz.f18) rfl _ _ _, ?_⟩
    refine LsAns.of (B := w1.heap.size + 3) (v := v) (HOWN.out.kept (grownBy_putObj' W D (.deferred none)) ?_) (LB.out.trans kp)
    rcases HOWN.out.2 with ⟨e, _⟩ | ⟨g', cap, cur, e, _, hgb, _⟩
    · exact .inl (by rw [e]; rfl)
    · refine .inr (fun e2 => ?_)
      rw [e] at e2
      have : g' = D := by simpa [Value.ownBlock] using e2
      rw [this] at hgb
      rw [hgb] at hK
      cases hK
  case stop =>
    rintro D c pre W _ _ h _
    exact h.elim
end
end Go.Proofs.YtdgkhjgnjfgnlaaGreat
