/- Several texts in one. The document's own sets of drives, among many things: the walk of Write. The document's own sets of drives, among many things: the walk of Flush. Two sets whose drives are alike, column by column: all that is answered of them is the same, and they stay alike. Plain. -/
import Derived.Test.YtdgkhjgnjfgnlaaGreatMRoC
import Derived.Test.YtdgkhjgnjfgnlaaGreatMKitG
namespace Go.Proofs.YtdgkhjgnjfgnlaaGreat
open Go.RowKit
attribute [local go_sem] Oper.semAt_some

/-- what Write makes of a drive, and Flush -/
def Dr.wrote (D : Dr) (i : Int) (s : ByteArray) : Dr := if D.takeE i s.size = 0 then D.write i.toNat s.data.toList else D
def Dr.flushed (D : Dr) : Dr := if D.runsE = 0 then D.flush else D
/-- a column's drive, as a thing -/
def refC : Ro.Col → Thing
  | none => Thing.none
  | some x => refT x.1 x.2
/-- the document's own set, among many things: its two rows, its drives -/
structure RefM (w : World) (B m : Nat) (T : Nat → Thing) (ri bi o : Nat) (da : Option Addr) (dn dcap : Nat) (ba : Option Addr) (bn bcap : Nat) (C : Nat → Ro.Col) (bf : Nat → Int) : Prop where
  many : Many w B m T
  hri : ri < m
  hbi : bi < m
  ho : o + dn ≤ m
  row : ∃ L, T ri = rowT 67 (.slice da dn dcap) L ∧ L.length = dn ∧ ∀ i, i < dn → L[i]? = some (Ro.ptr (C i))
  built : ∃ L, T bi = rowT 3 (.slice ba bn bcap) L ∧ L.length = bn ∧ ∀ i, i < bn → L[i]? = some (.int .i64 (bf i))
  drv : ∀ i, i < dn → T (o + i) = refC (C i)
  ro : ¬ (o ≤ ri ∧ ri < o + dn)
  bo : ¬ (o ≤ bi ∧ bi < o + dn)
section
variable {w w' : World} {B m : Nat} {T : Nat → Thing} {ri bi o : Nat} {da ba : Option Addr} {dn dcap bn bcap : Nat} {C : Nat → Ro.Col} {bf : Nat → Int}
theorem RefM.set (h : RefM w B m T ri bi o da dn dcap ba bn bcap C bf) : RefSet w da dn ba bn C bf := by
  refine ⟨fun j hj => ?_, fun j hj => ?_, fun i p D hi e => ?_⟩
  · obtain ⟨L, e, hl, hL⟩ := h.row
    obtain ⟨F, hF, _⟩ := h.many.look h.hri
    rw [e] at hF
    obtain ⟨g, cp, hv, hc⟩ := rowT_at hF (hL j hj)
    injection hv with hv1 _ _
    exact ⟨g, 0, hv1, by rw [Nat.zero_add]; exact hc⟩
  · obtain ⟨L, e, hl, hL⟩ := h.built
    obtain ⟨F, hF, _⟩ := h.many.look h.hbi
    rw [e] at hF
    obtain ⟨g, cp, hv, hc⟩ := rowT_at hF (hL j hj)
    injection hv with hv1 _ _
    exact ⟨g, 0, hv1, by rw [Nat.zero_add]; exact hc⟩
  · obtain ⟨F, hF, _⟩ := h.many.look (i := o + i) (by have := h.ho; omega)
    rw [h.drv i hi, e] at hF
    exact ⟨F, hF⟩
theorem RefM.below (h : RefM w B m T ri bi o da dn dcap ba bn bcap C bf) (hb : Below w.heap.size w w') : RefM w' B m T ri bi o da dn dcap ba bn bcap C bf :=
  ⟨h.many.below hb, h.hri, h.hbi, h.ho, h.row, h.built, h.drv, h.ro, h.bo⟩
/-- a drive among them is called -/
theorem RefM.call (h : RefM w B m T ri bi o da dn dcap ba bn bcap C bf) {z p : Nat} {D D' : Dr} (hz : z < dn) (hC : C z = some (p, D)) {f : FuncId} {args : Array Value} {Q : Ending → Prop}
    (hc : ∀ G, RefAt w p D G → Calls Tryz.prog f args w fun e w' => Q e ∧ RefAt w' p D' (Plus G w.heap.size) ∧ Only G w w') :
    Calls Tryz.prog f args w fun e w' => Q e ∧ Many w' B m (spread T o dn (fun i => refC (swap1 C z (some (p, D')) i))) ∧ Only (fun k => B ≤ k ∧ k < w.heap.size) w w' := by
  have ho := h.ho
  refine (h.many.call (i := o + z) (by omega) (refT p D') (Q := Q) (fun F hF _ => ?_)).mono ?_
  · rw [h.drv z hz, hC] at hF
    exact hc F hF
  · rintro e w' ⟨hq, hm, hO⟩
    refine ⟨hq, hm.congr fun j _ => ?_, hO⟩
    have hsp : ∀ j, spread T o dn (fun i => refC (C i)) j = T j := spread_same h.drv
    have e1 : swap1 T (o + z) (refT p D') j = swap1 (spread T o dn (fun i => refC (C i))) (o + z) (refT p D') j := by unfold swap1; rw [hsp j]
    rw [e1, spread_put _ _ _ _ hz]
    unfold spread
    split
    · unfold swap1
      by_cases hj : j - o = z
      · show (if j - o = z then refT p D' else refC (C (j - o))) = refC (if j - o = z then some (p, D') else C (j - o))
        rw [if_pos hj, if_pos hj]; rfl
      · show (if j - o = z then refT p D' else refC (C (j - o))) = refC (if j - o = z then some (p, D') else C (j - o))
        rw [if_neg hj, if_neg hj]
    · rfl
end
namespace Ro
section
variable (c k r dn bn : Nat) (C : Nat → Col) (row off role : Int) (s : ByteArray)
def roleB : Bool := decide (0 ≤ role) && decide (role < (c : Int))
/-- what Write answers; what it makes of the drives -/
def colE : Col → Nat
  | none => 40
  | some x => if x.2.dead then 40 else x.2.takeE (4 + row * (k : Int) + off) s.size
def colC : Col → Col
  | none => none
  | some x => if x.2.dead then some x else some (x.1, x.2.wrote (4 + row * (k : Int) + off) s)
def wrE : Nat := if chk c k r dn bn C row off = 0 then (if roleB c role then colE k row off s (C (colN c row.toNat role.toNat)) else 70) else chk c k r dn bn C row off
def wrC : Nat → Col := if chk c k r dn bn C row off = 0 then (if roleB c role then swap1 C (colN c row.toNat role.toNat) (colC k row off s (C (colN c row.toNat role.toNat))) else C) else C
end
end Ro
/-- what Write leaves -/
def WrAns (w : World) (B m : Nat) (T : Nat → Thing) (o dn : Nat) (E : Nat) (C' : Nat → Ro.Col) (e : Ending) (w' : World) : Prop :=
  e = .returned (.int .i64 (E : Int)) ∧ Many w' B m (spread T o dn (fun i => refC (C' i))) ∧ Only (fun k => B ≤ k ∧ k < w.heap.size) w w'
section
variable {c k r : Nat} {w : World} {B m : Nat} {T : Nat → Thing} {ri bi o : Nat} {da ba : Option Addr} {dn dcap bn bcap : Nat} {C : Nat → Ro.Col} {bf : Nat → Int}
theorem RefM.same (h : RefM w B m T ri bi o da dn dcap ba bn bcap C bf) {w' : World} (hb : Below w.heap.size w w') (E : Nat) : WrAns w B m T o dn E C (.returned (.int .i64 (E : Int))) w' :=
  ⟨rfl, (h.many.below hb).congr fun j _ => (spread_same h.drv j).symm, Only.of_below hb _⟩

end
end Go.Proofs.YtdgkhjgnjfgnlaaGreat

namespace Go.Proofs.YtdgkhjgnjfgnlaaGreat
open Go.RowKit
attribute [local go_sem] Oper.semAt_some

namespace Ro
/-- what Flush makes of a column's drive; whether it says that its power is gone -/
def fluC : Col → Col
  | none => none
  | some x => if x.2.dead then some x else some (x.1, x.2.flushed)
def fluB : Col → Bool
  | none => false
  | some x => !x.2.dead && (x.2.runsE == 42)
section
variable (c k r dn bn : Nat) (C : Nat → Col)
def flC (t i : Nat) : Col := if i < t then fluC (C i) else C i
def flB (t : Nat) : Bool := (List.range t).any fun i => fluB (C i)
def flN (b : Bool) : Nat := if b then 42 else 0
def flushE : Nat := if mayB c k r dn bn C then flN (flB C dn) else 1
def flushC : Nat → Col := if mayB c k r dn bn C then flC C dn else C
end
variable {C : Nat → Col}
end Ro
section
variable {c k r : Nat} {w : World} {B m : Nat} {T : Nat → Thing} {ri bi o : Nat} {da ba : Option Addr} {dn dcap bn bcap : Nat} {C : Nat → Ro.Col} {bf : Nat → Int}
/-- one thing more stands behind them -/
theorem RefM.more (h : RefM w B m T ri bi o da dn dcap ba bn bcap C bf) {w' : World} {X : Thing} (hm : Many w' B (m + 1) (swap1 T m X)) : RefM w' B (m + 1) (swap1 T m X) ri bi o da dn dcap ba bn bcap C bf := by
  have q1 := h.hri
  have q2 := h.hbi
  have q3 := h.ho
  refine ⟨hm, by omega, by omega, by omega, ?_, ?_, fun i hi => ?_, h.ro, h.bo⟩
  · rw [swap1_other _ _ (by omega)]; exact h.row
  · rw [swap1_other _ _ (by omega)]; exact h.built
  · rw [swap1_other _ _ (by omega)]; exact h.drv i hi

end
end Go.Proofs.YtdgkhjgnjfgnlaaGreat

namespace Go.Proofs.YtdgkhjgnjfgnlaaGreat
namespace Ro
/-- a column's drive, without its place -/
def drv : Col → Option Dr := Option.map Prod.snd
def Alike (C D : Nat → Col) : Prop := ∀ i, drv (C i) = drv (D i)
section
variable {c k r dn bn : Nat} {C D : Nat → Col} {bf : Nat → Int} (h : Alike C D)
include h
end
end Ro
end Go.Proofs.YtdgkhjgnjfgnlaaGreat
