import Derived.Test.YtdgkhjgnjfgnlaaGreatMRoE
import Derived.Test.YtdgkhjgnjfgnlaaGreatMRoF
import Derived.Test.YtdgkhjgnjfgnlaaGreatMRoD
import Derived.BigQuiet
import Derived.Test.YtdgkhjgnjfgnlaaGreatRoShown
import Derived.Test.YtdgkhjgnjfgnlaaGreatMKitD
namespace Go.Proofs.YtdgkhjgnjfgnlaaGreat
open Go.RowKit
theorem ptr16 (x : Ro.Col) : ∃ p, Ro.ptr x = .pointer p := by
 cases x with
 | none => exact ⟨_, rfl⟩
 | some x => exact ⟨_, rfl⟩
end Go.Proofs.YtdgkhjgnjfgnlaaGreat
namespace Go.Proofs.YtdgkhjgnjfgnlaaGreat
open Go.RowKit
end Go.Proofs.YtdgkhjgnjfgnlaaGreat
namespace Go.Proofs.YtdgkhjgnjfgnlaaGreat
open Go.RowKit
attribute [local go_sem] Oper.semAt_some
theorem St16.less {w : World} {B c : Nat} {vP vQ vR vS : Value} {C D : Nat → Ro.Col} {f g : Nat → Int} {l m : List Thing} (h : St16 w B c vP vQ vR vS C D f g (l ++ m)) : St16 w B c vP vQ vR vS C D f g l := by
 have h1 := Many.less (n := 4 + 2 * c + l.length) h (by rw [List.length_append]; omega)
 refine Many.congr h1 fun q hq => ?_
 unfold withL
 by_cases hl : q < 4 + 2 * c
 ·rw [if_pos hl, if_pos hl]
 ·rw [if_neg hl, if_neg hl, List.getD_eq_getElem?_getD, List.getD_eq_getElem?_getD, List.getElem?_append_left (by omega)]
theorem three_at {α : Type} (l : List α) (x y z : α) : (l ++ [x, y, z])[l.length]? = some x ∧ (l ++ [x, y, z])[l.length + 1]? = some y ∧ (l ++ [x, y, z])[l.length + 2]? = some z := by
 refine ⟨?_, ?_, ?_⟩ <;> rw [List.getElem?_append_right (by omega)]
 ·rw [Nat.sub_self]; rfl
 ·rw [Nat.add_sub_cancel_left]; rfl
 ·rw [Nat.add_sub_cancel_left]; rfl
theorem St16.three {w : World} {B c : Nat} {vP vQ vR vS : Value} {C D : Nat → Ro.Col} {f g : Nat → Int} {l : List Thing} (h : St16 w B c vP vQ vR vS C D f g l) (t1 t2 t3 : TypeId) (c1 c2 c3 : Array Value) :
  St16 (((w.alloc (.cells c1 t1)).alloc (.cells c2 t2)).alloc (.cells c3 t3)) B c vP vQ vR vS C D f g (l ++ [blkT w.heap.size t1 c1, blkT (w.heap.size + 1) t2 c2, blkT (w.heap.size + 1 + 1) t3 c3]) := by
 have h3 := ((h.box t1 c1).box t2 c2).box t3 c3
 rw [World.size_alloc, World.size_alloc, World.size_alloc, List.append_assoc, List.append_assoc] at h3
 exact h3
theorem swap_ptr16 {C : Nat → Ro.Col} {z p : Nat} {E E' : Dr} (hC : C z = some (p, E)) (i : Nat) : Ro.ptr (swap1 C z (some (p, E')) i) = Ro.ptr (C i) := by
 unfold swap1
 split
 ·rename_i hi; rw [hi, hC]; rfl
 ·rfl
section
variable {w : World} {B c k r : Nat} {aP cP aQ cQ aR cR aS cS : Nat} {C D : Nat → Ro.Col} {f g : Nat → Int} {l : List Thing}
theorem St16.prDrive (h : St16 w B c (.slice (some ⟨aP, 0, none⟩) c cP) (.slice (some ⟨aQ, 0, none⟩) c cQ) (.slice (some ⟨aR, 0, none⟩) c cR) (.slice (some ⟨aS, 0, none⟩) c cS) C D f g l) {z p : Nat} {E E' : Dr} (hz : z < c) (hC : C z = some (p, E)) {fn : FuncId} {args : Array Value} {Q : Ending → Prop}
  (hc : ∀ G, DriveAt w p E G → Calls Tryz.prog fn args w fun e w' => Q e ∧ DriveAt w' p E' (Plus G w.heap.size) ∧ Only G w w') :
  Calls Tryz.prog fn args w fun e w' => Q e ∧ St16 w' B c (.slice (some ⟨aP, 0, none⟩) c cP) (.slice (some ⟨aQ, 0, none⟩) c cQ) (.slice (some ⟨aR, 0, none⟩) c cR) (.slice (some ⟨aS, 0, none⟩) c cS) (swap1 C z (some (p, E'))) D f g l ∧ Below B w w' := by
 refine (h.pr.call hz hC hc).mono ?_
 rintro e w' ⟨hq, hmany, ho⟩
 exact ⟨hq, St16.turnP (swap_ptr16 hC) hmany, ho.below (fun _ hk => hk.1) h.size⟩
theorem St16.refDrive (h : St16 w B c (.slice (some ⟨aP, 0, none⟩) c cP) (.slice (some ⟨aQ, 0, none⟩) c cQ) (.slice (some ⟨aR, 0, none⟩) c cR) (.slice (some ⟨aS, 0, none⟩) c cS) C D f g l) {z p : Nat} {E E' : Dr} (hz : z < c) (hD : D z = some (p, E)) {fn : FuncId} {args : Array Value} {Q : Ending → Prop}
  (hc : ∀ G, RefAt w p E G → Calls Tryz.prog fn args w fun e w' => Q e ∧ RefAt w' p E' (Plus G w.heap.size) ∧ Only G w w') :
  Calls Tryz.prog fn args w fun e w' => Q e ∧ St16 w' B c (.slice (some ⟨aP, 0, none⟩) c cP) (.slice (some ⟨aQ, 0, none⟩) c cQ) (.slice (some ⟨aR, 0, none⟩) c cR) (.slice (some ⟨aS, 0, none⟩) c cS) C (swap1 D z (some (p, E'))) f g l ∧ Below B w w' := by
 refine (h.ref.call hz hD hc).mono ?_
 rintro e w' ⟨hq, hmany, ho⟩
 exact ⟨hq, St16.turnR (swap_ptr16 hD) hmany, ho.below (fun _ hk => hk.1) h.size⟩
theorem St16.refGone (h : St16 w B c (.slice (some ⟨aP, 0, none⟩) c cP) (.slice (some ⟨aQ, 0, none⟩) c cQ) (.slice (some ⟨aR, 0, none⟩) c cR) (.slice (some ⟨aS, 0, none⟩) c cS) C D f g l) {z p : Nat} {E : Dr} (hz : z < c) (hD : D z = some (p, E)) :
  St16 (w.setCell ⟨p, 3, none⟩ (.bool true)) B c (.slice (some ⟨aP, 0, none⟩) c cP) (.slice (some ⟨aQ, 0, none⟩) c cQ) (.slice (some ⟨aR, 0, none⟩) c cR) (.slice (some ⟨aS, 0, none⟩) c cS) C (swap1 D z (some (p, E.die))) f g l ∧ Below B w (w.setCell ⟨p, 3, none⟩ (.bool true)) := by
 have hR := h.ref
 obtain ⟨F, h1, h2, h3, h4⟩ := hR.many
 have hz2 : 4 + c + z < 4 + 2 * c + l.length := by omega
 have hF := h1 _ hz2
 rw [hR.drv z hz, hD] at hF
 obtain ⟨g1, g2⟩ := RefAt.gone hF
 obtain ⟨m1, m2⟩ := Many.turned hz2 h1 h2 h3 h4 (T' := refT p E.die) (RefAt.mono g1 fun _ hk => .inl hk) g2
 refine ⟨St16.turnR (swap_ptr16 hD) (m1.congr fun j _ => ?_), m2.below (fun _ hk => hk.1) h.size⟩
 have hsp := spread_same hR.drv
 have e1 : swap1 (withL (two16 c c c c c (.slice (some ⟨aP, 0, none⟩) c cP) (.slice (some ⟨aQ, 0, none⟩) c cQ) (.slice (some ⟨aR, 0, none⟩) c cR) (.slice (some ⟨aS, 0, none⟩) c cS) C D f g) (4 + 2 * c) l) (4 + c + z) (refT p E.die) j = swap1 (spread (withL (two16 c c c c c (.slice (some ⟨aP, 0, none⟩) c cP) (.slice (some ⟨aQ, 0, none⟩) c cQ) (.slice (some ⟨aR, 0, none⟩) c cR) (.slice (some ⟨aS, 0, none⟩) c cS) C D f g) (4 + 2 * c) l) (4 + c) c (fun i => refC (D i))) (4 + c + z) (refT p E.die) j := by unfold swap1; rw [hsp j]
 rw [e1, spread_put _ _ _ _ hz]
 unfold spread
 split
 ·unfold swap1
  by_cases hj : j - (4 + c) = z
  ·show (if j - (4 + c) = z then refT p E.die else refC (D (j - (4 + c)))) = refC (if j - (4 + c) = z then some (p, E.die) else D (j - (4 + c)))
   rw [if_pos hj, if_pos hj]; rfl
  ·show (if j - (4 + c) = z then refT p E.die else refC (D (j - (4 + c)))) = refC (if j - (4 + c) = z then some (p, E.die) else D (j - (4 + c)))
   rw [if_neg hj, if_neg hj]
 ·rfl
theorem St16.refWrite (h : St16 w B c (.slice (some ⟨aP, 0, none⟩) c cP) (.slice (some ⟨aQ, 0, none⟩) c cQ) (.slice (some ⟨aR, 0, none⟩) c cR) (.slice (some ⟨aS, 0, none⟩) c cS) C D f g l) (hok : Lay.ok (c : Int) (k : Int) (r : Int)) {m : Nat} (hf : Few16 D m) (hm : m ≤ 1000000) (row off role : Int) (s : ByteArray) :
  Calls Tryz.prog 34 #[.agg #[.int .i64 (c : Int), .int .i64 (k : Int), .int .i64 (r : Int), .slice (some ⟨aR, 0, none⟩) c cR, .slice (some ⟨aS, 0, none⟩) c cS], .int .i64 row, .int .i64 off, .int .i64 role, .string s] w fun e w' => e = .returned (.int .i64 (Ro.wrE c k r c c D row off role s : Nat)) ∧ St16 w' B c (.slice (some ⟨aP, 0, none⟩) c cP) (.slice (some ⟨aQ, 0, none⟩) c cQ) (.slice (some ⟨aR, 0, none⟩) c cR) (.slice (some ⟨aS, 0, none⟩) c cS) C (Ro.wrC c k r c c D row off role s) f g l ∧ Below B w w' := by
 have hc10 : c ≤ 10 := by have := hok.1; omega
 refine (rWrite16_any h.ref hok (by omega) (fun i x e j => Nat.le_trans (hf i x e j) hm) row off role s).mono ?_
 rintro e w' ⟨rfl, hmany, ho⟩
 exact ⟨rfl, St16.turnR (fun i => Ro.wrC_ptr c k r c c D row off role s i) hmany, ho.below (fun _ hk => hk.1) h.size⟩
theorem St16.refFlush (h : St16 w B c (.slice (some ⟨aP, 0, none⟩) c cP) (.slice (some ⟨aQ, 0, none⟩) c cQ) (.slice (some ⟨aR, 0, none⟩) c cR) (.slice (some ⟨aS, 0, none⟩) c cS) C D f g l) (hok : Lay.ok (c : Int) (k : Int) (r : Int)) {m : Nat} (hf : Few16 D m) (hm : m ≤ 1000000) :
  Calls Tryz.prog 38 #[.agg #[.int .i64 (c : Int), .int .i64 (k : Int), .int .i64 (r : Int), .slice (some ⟨aR, 0, none⟩) c cR, .slice (some ⟨aS, 0, none⟩) c cS]] w fun e w' => e = .returned (.int .i64 (Ro.flushE c k r c c D : Nat)) ∧ St16 w' B c (.slice (some ⟨aP, 0, none⟩) c cP) (.slice (some ⟨aQ, 0, none⟩) c cQ) (.slice (some ⟨aR, 0, none⟩) c cR) (.slice (some ⟨aS, 0, none⟩) c cS) C (Ro.flushC c k r c c D) f g l ∧ Below B w w' := by
 have hc10 : c ≤ 10 := by have := hok.1; omega
 refine (rFlush16_any h.ref hok (by omega) (fun i x e j => Nat.le_trans (hf i x e j) hm)).mono ?_
 rintro e w' ⟨rfl, hmany, ho⟩
 exact ⟨rfl, St16.turnR (fun i => Ro.flushC_ptr c k r c c D i) hmany, ho.below (fun _ hk => hk.1) h.size⟩
theorem St16.cellQ (h : St16 w B c (.slice (some ⟨aP, 0, none⟩) c cP) (.slice (some ⟨aQ, 0, none⟩) c cQ) (.slice (some ⟨aR, 0, none⟩) c cR) (.slice (some ⟨aS, 0, none⟩) c cS) C D f g l) {j : Nat} (hj : j < c) : w.cell? ⟨aQ, j, none⟩ = some (.int .i64 (f j)) := by
 rw [(two16_own1 h.out rfl).cellAt j (by omega)]; exact ints16_at _ hj
theorem St16.cellR (h : St16 w B c (.slice (some ⟨aP, 0, none⟩) c cP) (.slice (some ⟨aQ, 0, none⟩) c cQ) (.slice (some ⟨aR, 0, none⟩) c cR) (.slice (some ⟨aS, 0, none⟩) c cS) C D f g l) {j : Nat} (hj : j < c) : w.cell? ⟨aR, j, none⟩ = some (Ro.ptr (D j)) := by
 rw [(two16_own2 h.out rfl).cellAt j (by omega)]; exact ptrs16_at _ hj
theorem St16.cellS (h : St16 w B c (.slice (some ⟨aP, 0, none⟩) c cP) (.slice (some ⟨aQ, 0, none⟩) c cQ) (.slice (some ⟨aR, 0, none⟩) c cR) (.slice (some ⟨aS, 0, none⟩) c cS) C D f g l) {j : Nat} (hj : j < c) : w.cell? ⟨aS, j, none⟩ = some (.int .i64 (g j)) := by
 rw [(two16_own3 h.out rfl).cellAt j (by omega)]; exact ints16_at _ hj
end
def spD (E : Dr) (i : Int) : Dr := if E.reachE i = 0 then E.spoil i.toNat else E
theorem prSpoil16 {w : World} {p : Nat} {E : Dr} {G : Nat → Prop} (h : DriveAt w p E G) (i : Int) :
  Calls Tryz.prog 28 #[.pointer (some ⟨p, 0, none⟩), .int .i64 i] w fun e w' => e = .returned (.int .i64 (E.reachE i : Nat)) ∧ DriveAt w' p (spD E i) (Plus G w.heap.size) ∧ Only G w w' := by
 unfold spD
 by_cases hr : E.reachE i = 0
 ·rw [if_pos hr, hr]
  have hr2 : E.runsE = 0 ∧ E.hasB i = true := by
   unfold Dr.reachE at hr
   by_cases h1 : E.runsE = 0
   ·rw [if_pos h1] at hr
    refine ⟨h1, ?_⟩
    cases hb : E.hasB i with
    | true => rfl
    | false => rw [hb] at hr; exact absurd hr (by decide)
   ·rw [if_neg h1] at hr; exact absurd hr h1
  have hb := hr2.2
  unfold Dr.hasB at hb
  rw [Bool.and_eq_true, decide_eq_true_eq, decide_eq_true_eq] at hb
  obtain ⟨N, rfl⟩ : ∃ N : Nat, i = (N : Int) := ⟨i.toNat, by omega⟩
  rw [Int.toNat_natCast]
  refine (spoil_yes h N hr2.1 (by omega)).mono ?_
  rintro e w' ⟨rfl, h1, h2⟩
  exact ⟨rfl, h1.mono fun _ hk => .inl hk, h2⟩
 ·rw [if_neg hr]
  refine (spoil_no h i hr).mono ?_
  rintro e w' ⟨rfl, rfl⟩
  exact ⟨rfl, h.mono fun _ hk => .inl hk, Only.refl _ _⟩
theorem refSpoil16 {w : World} {p : Nat} {E : Dr} {G : Nat → Prop} (h : RefAt w p E G) (i : Int) :
  Calls Tryz.prog 35 #[.pointer (some ⟨p, 0, none⟩), .int .i64 i] w fun e w' => e = .returned (.int .i64 (E.reachE i : Nat)) ∧ RefAt w' p (spD E i) (Plus G w.heap.size) ∧ Only G w w' := by
 unfold spD
 by_cases hr : E.reachE i = 0
 ·rw [if_pos hr, hr]
  have hr2 : E.runsE = 0 ∧ E.hasB i = true := by
   unfold Dr.reachE at hr
   by_cases h1 : E.runsE = 0
   ·rw [if_pos h1] at hr
    refine ⟨h1, ?_⟩
    cases hb : E.hasB i with
    | true => rfl
    | false => rw [hb] at hr; exact absurd hr (by decide)
   ·rw [if_neg h1] at hr; exact absurd hr h1
  have hb := hr2.2
  unfold Dr.hasB at hb
  rw [Bool.and_eq_true, decide_eq_true_eq, decide_eq_true_eq] at hb
  obtain ⟨N, rfl⟩ : ∃ N : Nat, i = (N : Int) := ⟨i.toNat, by omega⟩
  rw [Int.toNat_natCast]
  refine (pSpoil_yes h N (by omega) hr).mono ?_
  rintro e w' ⟨rfl, h1, h2⟩
  exact ⟨rfl, RefAt.mono h1 fun _ hk => .inl hk, h2⟩
 ·rw [if_neg hr]
  refine (pSpoil_no h i hr).mono ?_
  rintro e w' ⟨rfl, rfl⟩
  exact ⟨rfl, RefAt.mono h fun _ hk => .inl hk, Only.refl _ _⟩
theorem Few16.swap {C : Nat → Ro.Col} {n z p : Nat} {E : Dr} (h : Few16 C n) (hE : ∀ j, (E.writes j).length ≤ n) : Few16 (swap1 C z (some (p, E))) n := fun i x e j => by
 unfold swap1 at e
 split at e
 ·injection e with e
  rw [← e]
  exact hE j
 ·exact h i x e j
theorem Few16.swapNone {C : Nat → Ro.Col} {n z : Nat} (h : Few16 C n) : Few16 (swap1 C z none) n := fun i x e j => by
 unfold swap1 at e
 split at e
 ·cases e
 ·exact h i x e j
theorem spD_few {E : Dr} {n : Nat} (h : ∀ j, (E.writes j).length ≤ n) (i : Int) (j : Nat) : ((spD E i).writes j).length ≤ n := by
 unfold spD
 split
 ·exact h j
 ·exact h j
def DoesSt (w : World) (B c : Nat) (vP vQ vR vS : Value) (l : List Thing) (n : Nat) (e : Ending) (w' : World) : Prop :=
 ∃ C D f, e = .returned (.bool true) ∧ St16 w' B c vP vQ vR vS C D f f l ∧ Ro.Alike C D ∧ Few16 C n ∧ Few16 D n ∧ Below B w w'
def L3 (b c k r aP cP aQ cQ aR cR aS cS : Nat) (kd row off role : Int) (col : Nat) (s : ByteArray) (l : List Thing) : List Thing := l ++ [blkT b 30 #[.int .i64 (c : Int), .int .i64 (k : Int), .int .i64 (r : Int), .slice (some ⟨aP, 0, none⟩) c cP, .slice (some ⟨aQ, 0, none⟩) c cQ], blkT (b + 1) 33 #[.int .i64 (c : Int), .int .i64 (k : Int), .int .i64 (r : Int), .slice (some ⟨aR, 0, none⟩) c cR, .slice (some ⟨aS, 0, none⟩) c cS], blkT (b + 1 + 1) 38 #[.int .i64 kd, .int .i64 row, .int .i64 off, .int .i64 role, .int .u8 (col : Int), .string s]]
def ST (V : World) (B c aP cP aQ cQ aR cR aS cS : Nat) (C D : Nat → Ro.Col) (f : Nat → Int) (l : List Thing) : Prop := St16 V B c (.slice (some ⟨aP, 0, none⟩) c cP) (.slice (some ⟨aQ, 0, none⟩) c cQ) (.slice (some ⟨aR, 0, none⟩) c cR) (.slice (some ⟨aS, 0, none⟩) c cS) C D f f l
theorem s16 {w V : World} {B c k r aP cP aQ cQ aR cR aS cS : Nat} {C D : Nat → Ro.Col} {f : Nat → Int} {kd row off role : Int} {col : Nat} {s : ByteArray} {l : List Thing} (hV : ST V B c aP cP aQ cQ aR cR aS cS C D f (L3 w.heap.size c k r aP cP aQ cQ aR cR aS cS kd row off role col s l)) : V.cell? ⟨w.heap.size, 0, none⟩ = some (.int .i64 (c : Int)) ∧ V.cell? ⟨w.heap.size, 1, none⟩ = some (.int .i64 (k : Int)) ∧ V.cell? ⟨w.heap.size, 2, none⟩ = some (.int .i64 (r : Int)) ∧ V.cell? ⟨w.heap.size, 3, none⟩ = some (.slice (some ⟨aP, 0, none⟩) c cP) ∧ V.cell? ⟨w.heap.size, 4, none⟩ = some (.slice (some ⟨aQ, 0, none⟩) c cQ) ∧ V.cell? ⟨w.heap.size + 1, 0, none⟩ = some (.int .i64 (c : Int)) ∧ V.cell? ⟨w.heap.size + 1, 1, none⟩ = some (.int .i64 (k : Int)) ∧ V.cell? ⟨w.heap.size + 1, 2, none⟩ = some (.int .i64 (r : Int)) ∧ V.cell? ⟨w.heap.size + 1, 3, none⟩ = some (.slice (some ⟨aR, 0, none⟩) c cR) ∧ V.cell? ⟨w.heap.size + 1, 4, none⟩ = some (.slice (some ⟨aS, 0, none⟩) c cS) ∧ V.cell? ⟨w.heap.size + 1 + 1, 0, none⟩ = some (.int .i64 kd) ∧ V.cell? ⟨w.heap.size + 1 + 1, 1, none⟩ = some (.int .i64 row) ∧ V.cell? ⟨w.heap.size + 1 + 1, 2, none⟩ = some (.int .i64 off) ∧ V.cell? ⟨w.heap.size + 1 + 1, 3, none⟩ = some (.int .i64 role) ∧ V.cell? ⟨w.heap.size + 1 + 1, 4, none⟩ = some (.int .u8 (col : Int)) ∧ V.cell? ⟨w.heap.size + 1 + 1, 5, none⟩ = some (.string s) := by
 have hW : St16 V B c (.slice (some ⟨aP, 0, none⟩) c cP) (.slice (some ⟨aQ, 0, none⟩) c cQ) (.slice (some ⟨aR, 0, none⟩) c cR) (.slice (some ⟨aS, 0, none⟩) c cS) C D f f (L3 w.heap.size c k r aP cP aQ cQ aR cR aS cS kd row off role col s l) := hV
 obtain ⟨x0, x1, x2⟩ := three_at l (blkT w.heap.size 30 #[.int .i64 (c : Int), .int .i64 (k : Int), .int .i64 (r : Int), .slice (some ⟨aP, 0, none⟩) c cP, .slice (some ⟨aQ, 0, none⟩) c cQ]) (blkT (w.heap.size + 1) 33 #[.int .i64 (c : Int), .int .i64 (k : Int), .int .i64 (r : Int), .slice (some ⟨aR, 0, none⟩) c cR, .slice (some ⟨aS, 0, none⟩) c cS]) (blkT (w.heap.size + 1 + 1) 38 #[.int .i64 kd, .int .i64 row, .int .i64 off, .int .i64 role, .int .u8 (col : Int), .string s])
 exact ⟨hW.cell x0 0, hW.cell x0 1, hW.cell x0 2, hW.cell x0 3, hW.cell x0 4, hW.cell x1 0, hW.cell x1 1, hW.cell x1 2, hW.cell x1 3, hW.cell x1 4, hW.cell x2 0, hW.cell x2 1, hW.cell x2 2, hW.cell x2 3, hW.cell x2 4, hW.cell x2 5⟩
end Go.Proofs.YtdgkhjgnjfgnlaaGreat
namespace Go.Proofs.YtdgkhjgnjfgnlaaGreat
open Go.RowKit
attribute [local go_sem] Oper.semAt_some
set_option maxRecDepth 100000 in
set_option maxHeartbeats 16000000 in
theorem doesS_0 (w : World) (B c k r n : Nat) (hok : Lay.ok (c : Int) (k : Int) (r : Int)) {aP cP aQ cQ aR cR aS cS : Nat} {C D : Nat → Ro.Col} {f : Nat → Int} {l : List Thing} (h : St16 w B c (.slice (some ⟨aP, 0, none⟩) c cP) (.slice (some ⟨aQ, 0, none⟩) c cQ) (.slice (some ⟨aR, 0, none⟩) c cR) (.slice (some ⟨aS, 0, none⟩) c cS) C D f f l) (hal : Ro.Alike C D) (hfC : Few16 C n) (hfD : Few16 D n) (hn : n + 1 ≤ 1000000) (row off role : Int) (col : Nat) (hcol : col < 256) (s : ByteArray) (hs : s.size ≤ 100) : Calls Tryz.prog 11 #[.agg #[.int .i64 (c : Int), .int .i64 (k : Int), .int .i64 (r : Int), .slice (some ⟨aP, 0, none⟩) c cP, .slice (some ⟨aQ, 0, none⟩) c cQ], .agg #[.int .i64 (c : Int), .int .i64 (k : Int), .int .i64 (r : Int), .slice (some ⟨aR, 0, none⟩) c cR, .slice (some ⟨aS, 0, none⟩) c cS], .agg #[.int .i64 0, .int .i64 row, .int .i64 off, .int .i64 role, .int .u8 (col : Int), .string s]] w (DoesSt w B c (.slice (some ⟨aP, 0, none⟩) c cP) (.slice (some ⟨aQ, 0, none⟩) c cQ) (.slice (some ⟨aR, 0, none⟩) c cR) (.slice (some ⟨aS, 0, none⟩) c cS) l (n + 1)) := by
 obtain ⟨X, hX⟩ : ∃ X, Ro.fillB s = X := ⟨_, rfl⟩
 have HFU : Hid (∀ V, Calls Tryz.prog 24 #[.string s] V fun e w' => e = .returned (.string X) ∧ w' = V) := fun V => by rw [← hX]; exact full16_any _ hs V
 clear hX hs
 obtain ⟨E, hE⟩ : ∃ E, Ro.wrE c k r c c C row off role X = E := ⟨_, rfl⟩
 have hE2 : Ro.wrE c k r c c D row off role X = E := by rw [← Ro.wrE_al hal]; exact hE
 obtain ⟨C1, hC1⟩ : ∃ C1, Ro.wrC c k r c c C row off role X = C1 := ⟨_, rfl⟩
 obtain ⟨D1, hD1⟩ : ∃ D1, Ro.wrC c k r c c D row off role X = D1 := ⟨_, rfl⟩
 have HWR : Hid (∀ V, ST V B c aP cP aQ cQ aR cR aS cS C D f (L3 w.heap.size c k r aP cP aQ cQ aR cR aS cS 0 row off role col s l) → Calls Tryz.prog 27 #[.agg #[.int .i64 (c : Int), .int .i64 (k : Int), .int .i64 (r : Int), .slice (some ⟨aP, 0, none⟩) c cP, .slice (some ⟨aQ, 0, none⟩) c cQ], .int .i64 row, .int .i64 off, .int .i64 role, .string X] V fun e w' => e = .returned (.int .i64 (E : Int)) ∧ St16 w' B c (.slice (some ⟨aP, 0, none⟩) c cP) (.slice (some ⟨aQ, 0, none⟩) c cQ) (.slice (some ⟨aR, 0, none⟩) c cR) (.slice (some ⟨aS, 0, none⟩) c cS) C1 D f f (l ++ [blkT w.heap.size 30 #[.int .i64 (c : Int), .int .i64 (k : Int), .int .i64 (r : Int), .slice (some ⟨aP, 0, none⟩) c cP, .slice (some ⟨aQ, 0, none⟩) c cQ], blkT (w.heap.size + 1) 33 #[.int .i64 (c : Int), .int .i64 (k : Int), .int .i64 (r : Int), .slice (some ⟨aR, 0, none⟩) c cR, .slice (some ⟨aS, 0, none⟩) c cS], blkT (w.heap.size + 1 + 1) 38 #[.int .i64 0, .int .i64 row, .int .i64 off, .int .i64 role, .int .u8 (col : Int), .string s]]) ∧ Below B V w') := fun V hV => by
  have hx := hV.prWrite hok hfC (by omega) row off role X
  rw [hE, hC1] at hx; exact hx
 have HWS : Hid (∀ V, ST V B c aP cP aQ cQ aR cR aS cS C1 D f (L3 w.heap.size c k r aP cP aQ cQ aR cR aS cS 0 row off role col s l) → Calls Tryz.prog 34 #[.agg #[.int .i64 (c : Int), .int .i64 (k : Int), .int .i64 (r : Int), .slice (some ⟨aR, 0, none⟩) c cR, .slice (some ⟨aS, 0, none⟩) c cS], .int .i64 row, .int .i64 off, .int .i64 role, .string X] V fun e w' => e = .returned (.int .i64 (E : Int)) ∧ St16 w' B c (.slice (some ⟨aP, 0, none⟩) c cP) (.slice (some ⟨aQ, 0, none⟩) c cQ) (.slice (some ⟨aR, 0, none⟩) c cR) (.slice (some ⟨aS, 0, none⟩) c cS) C1 D1 f f (l ++ [blkT w.heap.size 30 #[.int .i64 (c : Int), .int .i64 (k : Int), .int .i64 (r : Int), .slice (some ⟨aP, 0, none⟩) c cP, .slice (some ⟨aQ, 0, none⟩) c cQ], blkT (w.heap.size + 1) 33 #[.int .i64 (c : Int), .int .i64 (k : Int), .int .i64 (r : Int), .slice (some ⟨aR, 0, none⟩) c cR, .slice (some ⟨aS, 0, none⟩) c cS], blkT (w.heap.size + 1 + 1) 38 #[.int .i64 0, .int .i64 row, .int .i64 off, .int .i64 role, .int .u8 (col : Int), .string s]]) ∧ Below B V w') := fun V hV => by
  have hx := hV.refWrite hok hfD (by omega) row off role X
  rw [hE2, hD1] at hx; exact hx
 have HEND : Hid (Ro.Alike C1 D1 ∧ Few16 C1 (n + 1) ∧ Few16 D1 (n + 1)) := ⟨by rw [← hC1, ← hD1]; exact Ro.wrC_al hal _ _ _ _, by rw [← hC1]; exact hfC.wrC c k r c c row off role X, by rw [← hD1]; exact hfD.wrC c k r c c row off role X⟩
 have VE : ((E : Int) == (E : Int)) = true := by simp
 clear hE hE2 hC1 hD1 hal hfC hfD
 have hc1 : 0 < c := by have := hok.1; omega
 obtain ⟨j, hj⟩ : ∃ j, col % c = j := ⟨_, rfl⟩
 have hjc : j < c := by rw [← hj]; exact Nat.mod_lt _ hc1
 have e1 : (col : Int).tmod (c : Int) = (j : Int) := by rw [Int.tmod_eq_emod_of_nonneg (by omega), ← Int.natCast_emod, hj]
 clear hj
 have n1 : (c : Int) ≠ 0 := by omega
 have i1 : (j : Int) < (c : Int) := by omega
 have hm := h.three 30 33 38 #[.int .i64 (c : Int), .int .i64 (k : Int), .int .i64 (r : Int), .slice (some ⟨aP, 0, none⟩) c cP, .slice (some ⟨aQ, 0, none⟩) c cQ] #[.int .i64 (c : Int), .int .i64 (k : Int), .int .i64 (r : Int), .slice (some ⟨aR, 0, none⟩) c cR, .slice (some ⟨aS, 0, none⟩) c cS] #[.int .i64 0, .int .i64 row, .int .i64 off, .int .i64 role, .int .u8 (col : Int), .string s]
 have hb3 : Below B w (((w.alloc (.cells #[.int .i64 (c : Int), .int .i64 (k : Int), .int .i64 (r : Int), .slice (some ⟨aP, 0, none⟩) c cP, .slice (some ⟨aQ, 0, none⟩) c cQ] 30)).alloc (.cells #[.int .i64 (c : Int), .int .i64 (k : Int), .int .i64 (r : Int), .slice (some ⟨aR, 0, none⟩) c cR, .slice (some ⟨aS, 0, none⟩) c cS] 33)).alloc (.cells #[.int .i64 0, .int .i64 row, .int .i64 off, .int .i64 role, .int .u8 (col : Int), .string s] 38)) := (((Below.refl B w).alloc h.size _).alloc (Nat.le_trans h.size (by simp)) _).alloc (Nat.le_trans h.size (by simp; omega)) _
 have HMX : Hid (Tryz.prog.follows .mixedOrders = true) := by show _ = _; kernel_rfl
 clear h
 go_enter Tryz.func11, Tryz.ntmps11
 go_upto_region 1 with fail
 generalize (((w.alloc (.cells #[.int .i64 (c : Int), .int .i64 (k : Int), .int .i64 (r : Int), .slice (some ⟨aP, 0, none⟩) c cP, .slice (some ⟨aQ, 0, none⟩) c cQ] 30)).alloc (.cells #[.int .i64 (c : Int), .int .i64 (k : Int), .int .i64 (r : Int), .slice (some ⟨aR, 0, none⟩) c cR, .slice (some ⟨aS, 0, none⟩) c cS] 33)).alloc (.cells #[.int .i64 0, .int .i64 row, .int .i64 off, .int .i64 role, .int .u8 (col : Int), .string s] 38)) = W at *
 have HM : Hid (ST W B c aP cP aQ cQ aR cR aS cS C D f (L3 w.heap.size c k r aP cP aQ cQ aR cR aS cS 0 row off role col s l)) := hm
 have HB : Hid (Below B w W) := hb3
 have hS := s16 HM.out
 obtain ⟨p0, p1, p2, p3, p4, q0, q1, q2, q3, q4, a0, a1, a2, a3, a4, a5⟩ := hS
 have k0 := hm.cellP hjc
 have k2 := hm.cellR hjc
 obtain ⟨pC, hpC⟩ := ptr16 (C j)
 obtain ⟨pD, hpD⟩ := ptr16 (D j)
 rw [hpC] at k0
 rw [hpD] at k2
 have lb0 : w.heap.size < W.heap.size := World.block_lt_of_cell? _ _ p0
 have lb1 : w.heap.size + 1 < W.heap.size := World.block_lt_of_cell? _ _ q0
 have lb2 : w.heap.size + 1 + 1 < W.heap.size := World.block_lt_of_cell? _ _ a0
 have lP : aP < W.heap.size := World.block_lt_of_cell? _ _ k0
 have lR : aR < W.heap.size := World.block_lt_of_cell? _ _ k2
 clear hm hb3
 clear hpC hpD
 go_upto_region 6 with fail
 have T0 : Hid (ST W.drew B c aP cP aQ cQ aR cR aS cS C D f (L3 w.heap.size c k r aP cP aQ cQ aR cR aS cS 0 row off role col s l)) := HM.out.below (Below.refl _ _).drew
 have hS0 := s16 T0.out
 clear k0 k2 p0 p1 p2 p3 p4 q0 q1 q2 q3 q4 a0 a1 a2 a3 a4 a5 lP lR
 go_region_held3 (fun V => V.cell? ⟨w.heap.size, 0, none⟩ = some (.int .i64 (c : Int)) ∧ V.cell? ⟨w.heap.size, 1, none⟩ = some (.int .i64 (k : Int)) ∧ V.cell? ⟨w.heap.size, 2, none⟩ = some (.int .i64 (r : Int)) ∧ V.cell? ⟨w.heap.size, 3, none⟩ = some (.slice (some ⟨aP, 0, none⟩) c cP) ∧ V.cell? ⟨w.heap.size, 4, none⟩ = some (.slice (some ⟨aQ, 0, none⟩) c cQ) ∧ V.cell? ⟨w.heap.size + 1, 0, none⟩ = some (.int .i64 (c : Int)) ∧ V.cell? ⟨w.heap.size + 1, 1, none⟩ = some (.int .i64 (k : Int)) ∧ V.cell? ⟨w.heap.size + 1, 2, none⟩ = some (.int .i64 (r : Int)) ∧ V.cell? ⟨w.heap.size + 1, 3, none⟩ = some (.slice (some ⟨aR, 0, none⟩) c cR) ∧ V.cell? ⟨w.heap.size + 1, 4, none⟩ = some (.slice (some ⟨aS, 0, none⟩) c cS) ∧ V.cell? ⟨w.heap.size + 1 + 1, 0, none⟩ = some (.int .i64 0) ∧ V.cell? ⟨w.heap.size + 1 + 1, 1, none⟩ = some (.int .i64 row) ∧ V.cell? ⟨w.heap.size + 1 + 1, 2, none⟩ = some (.int .i64 off) ∧ V.cell? ⟨w.heap.size + 1 + 1, 3, none⟩ = some (.int .i64 role) ∧ V.cell? ⟨w.heap.size + 1 + 1, 4, none⟩ = some (.int .u8 (col : Int)) ∧ V.cell? ⟨w.heap.size + 1 + 1, 5, none⟩ = some (.string s)) (first | exact hS0 | assumption) (first | (go_at_call 24; refine (HFU.out _).mono ?_; rintro e w3 ⟨rfl, h3⟩; have h3' := h3.symm; subst h3'; clear h3) | (go_at_call 27; refine (HWR.out _ T0.out).mono ?_; rintro e w4 ⟨rfl, ht4, hb4⟩; have T4 : Hid (ST w4 B c aP cP aQ cQ aR cR aS cS C1 D f (L3 w.heap.size c k r aP cP aQ cQ aR cR aS cS 0 row off role col s l)) := ht4; have hs4 := s16 ht4; have B4 : Hid (Below B w w4) := HB.out.trans ((Below.refl B W).drew.trans hb4); clear ht4 hb4) | (go_at_call 34; refine (HWS.out _ T4.out).mono ?_; rintro e w5 ⟨rfl, ht5, hb5⟩; have T5 : Hid (ST w5 B c aP cP aQ cQ aR cR aS cS C1 D1 f (L3 w.heap.size c k r aP cP aQ cQ aR cR aS cS 0 row off role col s l)) := ht5; have hs5 := s16 ht5; have B5 : Hid (Below B w w5) := B4.out.trans hb5; clear ht5 hb5))
 go_wp2
 go_ret
 exact ⟨C1, D1, f, rfl, T5.out.less, HEND.out.1, HEND.out.2.1, HEND.out.2.2, B5.out⟩
set_option maxRecDepth 100000 in
set_option maxHeartbeats 16000000 in
theorem doesS_1 (w : World) (B c k r n : Nat) (hok : Lay.ok (c : Int) (k : Int) (r : Int)) {aP cP aQ cQ aR cR aS cS : Nat} {C D : Nat → Ro.Col} {f : Nat → Int} {l : List Thing} (h : St16 w B c (.slice (some ⟨aP, 0, none⟩) c cP) (.slice (some ⟨aQ, 0, none⟩) c cQ) (.slice (some ⟨aR, 0, none⟩) c cR) (.slice (some ⟨aS, 0, none⟩) c cS) C D f f l) (hal : Ro.Alike C D) (hfC : Few16 C n) (hfD : Few16 D n) (hn : n + 1 ≤ 1000000) (row off role : Int) (col : Nat) (hcol : col < 256) (s : ByteArray) : Calls Tryz.prog 11 #[.agg #[.int .i64 (c : Int), .int .i64 (k : Int), .int .i64 (r : Int), .slice (some ⟨aP, 0, none⟩) c cP, .slice (some ⟨aQ, 0, none⟩) c cQ], .agg #[.int .i64 (c : Int), .int .i64 (k : Int), .int .i64 (r : Int), .slice (some ⟨aR, 0, none⟩) c cR, .slice (some ⟨aS, 0, none⟩) c cS], .agg #[.int .i64 1, .int .i64 row, .int .i64 off, .int .i64 role, .int .u8 (col : Int), .string s]] w (DoesSt w B c (.slice (some ⟨aP, 0, none⟩) c cP) (.slice (some ⟨aQ, 0, none⟩) c cQ) (.slice (some ⟨aR, 0, none⟩) c cR) (.slice (some ⟨aS, 0, none⟩) c cS) l (n + 1)) := by
 obtain ⟨E, hE⟩ : ∃ E, Ro.wrE c k r c c C row off role s = E := ⟨_, rfl⟩
 have hE2 : Ro.wrE c k r c c D row off role s = E := by rw [← Ro.wrE_al hal]; exact hE
 obtain ⟨C1, hC1⟩ : ∃ C1, Ro.wrC c k r c c C row off role s = C1 := ⟨_, rfl⟩
 obtain ⟨D1, hD1⟩ : ∃ D1, Ro.wrC c k r c c D row off role s = D1 := ⟨_, rfl⟩
 have HWR : Hid (∀ V, ST V B c aP cP aQ cQ aR cR aS cS C D f (L3 w.heap.size c k r aP cP aQ cQ aR cR aS cS 1 row off role col s l) → Calls Tryz.prog 27 #[.agg #[.int .i64 (c : Int), .int .i64 (k : Int), .int .i64 (r : Int), .slice (some ⟨aP, 0, none⟩) c cP, .slice (some ⟨aQ, 0, none⟩) c cQ], .int .i64 row, .int .i64 off, .int .i64 role, .string s] V fun e w' => e = .returned (.int .i64 (E : Int)) ∧ St16 w' B c (.slice (some ⟨aP, 0, none⟩) c cP) (.slice (some ⟨aQ, 0, none⟩) c cQ) (.slice (some ⟨aR, 0, none⟩) c cR) (.slice (some ⟨aS, 0, none⟩) c cS) C1 D f f (l ++ [blkT w.heap.size 30 #[.int .i64 (c : Int), .int .i64 (k : Int), .int .i64 (r : Int), .slice (some ⟨aP, 0, none⟩) c cP, .slice (some ⟨aQ, 0, none⟩) c cQ], blkT (w.heap.size + 1) 33 #[.int .i64 (c : Int), .int .i64 (k : Int), .int .i64 (r : Int), .slice (some ⟨aR, 0, none⟩) c cR, .slice (some ⟨aS, 0, none⟩) c cS], blkT (w.heap.size + 1 + 1) 38 #[.int .i64 1, .int .i64 row, .int .i64 off, .int .i64 role, .int .u8 (col : Int), .string s]]) ∧ Below B V w') := fun V hV => by
  have hx := hV.prWrite hok hfC (by omega) row off role s
  rw [hE, hC1] at hx; exact hx
 have HWS : Hid (∀ V, ST V B c aP cP aQ cQ aR cR aS cS C1 D f (L3 w.heap.size c k r aP cP aQ cQ aR cR aS cS 1 row off role col s l) → Calls Tryz.prog 34 #[.agg #[.int .i64 (c : Int), .int .i64 (k : Int), .int .i64 (r : Int), .slice (some ⟨aR, 0, none⟩) c cR, .slice (some ⟨aS, 0, none⟩) c cS], .int .i64 row, .int .i64 off, .int .i64 role, .string s] V fun e w' => e = .returned (.int .i64 (E : Int)) ∧ St16 w' B c (.slice (some ⟨aP, 0, none⟩) c cP) (.slice (some ⟨aQ, 0, none⟩) c cQ) (.slice (some ⟨aR, 0, none⟩) c cR) (.slice (some ⟨aS, 0, none⟩) c cS) C1 D1 f f (l ++ [blkT w.heap.size 30 #[.int .i64 (c : Int), .int .i64 (k : Int), .int .i64 (r : Int), .slice (some ⟨aP, 0, none⟩) c cP, .slice (some ⟨aQ, 0, none⟩) c cQ], blkT (w.heap.size + 1) 33 #[.int .i64 (c : Int), .int .i64 (k : Int), .int .i64 (r : Int), .slice (some ⟨aR, 0, none⟩) c cR, .slice (some ⟨aS, 0, none⟩) c cS], blkT (w.heap.size + 1 + 1) 38 #[.int .i64 1, .int .i64 row, .int .i64 off, .int .i64 role, .int .u8 (col : Int), .string s]]) ∧ Below B V w') := fun V hV => by
  have hx := hV.refWrite hok hfD (by omega) row off role s
  rw [hE2, hD1] at hx; exact hx
 have HEND : Hid (Ro.Alike C1 D1 ∧ Few16 C1 (n + 1) ∧ Few16 D1 (n + 1)) := ⟨by rw [← hC1, ← hD1]; exact Ro.wrC_al hal _ _ _ _, by rw [← hC1]; exact hfC.wrC c k r c c row off role s, by rw [← hD1]; exact hfD.wrC c k r c c row off role s⟩
 have VE : ((E : Int) == (E : Int)) = true := by simp
 clear hE hE2 hC1 hD1 hal hfC hfD
 have hc1 : 0 < c := by have := hok.1; omega
 obtain ⟨j, hj⟩ : ∃ j, col % c = j := ⟨_, rfl⟩
 have hjc : j < c := by rw [← hj]; exact Nat.mod_lt _ hc1
 have e1 : (col : Int).tmod (c : Int) = (j : Int) := by rw [Int.tmod_eq_emod_of_nonneg (by omega), ← Int.natCast_emod, hj]
 clear hj
 have n1 : (c : Int) ≠ 0 := by omega
 have i1 : (j : Int) < (c : Int) := by omega
 have hm := h.three 30 33 38 #[.int .i64 (c : Int), .int .i64 (k : Int), .int .i64 (r : Int), .slice (some ⟨aP, 0, none⟩) c cP, .slice (some ⟨aQ, 0, none⟩) c cQ] #[.int .i64 (c : Int), .int .i64 (k : Int), .int .i64 (r : Int), .slice (some ⟨aR, 0, none⟩) c cR, .slice (some ⟨aS, 0, none⟩) c cS] #[.int .i64 1, .int .i64 row, .int .i64 off, .int .i64 role, .int .u8 (col : Int), .string s]
 have hb3 : Below B w (((w.alloc (.cells #[.int .i64 (c : Int), .int .i64 (k : Int), .int .i64 (r : Int), .slice (some ⟨aP, 0, none⟩) c cP, .slice (some ⟨aQ, 0, none⟩) c cQ] 30)).alloc (.cells #[.int .i64 (c : Int), .int .i64 (k : Int), .int .i64 (r : Int), .slice (some ⟨aR, 0, none⟩) c cR, .slice (some ⟨aS, 0, none⟩) c cS] 33)).alloc (.cells #[.int .i64 1, .int .i64 row, .int .i64 off, .int .i64 role, .int .u8 (col : Int), .string s] 38)) := (((Below.refl B w).alloc h.size _).alloc (Nat.le_trans h.size (by simp)) _).alloc (Nat.le_trans h.size (by simp; omega)) _
 have HMX : Hid (Tryz.prog.follows .mixedOrders = true) := by show _ = _; kernel_rfl
 clear h
 go_enter Tryz.func11, Tryz.ntmps11
 go_upto_region 1 with fail
 generalize (((w.alloc (.cells #[.int .i64 (c : Int), .int .i64 (k : Int), .int .i64 (r : Int), .slice (some ⟨aP, 0, none⟩) c cP, .slice (some ⟨aQ, 0, none⟩) c cQ] 30)).alloc (.cells #[.int .i64 (c : Int), .int .i64 (k : Int), .int .i64 (r : Int), .slice (some ⟨aR, 0, none⟩) c cR, .slice (some ⟨aS, 0, none⟩) c cS] 33)).alloc (.cells #[.int .i64 1, .int .i64 row, .int .i64 off, .int .i64 role, .int .u8 (col : Int), .string s] 38)) = W at *
 have HM : Hid (ST W B c aP cP aQ cQ aR cR aS cS C D f (L3 w.heap.size c k r aP cP aQ cQ aR cR aS cS 1 row off role col s l)) := hm
 have HB : Hid (Below B w W) := hb3
 have hS := s16 HM.out
 obtain ⟨p0, p1, p2, p3, p4, q0, q1, q2, q3, q4, a0, a1, a2, a3, a4, a5⟩ := hS
 have k0 := hm.cellP hjc
 have k2 := hm.cellR hjc
 obtain ⟨pC, hpC⟩ := ptr16 (C j)
 obtain ⟨pD, hpD⟩ := ptr16 (D j)
 rw [hpC] at k0
 rw [hpD] at k2
 have lb0 : w.heap.size < W.heap.size := World.block_lt_of_cell? _ _ p0
 have lb1 : w.heap.size + 1 < W.heap.size := World.block_lt_of_cell? _ _ q0
 have lb2 : w.heap.size + 1 + 1 < W.heap.size := World.block_lt_of_cell? _ _ a0
 have lP : aP < W.heap.size := World.block_lt_of_cell? _ _ k0
 have lR : aR < W.heap.size := World.block_lt_of_cell? _ _ k2
 clear hm hb3
 clear hpC hpD
 go_upto_region 8 with fail
 have T0 : Hid (ST W.drew B c aP cP aQ cQ aR cR aS cS C D f (L3 w.heap.size c k r aP cP aQ cQ aR cR aS cS 1 row off role col s l)) := HM.out.below (Below.refl _ _).drew
 have hS0 := s16 T0.out
 clear k0 k2 p0 p1 p2 p3 p4 q0 q1 q2 q3 q4 a0 a1 a2 a3 a4 a5 lP lR
 go_region_held3 (fun V => V.cell? ⟨w.heap.size, 0, none⟩ = some (.int .i64 (c : Int)) ∧ V.cell? ⟨w.heap.size, 1, none⟩ = some (.int .i64 (k : Int)) ∧ V.cell? ⟨w.heap.size, 2, none⟩ = some (.int .i64 (r : Int)) ∧ V.cell? ⟨w.heap.size, 3, none⟩ = some (.slice (some ⟨aP, 0, none⟩) c cP) ∧ V.cell? ⟨w.heap.size, 4, none⟩ = some (.slice (some ⟨aQ, 0, none⟩) c cQ) ∧ V.cell? ⟨w.heap.size + 1, 0, none⟩ = some (.int .i64 (c : Int)) ∧ V.cell? ⟨w.heap.size + 1, 1, none⟩ = some (.int .i64 (k : Int)) ∧ V.cell? ⟨w.heap.size + 1, 2, none⟩ = some (.int .i64 (r : Int)) ∧ V.cell? ⟨w.heap.size + 1, 3, none⟩ = some (.slice (some ⟨aR, 0, none⟩) c cR) ∧ V.cell? ⟨w.heap.size + 1, 4, none⟩ = some (.slice (some ⟨aS, 0, none⟩) c cS) ∧ V.cell? ⟨w.heap.size + 1 + 1, 0, none⟩ = some (.int .i64 1) ∧ V.cell? ⟨w.heap.size + 1 + 1, 1, none⟩ = some (.int .i64 row) ∧ V.cell? ⟨w.heap.size + 1 + 1, 2, none⟩ = some (.int .i64 off) ∧ V.cell? ⟨w.heap.size + 1 + 1, 3, none⟩ = some (.int .i64 role) ∧ V.cell? ⟨w.heap.size + 1 + 1, 4, none⟩ = some (.int .u8 (col : Int)) ∧ V.cell? ⟨w.heap.size + 1 + 1, 5, none⟩ = some (.string s)) (first | exact hS0 | assumption) (first | (go_at_call 24; refine (HFU.out _).mono ?_; rintro e w3 ⟨rfl, h3⟩; have h3' := h3.symm; subst h3'; clear h3) | (go_at_call 27; refine (HWR.out _ T0.out).mono ?_; rintro e w4 ⟨rfl, ht4, hb4⟩; have T4 : Hid (ST w4 B c aP cP aQ cQ aR cR aS cS C1 D f (L3 w.heap.size c k r aP cP aQ cQ aR cR aS cS 1 row off role col s l)) := ht4; have hs4 := s16 ht4; have B4 : Hid (Below B w w4) := HB.out.trans ((Below.refl B W).drew.trans hb4); clear ht4 hb4) | (go_at_call 34; refine (HWS.out _ T4.out).mono ?_; rintro e w5 ⟨rfl, ht5, hb5⟩; have T5 : Hid (ST w5 B c aP cP aQ cQ aR cR aS cS C1 D1 f (L3 w.heap.size c k r aP cP aQ cQ aR cR aS cS 1 row off role col s l)) := ht5; have hs5 := s16 ht5; have B5 : Hid (Below B w w5) := B4.out.trans hb5; clear ht5 hb5))
 go_wp2
 go_ret
 exact ⟨C1, D1, f, rfl, T5.out.less, HEND.out.1, HEND.out.2.1, HEND.out.2.2, B5.out⟩
end Go.Proofs.YtdgkhjgnjfgnlaaGreat
namespace Go.Proofs.YtdgkhjgnjfgnlaaGreat
open Go.RowKit
attribute [local go_sem] Oper.semAt_some
set_option maxRecDepth 100000 in
set_option maxHeartbeats 16000000 in
theorem doesS_7 (w : World) (B c k r n : Nat) (hok : Lay.ok (c : Int) (k : Int) (r : Int)) {aP cP aQ cQ aR cR aS cS : Nat} {C D : Nat → Ro.Col} {f : Nat → Int} {l : List Thing} (h : St16 w B c (.slice (some ⟨aP, 0, none⟩) c cP) (.slice (some ⟨aQ, 0, none⟩) c cQ) (.slice (some ⟨aR, 0, none⟩) c cR) (.slice (some ⟨aS, 0, none⟩) c cS) C D f f l) (hal : Ro.Alike C D) (hfC : Few16 C n) (hfD : Few16 D n) (hn : n + 1 ≤ 1000000) (row off role : Int) (col : Nat) (hcol : col < 256) (s : ByteArray) : Calls Tryz.prog 11 #[.agg #[.int .i64 (c : Int), .int .i64 (k : Int), .int .i64 (r : Int), .slice (some ⟨aP, 0, none⟩) c cP, .slice (some ⟨aQ, 0, none⟩) c cQ], .agg #[.int .i64 (c : Int), .int .i64 (k : Int), .int .i64 (r : Int), .slice (some ⟨aR, 0, none⟩) c cR, .slice (some ⟨aS, 0, none⟩) c cS], .agg #[.int .i64 7, .int .i64 row, .int .i64 off, .int .i64 role, .int .u8 (col : Int), .string s]] w (DoesSt w B c (.slice (some ⟨aP, 0, none⟩) c cP) (.slice (some ⟨aQ, 0, none⟩) c cQ) (.slice (some ⟨aR, 0, none⟩) c cR) (.slice (some ⟨aS, 0, none⟩) c cS) l (n + 1)) := by
 obtain ⟨E, hE⟩ : ∃ E, Ro.flushE c k r c c C = E := ⟨_, rfl⟩
 have hE2 : Ro.flushE c k r c c D = E := by rw [← Ro.flushE_al hal]; exact hE
 obtain ⟨C1, hC1⟩ : ∃ C1, Ro.flushC c k r c c C = C1 := ⟨_, rfl⟩
 obtain ⟨D1, hD1⟩ : ∃ D1, Ro.flushC c k r c c D = D1 := ⟨_, rfl⟩
 have HWR : Hid (∀ V, ST V B c aP cP aQ cQ aR cR aS cS C D f (L3 w.heap.size c k r aP cP aQ cQ aR cR aS cS 7 row off role col s l) → Calls Tryz.prog 30 #[.agg #[.int .i64 (c : Int), .int .i64 (k : Int), .int .i64 (r : Int), .slice (some ⟨aP, 0, none⟩) c cP, .slice (some ⟨aQ, 0, none⟩) c cQ]] V fun e w' => e = .returned (.int .i64 (E : Int)) ∧ St16 w' B c (.slice (some ⟨aP, 0, none⟩) c cP) (.slice (some ⟨aQ, 0, none⟩) c cQ) (.slice (some ⟨aR, 0, none⟩) c cR) (.slice (some ⟨aS, 0, none⟩) c cS) C1 D f f (l ++ [blkT w.heap.size 30 #[.int .i64 (c : Int), .int .i64 (k : Int), .int .i64 (r : Int), .slice (some ⟨aP, 0, none⟩) c cP, .slice (some ⟨aQ, 0, none⟩) c cQ], blkT (w.heap.size + 1) 33 #[.int .i64 (c : Int), .int .i64 (k : Int), .int .i64 (r : Int), .slice (some ⟨aR, 0, none⟩) c cR, .slice (some ⟨aS, 0, none⟩) c cS], blkT (w.heap.size + 1 + 1) 38 #[.int .i64 7, .int .i64 row, .int .i64 off, .int .i64 role, .int .u8 (col : Int), .string s]]) ∧ Below B V w') := fun V hV => by
  have hx := hV.prFlush hok hfC (by omega)
  rw [hE, hC1] at hx; exact hx
 have HWS : Hid (∀ V, ST V B c aP cP aQ cQ aR cR aS cS C1 D f (L3 w.heap.size c k r aP cP aQ cQ aR cR aS cS 7 row off role col s l) → Calls Tryz.prog 38 #[.agg #[.int .i64 (c : Int), .int .i64 (k : Int), .int .i64 (r : Int), .slice (some ⟨aR, 0, none⟩) c cR, .slice (some ⟨aS, 0, none⟩) c cS]] V fun e w' => e = .returned (.int .i64 (E : Int)) ∧ St16 w' B c (.slice (some ⟨aP, 0, none⟩) c cP) (.slice (some ⟨aQ, 0, none⟩) c cQ) (.slice (some ⟨aR, 0, none⟩) c cR) (.slice (some ⟨aS, 0, none⟩) c cS) C1 D1 f f (l ++ [blkT w.heap.size 30 #[.int .i64 (c : Int), .int .i64 (k : Int), .int .i64 (r : Int), .slice (some ⟨aP, 0, none⟩) c cP, .slice (some ⟨aQ, 0, none⟩) c cQ], blkT (w.heap.size + 1) 33 #[.int .i64 (c : Int), .int .i64 (k : Int), .int .i64 (r : Int), .slice (some ⟨aR, 0, none⟩) c cR, .slice (some ⟨aS, 0, none⟩) c cS], blkT (w.heap.size + 1 + 1) 38 #[.int .i64 7, .int .i64 row, .int .i64 off, .int .i64 role, .int .u8 (col : Int), .string s]]) ∧ Below B V w') := fun V hV => by
  have hx := hV.refFlush hok hfD (by omega)
  rw [hE2, hD1] at hx; exact hx
 have HEND : Hid (Ro.Alike C1 D1 ∧ Few16 C1 (n + 1) ∧ Few16 D1 (n + 1)) := ⟨by rw [← hC1, ← hD1]; exact Ro.flushC_al hal, by rw [← hC1]; exact (hfC.flushC c k r c c).le (Nat.le_succ _), by rw [← hD1]; exact (hfD.flushC c k r c c).le (Nat.le_succ _)⟩
 have VE : ((E : Int) == (E : Int)) = true := by simp
 clear hE hE2 hC1 hD1 hal hfC hfD
 have hc1 : 0 < c := by have := hok.1; omega
 obtain ⟨j, hj⟩ : ∃ j, col % c = j := ⟨_, rfl⟩
 have hjc : j < c := by rw [← hj]; exact Nat.mod_lt _ hc1
 have e1 : (col : Int).tmod (c : Int) = (j : Int) := by rw [Int.tmod_eq_emod_of_nonneg (by omega), ← Int.natCast_emod, hj]
 clear hj
 have n1 : (c : Int) ≠ 0 := by omega
 have i1 : (j : Int) < (c : Int) := by omega
 have hm := h.three 30 33 38 #[.int .i64 (c : Int), .int .i64 (k : Int), .int .i64 (r : Int), .slice (some ⟨aP, 0, none⟩) c cP, .slice (some ⟨aQ, 0, none⟩) c cQ] #[.int .i64 (c : Int), .int .i64 (k : Int), .int .i64 (r : Int), .slice (some ⟨aR, 0, none⟩) c cR, .slice (some ⟨aS, 0, none⟩) c cS] #[.int .i64 7, .int .i64 row, .int .i64 off, .int .i64 role, .int .u8 (col : Int), .string s]
 have hb3 : Below B w (((w.alloc (.cells #[.int .i64 (c : Int), .int .i64 (k : Int), .int .i64 (r : Int), .slice (some ⟨aP, 0, none⟩) c cP, .slice (some ⟨aQ, 0, none⟩) c cQ] 30)).alloc (.cells #[.int .i64 (c : Int), .int .i64 (k : Int), .int .i64 (r : Int), .slice (some ⟨aR, 0, none⟩) c cR, .slice (some ⟨aS, 0, none⟩) c cS] 33)).alloc (.cells #[.int .i64 7, .int .i64 row, .int .i64 off, .int .i64 role, .int .u8 (col : Int), .string s] 38)) := (((Below.refl B w).alloc h.size _).alloc (Nat.le_trans h.size (by simp)) _).alloc (Nat.le_trans h.size (by simp; omega)) _
 have HMX : Hid (Tryz.prog.follows .mixedOrders = true) := by show _ = _; kernel_rfl
 have lP0 : aP < w.heap.size := World.block_lt_of_cell? _ _ (h.cellP hjc)
 have lQ0 : aQ < w.heap.size := World.block_lt_of_cell? _ _ (h.cellQ hjc)
 have lR0 : aR < w.heap.size := World.block_lt_of_cell? _ _ (h.cellR hjc)
 have lS0 : aS < w.heap.size := World.block_lt_of_cell? _ _ (h.cellS hjc)
 clear h
 go_enter Tryz.func11, Tryz.ntmps11
 go_upto_region 1 with fail
 generalize (((w.alloc (.cells #[.int .i64 (c : Int), .int .i64 (k : Int), .int .i64 (r : Int), .slice (some ⟨aP, 0, none⟩) c cP, .slice (some ⟨aQ, 0, none⟩) c cQ] 30)).alloc (.cells #[.int .i64 (c : Int), .int .i64 (k : Int), .int .i64 (r : Int), .slice (some ⟨aR, 0, none⟩) c cR, .slice (some ⟨aS, 0, none⟩) c cS] 33)).alloc (.cells #[.int .i64 7, .int .i64 row, .int .i64 off, .int .i64 role, .int .u8 (col : Int), .string s] 38)) = W at *
 have HM : Hid (ST W B c aP cP aQ cQ aR cR aS cS C D f (L3 w.heap.size c k r aP cP aQ cQ aR cR aS cS 7 row off role col s l)) := hm
 have HB : Hid (Below B w W) := hb3
 have hS := s16 HM.out
 obtain ⟨p0, p1, p2, p3, p4, q0, q1, q2, q3, q4, a0, a1, a2, a3, a4, a5⟩ := hS
 have k0 := hm.cellP hjc
 have k2 := hm.cellR hjc
 obtain ⟨pC, hpC⟩ := ptr16 (C j)
 obtain ⟨pD, hpD⟩ := ptr16 (D j)
 rw [hpC] at k0
 rw [hpD] at k2
 have lb0 : w.heap.size < W.heap.size := World.block_lt_of_cell? _ _ p0
 have lb1 : w.heap.size + 1 < W.heap.size := World.block_lt_of_cell? _ _ q0
 have lb2 : w.heap.size + 1 + 1 < W.heap.size := World.block_lt_of_cell? _ _ a0
 have lP : aP < W.heap.size := World.block_lt_of_cell? _ _ k0
 have lR : aR < W.heap.size := World.block_lt_of_cell? _ _ k2
 clear hm hb3
 clear hpC hpD
 go_upto_region 26 with fail
 have T0 : Hid (ST W.drew B c aP cP aQ cQ aR cR aS cS C D f (L3 w.heap.size c k r aP cP aQ cQ aR cR aS cS 7 row off role col s l)) := HM.out.below (Below.refl _ _).drew
 have hS0 := s16 T0.out
 clear k0 k2 p0 p1 p2 p3 p4 q0 q1 q2 q3 q4 a0 a1 a2 a3 a4 a5 lP lR
 go_region_held3 (fun V => V.cell? ⟨w.heap.size, 0, none⟩ = some (.int .i64 (c : Int)) ∧ V.cell? ⟨w.heap.size, 1, none⟩ = some (.int .i64 (k : Int)) ∧ V.cell? ⟨w.heap.size, 2, none⟩ = some (.int .i64 (r : Int)) ∧ V.cell? ⟨w.heap.size, 3, none⟩ = some (.slice (some ⟨aP, 0, none⟩) c cP) ∧ V.cell? ⟨w.heap.size, 4, none⟩ = some (.slice (some ⟨aQ, 0, none⟩) c cQ) ∧ V.cell? ⟨w.heap.size + 1, 0, none⟩ = some (.int .i64 (c : Int)) ∧ V.cell? ⟨w.heap.size + 1, 1, none⟩ = some (.int .i64 (k : Int)) ∧ V.cell? ⟨w.heap.size + 1, 2, none⟩ = some (.int .i64 (r : Int)) ∧ V.cell? ⟨w.heap.size + 1, 3, none⟩ = some (.slice (some ⟨aR, 0, none⟩) c cR) ∧ V.cell? ⟨w.heap.size + 1, 4, none⟩ = some (.slice (some ⟨aS, 0, none⟩) c cS) ∧ V.cell? ⟨w.heap.size + 1 + 1, 0, none⟩ = some (.int .i64 7) ∧ V.cell? ⟨w.heap.size + 1 + 1, 1, none⟩ = some (.int .i64 row) ∧ V.cell? ⟨w.heap.size + 1 + 1, 2, none⟩ = some (.int .i64 off) ∧ V.cell? ⟨w.heap.size + 1 + 1, 3, none⟩ = some (.int .i64 role) ∧ V.cell? ⟨w.heap.size + 1 + 1, 4, none⟩ = some (.int .u8 (col : Int)) ∧ V.cell? ⟨w.heap.size + 1 + 1, 5, none⟩ = some (.string s)) (first | exact hS0 | assumption) (first | (go_at_call 30; refine (HWR.out _ T0.out).mono ?_; rintro e w4 ⟨rfl, ht4, hb4⟩; have T4 : Hid (ST w4 B c aP cP aQ cQ aR cR aS cS C1 D f (L3 w.heap.size c k r aP cP aQ cQ aR cR aS cS 7 row off role col s l)) := ht4; have hs4 := s16 ht4; have B4 : Hid (Below B w w4) := HB.out.trans ((Below.refl B W).drew.trans hb4); clear ht4 hb4) | (go_at_call 38; refine (HWS.out _ T4.out).mono ?_; rintro e w5 ⟨rfl, ht5, hb5⟩; have T5 : Hid (ST w5 B c aP cP aQ cQ aR cR aS cS C1 D1 f (L3 w.heap.size c k r aP cP aQ cQ aR cR aS cS 7 row off role col s l)) := ht5; have hs5 := s16 ht5; have B5 : Hid (Below B w w5) := B4.out.trans hb5; clear ht5 hb5))
 go_wp2
 go_ret
 exact ⟨C1, D1, f, rfl, T5.out.less, HEND.out.1, HEND.out.2.1, HEND.out.2.2, B5.out⟩
set_option maxRecDepth 100000 in
set_option maxHeartbeats 16000000 in
theorem doesS_2 (w : World) (B c k r n : Nat) (hok : Lay.ok (c : Int) (k : Int) (r : Int)) {aP cP aQ cQ aR cR aS cS : Nat} {C D : Nat → Ro.Col} {f : Nat → Int} {l : List Thing} (h : St16 w B c (.slice (some ⟨aP, 0, none⟩) c cP) (.slice (some ⟨aQ, 0, none⟩) c cQ) (.slice (some ⟨aR, 0, none⟩) c cR) (.slice (some ⟨aS, 0, none⟩) c cS) C D f f l) (hal : Ro.Alike C D) (hfC : Few16 C n) (hfD : Few16 D n) (_hn : n + 1 ≤ 1000000) (row off role : Int) (col : Nat) (hcol : col < 256) (s : ByteArray) {p : Nat} {E : Dr} (hC : C (col % c) = some (p, E)) : Calls Tryz.prog 11 #[.agg #[.int .i64 (c : Int), .int .i64 (k : Int), .int .i64 (r : Int), .slice (some ⟨aP, 0, none⟩) c cP, .slice (some ⟨aQ, 0, none⟩) c cQ], .agg #[.int .i64 (c : Int), .int .i64 (k : Int), .int .i64 (r : Int), .slice (some ⟨aR, 0, none⟩) c cR, .slice (some ⟨aS, 0, none⟩) c cS], .agg #[.int .i64 2, .int .i64 row, .int .i64 off, .int .i64 role, .int .u8 (col : Int), .string s]] w (DoesSt w B c (.slice (some ⟨aP, 0, none⟩) c cP) (.slice (some ⟨aQ, 0, none⟩) c cQ) (.slice (some ⟨aR, 0, none⟩) c cR) (.slice (some ⟨aS, 0, none⟩) c cS) l (n + 1)) := by
 obtain ⟨j, hj⟩ : ∃ j, col % c = j := ⟨_, rfl⟩
 have hjc : j < c := by rw [← hj]; exact Nat.mod_lt _ (by have := hok.1; omega)
 rw [hj] at hC
 obtain ⟨q, hD⟩ : ∃ q, D j = some (q, E) := by
  have hx := hal j
  rw [hC] at hx
  cases hy : D j with
  | none => rw [hy] at hx; cases hx
  | some y => rw [hy] at hx; exact ⟨y.1, by injection hx with hx; rw [show y = (y.1, y.2) from rfl, ← hx]⟩
 obtain ⟨C1, hC1⟩ : ∃ C1, swap1 C j (some (p, (spD E row))) = C1 := ⟨_, rfl⟩
 obtain ⟨D1, hD1⟩ : ∃ D1, swap1 D j (some (q, (spD E row))) = D1 := ⟨_, rfl⟩
 have HEND : Hid (Ro.Alike C1 D1 ∧ Few16 C1 (n + 1) ∧ Few16 D1 (n + 1)) := ⟨by rw [← hC1, ← hD1]; exact hal.swap j rfl, by rw [← hC1]; exact (Few16.swap (E := (spD E row)) hfC ((fun h => spD_few h row) (hfC j _ hC))).le (Nat.le_succ _), by rw [← hD1]; exact (Few16.swap (E := (spD E row)) hfD ((fun h => spD_few h row) (hfD j _ hD))).le (Nat.le_succ _)⟩
 obtain ⟨N, hN⟩ : ∃ N, E.reachE row = N := ⟨_, rfl⟩
 have HWR : Hid (∀ V, ST V B c aP cP aQ cQ aR cR aS cS C D f (L3 w.heap.size c k r aP cP aQ cQ aR cR aS cS 2 row off role col s l) → Calls Tryz.prog 28 #[.pointer (some ⟨p, 0, none⟩), .int .i64 row] V fun e w' => e = .returned (.int .i64 (N : Int)) ∧ St16 w' B c (.slice (some ⟨aP, 0, none⟩) c cP) (.slice (some ⟨aQ, 0, none⟩) c cQ) (.slice (some ⟨aR, 0, none⟩) c cR) (.slice (some ⟨aS, 0, none⟩) c cS) C1 D f f (l ++ [blkT w.heap.size 30 #[.int .i64 (c : Int), .int .i64 (k : Int), .int .i64 (r : Int), .slice (some ⟨aP, 0, none⟩) c cP, .slice (some ⟨aQ, 0, none⟩) c cQ], blkT (w.heap.size + 1) 33 #[.int .i64 (c : Int), .int .i64 (k : Int), .int .i64 (r : Int), .slice (some ⟨aR, 0, none⟩) c cR, .slice (some ⟨aS, 0, none⟩) c cS], blkT (w.heap.size + 1 + 1) 38 #[.int .i64 2, .int .i64 row, .int .i64 off, .int .i64 role, .int .u8 (col : Int), .string s]]) ∧ Below B V w') := fun V hV => by
  have hx := hV.prDrive hjc hC (Q := fun e => e = .returned (.int .i64 (E.reachE row : Nat))) (fun G hG => prSpoil16 hG row)
  rw [hN, hC1] at hx; exact hx
 have HWS : Hid (∀ V, ST V B c aP cP aQ cQ aR cR aS cS C1 D f (L3 w.heap.size c k r aP cP aQ cQ aR cR aS cS 2 row off role col s l) → Calls Tryz.prog 35 #[.pointer (some ⟨q, 0, none⟩), .int .i64 row] V fun e w' => e = .returned (.int .i64 (N : Int)) ∧ St16 w' B c (.slice (some ⟨aP, 0, none⟩) c cP) (.slice (some ⟨aQ, 0, none⟩) c cQ) (.slice (some ⟨aR, 0, none⟩) c cR) (.slice (some ⟨aS, 0, none⟩) c cS) C1 D1 f f (l ++ [blkT w.heap.size 30 #[.int .i64 (c : Int), .int .i64 (k : Int), .int .i64 (r : Int), .slice (some ⟨aP, 0, none⟩) c cP, .slice (some ⟨aQ, 0, none⟩) c cQ], blkT (w.heap.size + 1) 33 #[.int .i64 (c : Int), .int .i64 (k : Int), .int .i64 (r : Int), .slice (some ⟨aR, 0, none⟩) c cR, .slice (some ⟨aS, 0, none⟩) c cS], blkT (w.heap.size + 1 + 1) 38 #[.int .i64 2, .int .i64 row, .int .i64 off, .int .i64 role, .int .u8 (col : Int), .string s]]) ∧ Below B V w') := fun V hV => by
  have hx := hV.refDrive hjc hD (Q := fun e => e = .returned (.int .i64 (E.reachE row : Nat))) (fun G hG => refSpoil16 hG row)
  rw [hN, hD1] at hx; exact hx
 have VE : ((N : Int) == (N : Int)) = true := by simp
 have HCD : Hid (Ro.ptr (C (col % c)) = .pointer (some ⟨p, 0, none⟩) ∧ Ro.ptr (D (col % c)) = .pointer (some ⟨q, 0, none⟩)) := by rw [hj, hC, hD]; exact ⟨rfl, rfl⟩
 clear hN hC1 hD1 hal hfC hfD hC hD hj hjc j
 have hc1 : 0 < c := by have := hok.1; omega
 obtain ⟨j, hj⟩ : ∃ j, col % c = j := ⟨_, rfl⟩
 rw [hj] at HCD
 have hjc : j < c := by rw [← hj]; exact Nat.mod_lt _ hc1
 have e1 : (col : Int).tmod (c : Int) = (j : Int) := by rw [Int.tmod_eq_emod_of_nonneg (by omega), ← Int.natCast_emod, hj]
 clear hj
 have n1 : (c : Int) ≠ 0 := by omega
 have i1 : (j : Int) < (c : Int) := by omega
 have hm := h.three 30 33 38 #[.int .i64 (c : Int), .int .i64 (k : Int), .int .i64 (r : Int), .slice (some ⟨aP, 0, none⟩) c cP, .slice (some ⟨aQ, 0, none⟩) c cQ] #[.int .i64 (c : Int), .int .i64 (k : Int), .int .i64 (r : Int), .slice (some ⟨aR, 0, none⟩) c cR, .slice (some ⟨aS, 0, none⟩) c cS] #[.int .i64 2, .int .i64 row, .int .i64 off, .int .i64 role, .int .u8 (col : Int), .string s]
 have hb3 : Below B w (((w.alloc (.cells #[.int .i64 (c : Int), .int .i64 (k : Int), .int .i64 (r : Int), .slice (some ⟨aP, 0, none⟩) c cP, .slice (some ⟨aQ, 0, none⟩) c cQ] 30)).alloc (.cells #[.int .i64 (c : Int), .int .i64 (k : Int), .int .i64 (r : Int), .slice (some ⟨aR, 0, none⟩) c cR, .slice (some ⟨aS, 0, none⟩) c cS] 33)).alloc (.cells #[.int .i64 2, .int .i64 row, .int .i64 off, .int .i64 role, .int .u8 (col : Int), .string s] 38)) := (((Below.refl B w).alloc h.size _).alloc (Nat.le_trans h.size (by simp)) _).alloc (Nat.le_trans h.size (by simp; omega)) _
 have HMX : Hid (Tryz.prog.follows .mixedOrders = true) := by show _ = _; kernel_rfl
 have lP0 : aP < w.heap.size := World.block_lt_of_cell? _ _ (h.cellP hjc)
 have lQ0 : aQ < w.heap.size := World.block_lt_of_cell? _ _ (h.cellQ hjc)
 have lR0 : aR < w.heap.size := World.block_lt_of_cell? _ _ (h.cellR hjc)
 have lS0 : aS < w.heap.size := World.block_lt_of_cell? _ _ (h.cellS hjc)
 clear h
 go_enter Tryz.func11, Tryz.ntmps11
 go_upto_region 1 with fail
 generalize (((w.alloc (.cells #[.int .i64 (c : Int), .int .i64 (k : Int), .int .i64 (r : Int), .slice (some ⟨aP, 0, none⟩) c cP, .slice (some ⟨aQ, 0, none⟩) c cQ] 30)).alloc (.cells #[.int .i64 (c : Int), .int .i64 (k : Int), .int .i64 (r : Int), .slice (some ⟨aR, 0, none⟩) c cR, .slice (some ⟨aS, 0, none⟩) c cS] 33)).alloc (.cells #[.int .i64 2, .int .i64 row, .int .i64 off, .int .i64 role, .int .u8 (col : Int), .string s] 38)) = W at *
 have HM : Hid (ST W B c aP cP aQ cQ aR cR aS cS C D f (L3 w.heap.size c k r aP cP aQ cQ aR cR aS cS 2 row off role col s l)) := hm
 have HB : Hid (Below B w W) := hb3
 have hS := s16 HM.out
 obtain ⟨p0, p1, p2, p3, p4, q0, q1, q2, q3, q4, a0, a1, a2, a3, a4, a5⟩ := hS
 have k0 := hm.cellP hjc
 have k2 := hm.cellR hjc
 rw [HCD.out.1] at k0
 rw [HCD.out.2] at k2
 have lb0 : w.heap.size < W.heap.size := World.block_lt_of_cell? _ _ p0
 have lb1 : w.heap.size + 1 < W.heap.size := World.block_lt_of_cell? _ _ q0
 have lb2 : w.heap.size + 1 + 1 < W.heap.size := World.block_lt_of_cell? _ _ a0
 have lP : aP < W.heap.size := World.block_lt_of_cell? _ _ k0
 have lR : aR < W.heap.size := World.block_lt_of_cell? _ _ k2
 clear hm hb3
 go_upto_region 10 with fail
 have T0 : Hid (ST W.drew B c aP cP aQ cQ aR cR aS cS C D f (L3 w.heap.size c k r aP cP aQ cQ aR cR aS cS 2 row off role col s l)) := HM.out.below (Below.refl _ _).drew
 have hS0 := s16 T0.out
 clear k0 k2 p0 p1 p2 p3 p4 q0 q1 q2 q3 q4 a0 a1 a2 a3 a4 a5 lP lR
 go_region_held3 (fun V => V.cell? ⟨w.heap.size, 0, none⟩ = some (.int .i64 (c : Int)) ∧ V.cell? ⟨w.heap.size, 1, none⟩ = some (.int .i64 (k : Int)) ∧ V.cell? ⟨w.heap.size, 2, none⟩ = some (.int .i64 (r : Int)) ∧ V.cell? ⟨w.heap.size, 3, none⟩ = some (.slice (some ⟨aP, 0, none⟩) c cP) ∧ V.cell? ⟨w.heap.size, 4, none⟩ = some (.slice (some ⟨aQ, 0, none⟩) c cQ) ∧ V.cell? ⟨w.heap.size + 1, 0, none⟩ = some (.int .i64 (c : Int)) ∧ V.cell? ⟨w.heap.size + 1, 1, none⟩ = some (.int .i64 (k : Int)) ∧ V.cell? ⟨w.heap.size + 1, 2, none⟩ = some (.int .i64 (r : Int)) ∧ V.cell? ⟨w.heap.size + 1, 3, none⟩ = some (.slice (some ⟨aR, 0, none⟩) c cR) ∧ V.cell? ⟨w.heap.size + 1, 4, none⟩ = some (.slice (some ⟨aS, 0, none⟩) c cS) ∧ V.cell? ⟨w.heap.size + 1 + 1, 0, none⟩ = some (.int .i64 2) ∧ V.cell? ⟨w.heap.size + 1 + 1, 1, none⟩ = some (.int .i64 row) ∧ V.cell? ⟨w.heap.size + 1 + 1, 2, none⟩ = some (.int .i64 off) ∧ V.cell? ⟨w.heap.size + 1 + 1, 3, none⟩ = some (.int .i64 role) ∧ V.cell? ⟨w.heap.size + 1 + 1, 4, none⟩ = some (.int .u8 (col : Int)) ∧ V.cell? ⟨w.heap.size + 1 + 1, 5, none⟩ = some (.string s)) (first | exact hS0 | assumption) (first | (go_at_call 28; refine (HWR.out _ T0.out).mono ?_; rintro e w4 ⟨rfl, ht4, hb4⟩; have T4 : Hid (ST w4 B c aP cP aQ cQ aR cR aS cS C1 D f (L3 w.heap.size c k r aP cP aQ cQ aR cR aS cS 2 row off role col s l)) := ht4; have hs4 := s16 ht4; have B4 : Hid (Below B w w4) := HB.out.trans ((Below.refl B W).drew.trans hb4); clear ht4 hb4) | (go_at_call 35; refine (HWS.out _ T4.out).mono ?_; rintro e w5 ⟨rfl, ht5, hb5⟩; have T5 : Hid (ST w5 B c aP cP aQ cQ aR cR aS cS C1 D1 f (L3 w.heap.size c k r aP cP aQ cQ aR cR aS cS 2 row off role col s l)) := ht5; have hs5 := s16 ht5; have B5 : Hid (Below B w w5) := B4.out.trans hb5; clear ht5 hb5))
 go_wp2
 go_ret
 exact ⟨C1, D1, f, rfl, T5.out.less, HEND.out.1, HEND.out.2.1, HEND.out.2.2, B5.out⟩
set_option maxRecDepth 100000 in
set_option maxHeartbeats 16000000 in
theorem doesS_3 (w : World) (B c k r n : Nat) (hok : Lay.ok (c : Int) (k : Int) (r : Int)) {aP cP aQ cQ aR cR aS cS : Nat} {C D : Nat → Ro.Col} {f : Nat → Int} {l : List Thing} (h : St16 w B c (.slice (some ⟨aP, 0, none⟩) c cP) (.slice (some ⟨aQ, 0, none⟩) c cQ) (.slice (some ⟨aR, 0, none⟩) c cR) (.slice (some ⟨aS, 0, none⟩) c cS) C D f f l) (hal : Ro.Alike C D) (hfC : Few16 C n) (hfD : Few16 D n) (_hn : n + 1 ≤ 1000000) (row off role : Int) (col : Nat) (hcol : col < 256) (s : ByteArray) {p : Nat} {E : Dr} (hC : C (col % c) = some (p, E)) : Calls Tryz.prog 11 #[.agg #[.int .i64 (c : Int), .int .i64 (k : Int), .int .i64 (r : Int), .slice (some ⟨aP, 0, none⟩) c cP, .slice (some ⟨aQ, 0, none⟩) c cQ], .agg #[.int .i64 (c : Int), .int .i64 (k : Int), .int .i64 (r : Int), .slice (some ⟨aR, 0, none⟩) c cR, .slice (some ⟨aS, 0, none⟩) c cS], .agg #[.int .i64 3, .int .i64 row, .int .i64 off, .int .i64 role, .int .u8 (col : Int), .string s]] w (DoesSt w B c (.slice (some ⟨aP, 0, none⟩) c cP) (.slice (some ⟨aQ, 0, none⟩) c cQ) (.slice (some ⟨aR, 0, none⟩) c cR) (.slice (some ⟨aS, 0, none⟩) c cS) l (n + 1)) := by
 obtain ⟨j, hj⟩ : ∃ j, col % c = j := ⟨_, rfl⟩
 have hjc : j < c := by rw [← hj]; exact Nat.mod_lt _ (by have := hok.1; omega)
 rw [hj] at hC
 obtain ⟨q, hD⟩ : ∃ q, D j = some (q, E) := by
  have hx := hal j
  rw [hC] at hx
  cases hy : D j with
  | none => rw [hy] at hx; cases hx
  | some y => rw [hy] at hx; exact ⟨y.1, by injection hx with hx; rw [show y = (y.1, y.2) from rfl, ← hx]⟩
 obtain ⟨C1, hC1⟩ : ∃ C1, swap1 C j (some (p, E.die)) = C1 := ⟨_, rfl⟩
 obtain ⟨D1, hD1⟩ : ∃ D1, swap1 D j (some (q, E.die)) = D1 := ⟨_, rfl⟩
 have HEND : Hid (Ro.Alike C1 D1 ∧ Few16 C1 (n + 1) ∧ Few16 D1 (n + 1)) := ⟨by rw [← hC1, ← hD1]; exact hal.swap j rfl, by rw [← hC1]; exact (Few16.swap (E := E.die) hfC ((fun h => h) (hfC j _ hC))).le (Nat.le_succ _), by rw [← hD1]; exact (Few16.swap (E := E.die) hfD ((fun h => h) (hfD j _ hD))).le (Nat.le_succ _)⟩
 have HWR : Hid (∀ V, ST V B c aP cP aQ cQ aR cR aS cS C D f (L3 w.heap.size c k r aP cP aQ cQ aR cR aS cS 3 row off role col s l) → Calls Tryz.prog 29 #[.pointer (some ⟨p, 0, none⟩)] V fun e w' => e = .returned (.tuple #[]) ∧ St16 w' B c (.slice (some ⟨aP, 0, none⟩) c cP) (.slice (some ⟨aQ, 0, none⟩) c cQ) (.slice (some ⟨aR, 0, none⟩) c cR) (.slice (some ⟨aS, 0, none⟩) c cS) C1 D f f (l ++ [blkT w.heap.size 30 #[.int .i64 (c : Int), .int .i64 (k : Int), .int .i64 (r : Int), .slice (some ⟨aP, 0, none⟩) c cP, .slice (some ⟨aQ, 0, none⟩) c cQ], blkT (w.heap.size + 1) 33 #[.int .i64 (c : Int), .int .i64 (k : Int), .int .i64 (r : Int), .slice (some ⟨aR, 0, none⟩) c cR, .slice (some ⟨aS, 0, none⟩) c cS], blkT (w.heap.size + 1 + 1) 38 #[.int .i64 3, .int .i64 row, .int .i64 off, .int .i64 role, .int .u8 (col : Int), .string s]]) ∧ Below B V w') := fun V hV => by
  have hx := hV.prDrive hjc hC (E' := E.die) (Q := fun e => e = .returned (.tuple #[])) (fun G hG => (die_any hG).mono fun _ _ ⟨h1, h2, h3⟩ => ⟨h1, h2.mono fun _ hk => .inl hk, h3⟩)
  rw [hC1] at hx; exact hx
 have HWS : Hid (∀ V, ST V B c aP cP aQ cQ aR cR aS cS C1 D f (L3 w.heap.size c k r aP cP aQ cQ aR cR aS cS 3 row off role col s l) → (V.cell? ⟨q, 3, none⟩ = some (.bool E.dead) ∧ V.frozen? ⟨q, 3, none⟩ = false) ∧ ST (V.setCell ⟨q, 3, none⟩ (.bool true)) B c aP cP aQ cQ aR cR aS cS C1 D1 f (L3 w.heap.size c k r aP cP aQ cQ aR cR aS cS 3 row off role col s l) ∧ Below B V (V.setCell ⟨q, 3, none⟩ (.bool true))) := fun V hV => by
  have hx := hV.refGone hjc hD
  rw [hD1] at hx
  obtain ⟨G, hG⟩ := hV.ref.set.drv j q E hjc hD
  exact ⟨⟨hG.flags.1, hG.flags.2.2.1⟩, hx⟩
 have HCD : Hid (Ro.ptr (C (col % c)) = .pointer (some ⟨p, 0, none⟩) ∧ Ro.ptr (D (col % c)) = .pointer (some ⟨q, 0, none⟩)) := by rw [hj, hC, hD]; exact ⟨rfl, rfl⟩
 clear hC1 hD1 hal hfC hfD hC hD hj hjc j
 have hc1 : 0 < c := by have := hok.1; omega
 obtain ⟨j, hj⟩ : ∃ j, col % c = j := ⟨_, rfl⟩
 rw [hj] at HCD
 have hjc : j < c := by rw [← hj]; exact Nat.mod_lt _ hc1
 have e1 : (col : Int).tmod (c : Int) = (j : Int) := by rw [Int.tmod_eq_emod_of_nonneg (by omega), ← Int.natCast_emod, hj]
 clear hj
 have n1 : (c : Int) ≠ 0 := by omega
 have i1 : (j : Int) < (c : Int) := by omega
 have hm := h.three 30 33 38 #[.int .i64 (c : Int), .int .i64 (k : Int), .int .i64 (r : Int), .slice (some ⟨aP, 0, none⟩) c cP, .slice (some ⟨aQ, 0, none⟩) c cQ] #[.int .i64 (c : Int), .int .i64 (k : Int), .int .i64 (r : Int), .slice (some ⟨aR, 0, none⟩) c cR, .slice (some ⟨aS, 0, none⟩) c cS] #[.int .i64 3, .int .i64 row, .int .i64 off, .int .i64 role, .int .u8 (col : Int), .string s]
 have hb3 : Below B w (((w.alloc (.cells #[.int .i64 (c : Int), .int .i64 (k : Int), .int .i64 (r : Int), .slice (some ⟨aP, 0, none⟩) c cP, .slice (some ⟨aQ, 0, none⟩) c cQ] 30)).alloc (.cells #[.int .i64 (c : Int), .int .i64 (k : Int), .int .i64 (r : Int), .slice (some ⟨aR, 0, none⟩) c cR, .slice (some ⟨aS, 0, none⟩) c cS] 33)).alloc (.cells #[.int .i64 3, .int .i64 row, .int .i64 off, .int .i64 role, .int .u8 (col : Int), .string s] 38)) := (((Below.refl B w).alloc h.size _).alloc (Nat.le_trans h.size (by simp)) _).alloc (Nat.le_trans h.size (by simp; omega)) _
 have HMX : Hid (Tryz.prog.follows .mixedOrders = true) := by show _ = _; kernel_rfl
 have lP0 : aP < w.heap.size := World.block_lt_of_cell? _ _ (h.cellP hjc)
 have lQ0 : aQ < w.heap.size := World.block_lt_of_cell? _ _ (h.cellQ hjc)
 have lR0 : aR < w.heap.size := World.block_lt_of_cell? _ _ (h.cellR hjc)
 have lS0 : aS < w.heap.size := World.block_lt_of_cell? _ _ (h.cellS hjc)
 clear h
 go_enter Tryz.func11, Tryz.ntmps11
 go_upto_region 1 with fail
 generalize (((w.alloc (.cells #[.int .i64 (c : Int), .int .i64 (k : Int), .int .i64 (r : Int), .slice (some ⟨aP, 0, none⟩) c cP, .slice (some ⟨aQ, 0, none⟩) c cQ] 30)).alloc (.cells #[.int .i64 (c : Int), .int .i64 (k : Int), .int .i64 (r : Int), .slice (some ⟨aR, 0, none⟩) c cR, .slice (some ⟨aS, 0, none⟩) c cS] 33)).alloc (.cells #[.int .i64 3, .int .i64 row, .int .i64 off, .int .i64 role, .int .u8 (col : Int), .string s] 38)) = W at *
 have HM : Hid (ST W B c aP cP aQ cQ aR cR aS cS C D f (L3 w.heap.size c k r aP cP aQ cQ aR cR aS cS 3 row off role col s l)) := hm
 have HB : Hid (Below B w W) := hb3
 have hS := s16 HM.out
 obtain ⟨p0, p1, p2, p3, p4, q0, q1, q2, q3, q4, a0, a1, a2, a3, a4, a5⟩ := hS
 have k0 := hm.cellP hjc
 have k2 := hm.cellR hjc
 rw [HCD.out.1] at k0
 rw [HCD.out.2] at k2
 have lb0 : w.heap.size < W.heap.size := World.block_lt_of_cell? _ _ p0
 have lb1 : w.heap.size + 1 < W.heap.size := World.block_lt_of_cell? _ _ q0
 have lb2 : w.heap.size + 1 + 1 < W.heap.size := World.block_lt_of_cell? _ _ a0
 have lP : aP < W.heap.size := World.block_lt_of_cell? _ _ k0
 have lR : aR < W.heap.size := World.block_lt_of_cell? _ _ k2
 clear hm hb3
 go_wp2_with fail
 refine (HWR.out _ HM.out).mono ?_
 rintro e w4 ⟨rfl, ht4, hb4⟩
 have T4 : Hid (ST w4 B c aP cP aQ cQ aR cR aS cS C1 D f (L3 w.heap.size c k r aP cP aQ cQ aR cR aS cS 3 row off role col s l)) := ht4
 have B4 : Hid (Below B w w4) := HB.out.trans hb4
 obtain ⟨⟨u1, u2⟩, u3⟩ := HWS.out _ ht4
 have U : Hid (ST (w4.setCell ⟨q, 3, none⟩ (.bool true)) B c aP cP aQ cQ aR cR aS cS C1 D1 f (L3 w.heap.size c k r aP cP aQ cQ aR cR aS cS 3 row off role col s l) ∧ Below B w4 (w4.setCell ⟨q, 3, none⟩ (.bool true))) := u3
 have lq : q < w4.heap.size := World.block_lt_of_cell? _ _ u1
 clear ht4 hb4 u3 p0 p1 p2 p3 p4 q0 q1 q2 q3 q4 a0 a1 a2 a3 a4 a5 lP lR k0 k2
 go_wp2
 go_ret
 exact ⟨C1, D1, f, rfl, U.out.1.less, HEND.out.1, HEND.out.2.1, HEND.out.2.2, B4.out.trans U.out.2⟩
set_option maxRecDepth 100000 in
set_option maxHeartbeats 16000000 in
theorem doesS_6 (w : World) (B c k r n : Nat) (hok : Lay.ok (c : Int) (k : Int) (r : Int)) {aP cP aQ cQ aR cR aS cS : Nat} {C D : Nat → Ro.Col} {f : Nat → Int} {l : List Thing} (h : St16 w B c (.slice (some ⟨aP, 0, none⟩) c cP) (.slice (some ⟨aQ, 0, none⟩) c cQ) (.slice (some ⟨aR, 0, none⟩) c cR) (.slice (some ⟨aS, 0, none⟩) c cS) C D f f l) (hal : Ro.Alike C D) (hfC : Few16 C n) (hfD : Few16 D n) (_hn : n + 1 ≤ 1000000) (row off role : Int) (col : Nat) (hcol : col < 256) (s : ByteArray) (hoff : off ≤ 9223372036854775807) {p : Nat} {E : Dr} (hC : C (col % c) = some (p, E)) : Calls Tryz.prog 11 #[.agg #[.int .i64 (c : Int), .int .i64 (k : Int), .int .i64 (r : Int), .slice (some ⟨aP, 0, none⟩) c cP, .slice (some ⟨aQ, 0, none⟩) c cQ], .agg #[.int .i64 (c : Int), .int .i64 (k : Int), .int .i64 (r : Int), .slice (some ⟨aR, 0, none⟩) c cR, .slice (some ⟨aS, 0, none⟩) c cS], .agg #[.int .i64 6, .int .i64 row, .int .i64 off, .int .i64 role, .int .u8 (col : Int), .string s]] w (DoesSt w B c (.slice (some ⟨aP, 0, none⟩) c cP) (.slice (some ⟨aQ, 0, none⟩) c cQ) (.slice (some ⟨aR, 0, none⟩) c cR) (.slice (some ⟨aS, 0, none⟩) c cS) l (n + 1)) := by
 obtain ⟨j, hj⟩ : ∃ j, col % c = j := ⟨_, rfl⟩
 have hjc : j < c := by rw [← hj]; exact Nat.mod_lt _ (by have := hok.1; omega)
 rw [hj] at hC
 obtain ⟨q, hD⟩ : ∃ q, D j = some (q, E) := by
  have hx := hal j
  rw [hC] at hx
  cases hy : D j with
  | none => rw [hy] at hx; cases hx
  | some y => rw [hy] at hx; exact ⟨y.1, by injection hx with hx; rw [show y = (y.1, y.2) from rfl, ← hx]⟩
 obtain ⟨C1, hC1⟩ : ∃ C1, swap1 C j (some (p, (E.off off))) = C1 := ⟨_, rfl⟩
 obtain ⟨D1, hD1⟩ : ∃ D1, swap1 D j (some (q, (E.off off))) = D1 := ⟨_, rfl⟩
 have HEND : Hid (Ro.Alike C1 D1 ∧ Few16 C1 (n + 1) ∧ Few16 D1 (n + 1)) := ⟨by rw [← hC1, ← hD1]; exact hal.swap j rfl, by rw [← hC1]; exact (Few16.swap (E := (E.off off)) hfC ((fun h => h) (hfC j _ hC))).le (Nat.le_succ _), by rw [← hD1]; exact (Few16.swap (E := (E.off off)) hfD ((fun h => h) (hfD j _ hD))).le (Nat.le_succ _)⟩
 have HWR : Hid (∀ V, ST V B c aP cP aQ cQ aR cR aS cS C D f (L3 w.heap.size c k r aP cP aQ cQ aR cR aS cS 6 row off role col s l) → Calls Tryz.prog 36 #[.pointer (some ⟨p, 0, none⟩), .int .i64 off] V fun e w' => e = .returned (.tuple #[]) ∧ St16 w' B c (.slice (some ⟨aP, 0, none⟩) c cP) (.slice (some ⟨aQ, 0, none⟩) c cQ) (.slice (some ⟨aR, 0, none⟩) c cR) (.slice (some ⟨aS, 0, none⟩) c cS) C1 D f f (l ++ [blkT w.heap.size 30 #[.int .i64 (c : Int), .int .i64 (k : Int), .int .i64 (r : Int), .slice (some ⟨aP, 0, none⟩) c cP, .slice (some ⟨aQ, 0, none⟩) c cQ], blkT (w.heap.size + 1) 33 #[.int .i64 (c : Int), .int .i64 (k : Int), .int .i64 (r : Int), .slice (some ⟨aR, 0, none⟩) c cR, .slice (some ⟨aS, 0, none⟩) c cS], blkT (w.heap.size + 1 + 1) 38 #[.int .i64 6, .int .i64 row, .int .i64 off, .int .i64 role, .int .u8 (col : Int), .string s]]) ∧ Below B V w') := fun V hV => by
  have hx := hV.prDrive hjc hC (E' := E.off off) (Q := fun e => e = .returned (.tuple #[])) (fun G hG => (off_any hG off hoff).mono fun _ _ ⟨h1, h2, h3⟩ => ⟨h1, h2.mono fun _ hk => .inl hk, h3⟩)
  rw [hC1] at hx; exact hx
 have HWS : Hid (∀ V, ST V B c aP cP aQ cQ aR cR aS cS C1 D f (L3 w.heap.size c k r aP cP aQ cQ aR cR aS cS 6 row off role col s l) → Calls Tryz.prog 37 #[.pointer (some ⟨q, 0, none⟩), .int .i64 off] V fun e w' => e = .returned (.tuple #[]) ∧ St16 w' B c (.slice (some ⟨aP, 0, none⟩) c cP) (.slice (some ⟨aQ, 0, none⟩) c cQ) (.slice (some ⟨aR, 0, none⟩) c cR) (.slice (some ⟨aS, 0, none⟩) c cS) C1 D1 f f (l ++ [blkT w.heap.size 30 #[.int .i64 (c : Int), .int .i64 (k : Int), .int .i64 (r : Int), .slice (some ⟨aP, 0, none⟩) c cP, .slice (some ⟨aQ, 0, none⟩) c cQ], blkT (w.heap.size + 1) 33 #[.int .i64 (c : Int), .int .i64 (k : Int), .int .i64 (r : Int), .slice (some ⟨aR, 0, none⟩) c cR, .slice (some ⟨aS, 0, none⟩) c cS], blkT (w.heap.size + 1 + 1) 38 #[.int .i64 6, .int .i64 row, .int .i64 off, .int .i64 role, .int .u8 (col : Int), .string s]]) ∧ Below B V w') := fun V hV => by
  have hx := hV.refDrive hjc hD (E' := E.off off) (Q := fun e => e = .returned (.tuple #[])) (fun G hG => (pOffCall hG off hoff).mono fun _ _ ⟨h1, h2, h3⟩ => ⟨h1, RefAt.mono h2 fun _ hk => .inl hk, h3⟩)
  rw [hD1] at hx; exact hx
 have HCD : Hid (Ro.ptr (C (col % c)) = .pointer (some ⟨p, 0, none⟩) ∧ Ro.ptr (D (col % c)) = .pointer (some ⟨q, 0, none⟩)) := by rw [hj, hC, hD]; exact ⟨rfl, rfl⟩
 clear hC1 hD1 hal hfC hfD hC hD hj hjc j
 have hc1 : 0 < c := by have := hok.1; omega
 obtain ⟨j, hj⟩ : ∃ j, col % c = j := ⟨_, rfl⟩
 rw [hj] at HCD
 have hjc : j < c := by rw [← hj]; exact Nat.mod_lt _ hc1
 have e1 : (col : Int).tmod (c : Int) = (j : Int) := by rw [Int.tmod_eq_emod_of_nonneg (by omega), ← Int.natCast_emod, hj]
 clear hj
 have n1 : (c : Int) ≠ 0 := by omega
 have i1 : (j : Int) < (c : Int) := by omega
 have hm := h.three 30 33 38 #[.int .i64 (c : Int), .int .i64 (k : Int), .int .i64 (r : Int), .slice (some ⟨aP, 0, none⟩) c cP, .slice (some ⟨aQ, 0, none⟩) c cQ] #[.int .i64 (c : Int), .int .i64 (k : Int), .int .i64 (r : Int), .slice (some ⟨aR, 0, none⟩) c cR, .slice (some ⟨aS, 0, none⟩) c cS] #[.int .i64 6, .int .i64 row, .int .i64 off, .int .i64 role, .int .u8 (col : Int), .string s]
 have hb3 : Below B w (((w.alloc (.cells #[.int .i64 (c : Int), .int .i64 (k : Int), .int .i64 (r : Int), .slice (some ⟨aP, 0, none⟩) c cP, .slice (some ⟨aQ, 0, none⟩) c cQ] 30)).alloc (.cells #[.int .i64 (c : Int), .int .i64 (k : Int), .int .i64 (r : Int), .slice (some ⟨aR, 0, none⟩) c cR, .slice (some ⟨aS, 0, none⟩) c cS] 33)).alloc (.cells #[.int .i64 6, .int .i64 row, .int .i64 off, .int .i64 role, .int .u8 (col : Int), .string s] 38)) := (((Below.refl B w).alloc h.size _).alloc (Nat.le_trans h.size (by simp)) _).alloc (Nat.le_trans h.size (by simp; omega)) _
 have HMX : Hid (Tryz.prog.follows .mixedOrders = true) := by show _ = _; kernel_rfl
 have lP0 : aP < w.heap.size := World.block_lt_of_cell? _ _ (h.cellP hjc)
 have lQ0 : aQ < w.heap.size := World.block_lt_of_cell? _ _ (h.cellQ hjc)
 have lR0 : aR < w.heap.size := World.block_lt_of_cell? _ _ (h.cellR hjc)
 have lS0 : aS < w.heap.size := World.block_lt_of_cell? _ _ (h.cellS hjc)
 clear h
 go_enter Tryz.func11, Tryz.ntmps11
 go_upto_region 1 with fail
 generalize (((w.alloc (.cells #[.int .i64 (c : Int), .int .i64 (k : Int), .int .i64 (r : Int), .slice (some ⟨aP, 0, none⟩) c cP, .slice (some ⟨aQ, 0, none⟩) c cQ] 30)).alloc (.cells #[.int .i64 (c : Int), .int .i64 (k : Int), .int .i64 (r : Int), .slice (some ⟨aR, 0, none⟩) c cR, .slice (some ⟨aS, 0, none⟩) c cS] 33)).alloc (.cells #[.int .i64 6, .int .i64 row, .int .i64 off, .int .i64 role, .int .u8 (col : Int), .string s] 38)) = W at *
 have HM : Hid (ST W B c aP cP aQ cQ aR cR aS cS C D f (L3 w.heap.size c k r aP cP aQ cQ aR cR aS cS 6 row off role col s l)) := hm
 have HB : Hid (Below B w W) := hb3
 have hS := s16 HM.out
 obtain ⟨p0, p1, p2, p3, p4, q0, q1, q2, q3, q4, a0, a1, a2, a3, a4, a5⟩ := hS
 have k0 := hm.cellP hjc
 have k2 := hm.cellR hjc
 rw [HCD.out.1] at k0
 rw [HCD.out.2] at k2
 have lb0 : w.heap.size < W.heap.size := World.block_lt_of_cell? _ _ p0
 have lb1 : w.heap.size + 1 < W.heap.size := World.block_lt_of_cell? _ _ q0
 have lb2 : w.heap.size + 1 + 1 < W.heap.size := World.block_lt_of_cell? _ _ a0
 have lP : aP < W.heap.size := World.block_lt_of_cell? _ _ k0
 have lR : aR < W.heap.size := World.block_lt_of_cell? _ _ k2
 clear hm hb3
 go_wp2_with fail
 refine (HWR.out _ HM.out).mono ?_
 rintro e w4 ⟨rfl, ht4, hb4⟩
 have T4 : Hid (ST w4 B c aP cP aQ cQ aR cR aS cS C1 D f (L3 w.heap.size c k r aP cP aQ cQ aR cR aS cS 6 row off role col s l)) := ht4
 have B4 : Hid (Below B w w4) := HB.out.trans hb4
 clear ht4 hb4 p0 p1 p2 p3 p4 q0 q1 q2 q3 q4 a0 a1 a2 a3 a4 a5 lP lR k0 k2 lb0 lb1 lb2
 obtain ⟨p0, p1, p2, p3, p4, q0, q1, q2, q3, q4, a0, a1, a2, a3, a4, a5⟩ := s16 T4.out
 have lb2 : w.heap.size + 1 + 1 < w4.heap.size := World.block_lt_of_cell? _ _ a0
 go_wp2_with fail
 refine (HWS.out _ T4.out).mono ?_
 rintro e w5 ⟨rfl, ht5, hb5⟩
 have T5 : Hid (ST w5 B c aP cP aQ cQ aR cR aS cS C1 D1 f (L3 w.heap.size c k r aP cP aQ cQ aR cR aS cS 6 row off role col s l)) := ht5
 have B5 : Hid (Below B w w5) := B4.out.trans hb5
 clear ht5 hb5 p0 p1 p2 p3 p4 q0 q1 q2 q3 q4 a0 a1 a2 a3 a4 a5 lb2
 go_wp2
 go_ret
 exact ⟨C1, D1, f, rfl, T5.out.less, HEND.out.1, HEND.out.2.1, HEND.out.2.2, B5.out⟩
end Go.Proofs.YtdgkhjgnjfgnlaaGreat
namespace Go.Proofs.YtdgkhjgnjfgnlaaGreat
open Go.RowKit
attribute [local go_sem] Oper.semAt_some
set_option maxRecDepth 100000 in
set_option maxHeartbeats 16000000 in
theorem doesS_4 (w : World) (B c k r n : Nat) (hok : Lay.ok (c : Int) (k : Int) (r : Int)) {aP cP aQ cQ aR cR aS cS : Nat} {C D : Nat → Ro.Col} {f : Nat → Int} {l : List Thing} (h : St16 w B c (.slice (some ⟨aP, 0, none⟩) c cP) (.slice (some ⟨aQ, 0, none⟩) c cQ) (.slice (some ⟨aR, 0, none⟩) c cR) (.slice (some ⟨aS, 0, none⟩) c cS) C D f f l) (hal : Ro.Alike C D) (hfC : Few16 C n) (hfD : Few16 D n) (_hn : n + 1 ≤ 1000000) (row off role : Int) (col : Nat) (hcol : col < 256) (s : ByteArray) : Calls Tryz.prog 11 #[.agg #[.int .i64 (c : Int), .int .i64 (k : Int), .int .i64 (r : Int), .slice (some ⟨aP, 0, none⟩) c cP, .slice (some ⟨aQ, 0, none⟩) c cQ], .agg #[.int .i64 (c : Int), .int .i64 (k : Int), .int .i64 (r : Int), .slice (some ⟨aR, 0, none⟩) c cR, .slice (some ⟨aS, 0, none⟩) c cS], .agg #[.int .i64 4, .int .i64 row, .int .i64 off, .int .i64 role, .int .u8 (col : Int), .string s]] w (DoesSt w B c (.slice (some ⟨aP, 0, none⟩) c cP) (.slice (some ⟨aQ, 0, none⟩) c cQ) (.slice (some ⟨aR, 0, none⟩) c cR) (.slice (some ⟨aS, 0, none⟩) c cS) l (n + 1)) := by
 have hc1 : 0 < c := by have := hok.1; omega
 obtain ⟨j, hj⟩ : ∃ j, col % c = j := ⟨_, rfl⟩
 have hjc : j < c := by rw [← hj]; exact Nat.mod_lt _ hc1
 have e1 : (col : Int).tmod (c : Int) = (j : Int) := by rw [Int.tmod_eq_emod_of_nonneg (by omega), ← Int.natCast_emod, hj]
 clear hj
 have n1 : (c : Int) ≠ 0 := by omega
 have i1 : (j : Int) < (c : Int) := by omega
 have hm := h.three 30 33 38 #[.int .i64 (c : Int), .int .i64 (k : Int), .int .i64 (r : Int), .slice (some ⟨aP, 0, none⟩) c cP, .slice (some ⟨aQ, 0, none⟩) c cQ] #[.int .i64 (c : Int), .int .i64 (k : Int), .int .i64 (r : Int), .slice (some ⟨aR, 0, none⟩) c cR, .slice (some ⟨aS, 0, none⟩) c cS] #[.int .i64 4, .int .i64 row, .int .i64 off, .int .i64 role, .int .u8 (col : Int), .string s]
 have hb3 : Below B w (((w.alloc (.cells #[.int .i64 (c : Int), .int .i64 (k : Int), .int .i64 (r : Int), .slice (some ⟨aP, 0, none⟩) c cP, .slice (some ⟨aQ, 0, none⟩) c cQ] 30)).alloc (.cells #[.int .i64 (c : Int), .int .i64 (k : Int), .int .i64 (r : Int), .slice (some ⟨aR, 0, none⟩) c cR, .slice (some ⟨aS, 0, none⟩) c cS] 33)).alloc (.cells #[.int .i64 4, .int .i64 row, .int .i64 off, .int .i64 role, .int .u8 (col : Int), .string s] 38)) := (((Below.refl B w).alloc h.size _).alloc (Nat.le_trans h.size (by simp)) _).alloc (Nat.le_trans h.size (by simp; omega)) _
 have HMX : Hid (Tryz.prog.follows .mixedOrders = true) := by show _ = _; kernel_rfl
 have lP0 : aP < w.heap.size := World.block_lt_of_cell? _ _ (h.cellP hjc)
 have lQ0 : aQ < w.heap.size := World.block_lt_of_cell? _ _ (h.cellQ hjc)
 have lR0 : aR < w.heap.size := World.block_lt_of_cell? _ _ (h.cellR hjc)
 have lS0 : aS < w.heap.size := World.block_lt_of_cell? _ _ (h.cellS hjc)
 clear h
 go_enter Tryz.func11, Tryz.ntmps11
 go_upto_region 1 with fail
 generalize (((w.alloc (.cells #[.int .i64 (c : Int), .int .i64 (k : Int), .int .i64 (r : Int), .slice (some ⟨aP, 0, none⟩) c cP, .slice (some ⟨aQ, 0, none⟩) c cQ] 30)).alloc (.cells #[.int .i64 (c : Int), .int .i64 (k : Int), .int .i64 (r : Int), .slice (some ⟨aR, 0, none⟩) c cR, .slice (some ⟨aS, 0, none⟩) c cS] 33)).alloc (.cells #[.int .i64 4, .int .i64 row, .int .i64 off, .int .i64 role, .int .u8 (col : Int), .string s] 38)) = W at *
 have HM : Hid (ST W B c aP cP aQ cQ aR cR aS cS C D f (L3 w.heap.size c k r aP cP aQ cQ aR cR aS cS 4 row off role col s l)) := hm
 have HB : Hid (Below B w W) := hb3
 have hS := s16 HM.out
 obtain ⟨p0, p1, p2, p3, p4, q0, q1, q2, q3, q4, a0, a1, a2, a3, a4, a5⟩ := hS
 have k0 := hm.cellP hjc
 have k2 := hm.cellR hjc
 obtain ⟨pC, hpC⟩ := ptr16 (C j)
 obtain ⟨pD, hpD⟩ := ptr16 (D j)
 rw [hpC] at k0
 rw [hpD] at k2
 have lb0 : w.heap.size < W.heap.size := World.block_lt_of_cell? _ _ p0
 have lb1 : w.heap.size + 1 < W.heap.size := World.block_lt_of_cell? _ _ q0
 have lb2 : w.heap.size + 1 + 1 < W.heap.size := World.block_lt_of_cell? _ _ a0
 have lP : aP < W.heap.size := World.block_lt_of_cell? _ _ k0
 have lR : aR < W.heap.size := World.block_lt_of_cell? _ _ k2
 clear hm hb3
 have d00 : aP ≠ w.heap.size := by omega
 have d01 : aP ≠ w.heap.size + 1 := by omega
 have d02 : aP ≠ w.heap.size + 1 + 1 := by omega
 have d10 : aQ ≠ w.heap.size := by omega
 have d11 : aQ ≠ w.heap.size + 1 := by omega
 have d12 : aQ ≠ w.heap.size + 1 + 1 := by omega
 have d20 : aR ≠ w.heap.size := by omega
 have d21 : aR ≠ w.heap.size + 1 := by omega
 have d22 : aR ≠ w.heap.size + 1 + 1 := by omega
 have d30 : aS ≠ w.heap.size := by omega
 have d31 : aS ≠ w.heap.size + 1 := by omega
 have d32 : aS ≠ w.heap.size + 1 + 1 := by omega
 have z1 := (two16_own0 HM.out.out rfl).frozenAt j
 have z3 := (two16_own2 HM.out.out rfl).frozenAt j
 have dPR : aP ≠ aR := many_rows_ne HM.out.out (i := 0) (j := 2) (by omega) (by omega) (by decide) two16_0 two16_2
 have dRP : aR ≠ aP := Ne.symm dPR
 have HEND : Hid (Ro.Alike (swap1 C j none) (swap1 D j none) ∧ Few16 (swap1 C j none) (n + 1) ∧ Few16 (swap1 D j none) (n + 1)) := ⟨hal.swap j rfl, hfC.swapNone.le (Nat.le_succ _), hfD.swapNone.le (Nat.le_succ _)⟩
 clear hpC hpD hal hfC hfD
 go_wp2_with fail
 go_ret
 obtain ⟨m1, o1⟩ := HM.out.goneP hjc
 obtain ⟨m2, o2⟩ := m1.goneR hjc
 exact ⟨_, _, f, rfl, m2.less, HEND.out.1, HEND.out.2.1, HEND.out.2.2, (HB.out.trans (o1.below (fun _ h => h.1) HM.out.size)).trans (o2.below (fun _ h => h.1) m1.size)⟩
set_option maxRecDepth 100000 in
set_option maxHeartbeats 16000000 in
theorem doesS_5 (w : World) (B c k r n : Nat) (hok : Lay.ok (c : Int) (k : Int) (r : Int)) {aP cP aQ cQ aR cR aS cS : Nat} {C D : Nat → Ro.Col} {f : Nat → Int} {l : List Thing} (h : St16 w B c (.slice (some ⟨aP, 0, none⟩) c cP) (.slice (some ⟨aQ, 0, none⟩) c cQ) (.slice (some ⟨aR, 0, none⟩) c cR) (.slice (some ⟨aS, 0, none⟩) c cS) C D f f l) (hal : Ro.Alike C D) (hfC : Few16 C n) (hfD : Few16 D n) (_hn : n + 1 ≤ 1000000) (row off role : Int) (col : Nat) (hcol : col < 256) (s : ByteArray) : Calls Tryz.prog 11 #[.agg #[.int .i64 (c : Int), .int .i64 (k : Int), .int .i64 (r : Int), .slice (some ⟨aP, 0, none⟩) c cP, .slice (some ⟨aQ, 0, none⟩) c cQ], .agg #[.int .i64 (c : Int), .int .i64 (k : Int), .int .i64 (r : Int), .slice (some ⟨aR, 0, none⟩) c cR, .slice (some ⟨aS, 0, none⟩) c cS], .agg #[.int .i64 5, .int .i64 row, .int .i64 off, .int .i64 role, .int .u8 (col : Int), .string s]] w (DoesSt w B c (.slice (some ⟨aP, 0, none⟩) c cP) (.slice (some ⟨aQ, 0, none⟩) c cQ) (.slice (some ⟨aR, 0, none⟩) c cR) (.slice (some ⟨aS, 0, none⟩) c cS) l (n + 1)) := by
 have hc1 : 0 < c := by have := hok.1; omega
 obtain ⟨j, hj⟩ : ∃ j, col % c = j := ⟨_, rfl⟩
 have hjc : j < c := by rw [← hj]; exact Nat.mod_lt _ hc1
 have e1 : (col : Int).tmod (c : Int) = (j : Int) := by rw [Int.tmod_eq_emod_of_nonneg (by omega), ← Int.natCast_emod, hj]
 clear hj
 have n1 : (c : Int) ≠ 0 := by omega
 have i1 : (j : Int) < (c : Int) := by omega
 have hm := h.three 30 33 38 #[.int .i64 (c : Int), .int .i64 (k : Int), .int .i64 (r : Int), .slice (some ⟨aP, 0, none⟩) c cP, .slice (some ⟨aQ, 0, none⟩) c cQ] #[.int .i64 (c : Int), .int .i64 (k : Int), .int .i64 (r : Int), .slice (some ⟨aR, 0, none⟩) c cR, .slice (some ⟨aS, 0, none⟩) c cS] #[.int .i64 5, .int .i64 row, .int .i64 off, .int .i64 role, .int .u8 (col : Int), .string s]
 have hb3 : Below B w (((w.alloc (.cells #[.int .i64 (c : Int), .int .i64 (k : Int), .int .i64 (r : Int), .slice (some ⟨aP, 0, none⟩) c cP, .slice (some ⟨aQ, 0, none⟩) c cQ] 30)).alloc (.cells #[.int .i64 (c : Int), .int .i64 (k : Int), .int .i64 (r : Int), .slice (some ⟨aR, 0, none⟩) c cR, .slice (some ⟨aS, 0, none⟩) c cS] 33)).alloc (.cells #[.int .i64 5, .int .i64 row, .int .i64 off, .int .i64 role, .int .u8 (col : Int), .string s] 38)) := (((Below.refl B w).alloc h.size _).alloc (Nat.le_trans h.size (by simp)) _).alloc (Nat.le_trans h.size (by simp; omega)) _
 have HMX : Hid (Tryz.prog.follows .mixedOrders = true) := by show _ = _; kernel_rfl
 have lP0 : aP < w.heap.size := World.block_lt_of_cell? _ _ (h.cellP hjc)
 have lQ0 : aQ < w.heap.size := World.block_lt_of_cell? _ _ (h.cellQ hjc)
 have lR0 : aR < w.heap.size := World.block_lt_of_cell? _ _ (h.cellR hjc)
 have lS0 : aS < w.heap.size := World.block_lt_of_cell? _ _ (h.cellS hjc)
 clear h
 go_enter Tryz.func11, Tryz.ntmps11
 go_upto_region 1 with fail
 generalize (((w.alloc (.cells #[.int .i64 (c : Int), .int .i64 (k : Int), .int .i64 (r : Int), .slice (some ⟨aP, 0, none⟩) c cP, .slice (some ⟨aQ, 0, none⟩) c cQ] 30)).alloc (.cells #[.int .i64 (c : Int), .int .i64 (k : Int), .int .i64 (r : Int), .slice (some ⟨aR, 0, none⟩) c cR, .slice (some ⟨aS, 0, none⟩) c cS] 33)).alloc (.cells #[.int .i64 5, .int .i64 row, .int .i64 off, .int .i64 role, .int .u8 (col : Int), .string s] 38)) = W at *
 have HM : Hid (ST W B c aP cP aQ cQ aR cR aS cS C D f (L3 w.heap.size c k r aP cP aQ cQ aR cR aS cS 5 row off role col s l)) := hm
 have HB : Hid (Below B w W) := hb3
 have hS := s16 HM.out
 obtain ⟨p0, p1, p2, p3, p4, q0, q1, q2, q3, q4, a0, a1, a2, a3, a4, a5⟩ := hS
 have k0 := hm.cellP hjc
 have k2 := hm.cellR hjc
 obtain ⟨pC, hpC⟩ := ptr16 (C j)
 obtain ⟨pD, hpD⟩ := ptr16 (D j)
 rw [hpC] at k0
 rw [hpD] at k2
 have lb0 : w.heap.size < W.heap.size := World.block_lt_of_cell? _ _ p0
 have lb1 : w.heap.size + 1 < W.heap.size := World.block_lt_of_cell? _ _ q0
 have lb2 : w.heap.size + 1 + 1 < W.heap.size := World.block_lt_of_cell? _ _ a0
 have lP : aP < W.heap.size := World.block_lt_of_cell? _ _ k0
 have lR : aR < W.heap.size := World.block_lt_of_cell? _ _ k2
 clear hm hb3
 have d00 : aP ≠ w.heap.size := by omega
 have d01 : aP ≠ w.heap.size + 1 := by omega
 have d02 : aP ≠ w.heap.size + 1 + 1 := by omega
 have d10 : aQ ≠ w.heap.size := by omega
 have d11 : aQ ≠ w.heap.size + 1 := by omega
 have d12 : aQ ≠ w.heap.size + 1 + 1 := by omega
 have d20 : aR ≠ w.heap.size := by omega
 have d21 : aR ≠ w.heap.size + 1 := by omega
 have d22 : aR ≠ w.heap.size + 1 + 1 := by omega
 have d30 : aS ≠ w.heap.size := by omega
 have d31 : aS ≠ w.heap.size + 1 := by omega
 have d32 : aS ≠ w.heap.size + 1 + 1 := by omega
 have z1 := (two16_own1 HM.out.out rfl).frozenAt j
 have z3 := (two16_own3 HM.out.out rfl).frozenAt j
 have k1 := HM.out.cellQ hjc
 have k3 := HM.out.cellS hjc
 have lQ : aQ < W.heap.size := World.block_lt_of_cell? _ _ k1
 have lS : aS < W.heap.size := World.block_lt_of_cell? _ _ k3
 have dPR : aQ ≠ aS := many_rows_ne HM.out.out (i := 1) (j := 3) (by omega) (by omega) (by decide) two16_1 two16_3
 have dRP : aS ≠ aQ := Ne.symm dPR
 have HEND : Hid (Ro.Alike C D ∧ Few16 C (n + 1) ∧ Few16 D (n + 1)) := ⟨hal, hfC.le (Nat.le_succ _), hfD.le (Nat.le_succ _)⟩
 clear hpC hpD hal hfC hfD
 go_wp2_with fail
 go_ret
 obtain ⟨m1, o1⟩ := HM.out.setQ j row
 obtain ⟨m2, o2⟩ := m1.setS j row
 exact ⟨C, D, _, rfl, m2.less, HEND.out.1, HEND.out.2.1, HEND.out.2.2, (HB.out.trans (o1.below (fun _ h => h.1) HM.out.size)).trans (o2.below (fun _ h => h.1) m1.size)⟩
set_option maxRecDepth 100000 in
set_option maxHeartbeats 16000000 in
theorem doesS_else (w : World) (B c k r n : Nat) (hok : Lay.ok (c : Int) (k : Int) (r : Int)) {aP cP aQ cQ aR cR aS cS : Nat} {C D : Nat → Ro.Col} {f : Nat → Int} {l : List Thing} (h : St16 w B c (.slice (some ⟨aP, 0, none⟩) c cP) (.slice (some ⟨aQ, 0, none⟩) c cQ) (.slice (some ⟨aR, 0, none⟩) c cR) (.slice (some ⟨aS, 0, none⟩) c cS) C D f f l) (hal : Ro.Alike C D) (hfC : Few16 C n) (hfD : Few16 D n) (_hn : n + 1 ≤ 1000000) (row off role : Int) (col : Nat) (hcol : col < 256) (s : ByteArray) (kd : Int) (hkd : kd < 0 ∨ 7 < kd) : Calls Tryz.prog 11 #[.agg #[.int .i64 (c : Int), .int .i64 (k : Int), .int .i64 (r : Int), .slice (some ⟨aP, 0, none⟩) c cP, .slice (some ⟨aQ, 0, none⟩) c cQ], .agg #[.int .i64 (c : Int), .int .i64 (k : Int), .int .i64 (r : Int), .slice (some ⟨aR, 0, none⟩) c cR, .slice (some ⟨aS, 0, none⟩) c cS], .agg #[.int .i64 kd, .int .i64 row, .int .i64 off, .int .i64 role, .int .u8 (col : Int), .string s]] w (DoesSt w B c (.slice (some ⟨aP, 0, none⟩) c cP) (.slice (some ⟨aQ, 0, none⟩) c cQ) (.slice (some ⟨aR, 0, none⟩) c cR) (.slice (some ⟨aS, 0, none⟩) c cS) l (n + 1)) := by
 have v0 : (kd == 0) = false := by rw [beq_eq_false_iff_ne]; omega
 have v1 : (kd == 1) = false := by rw [beq_eq_false_iff_ne]; omega
 have v2 : (kd == 2) = false := by rw [beq_eq_false_iff_ne]; omega
 have v3 : (kd == 3) = false := by rw [beq_eq_false_iff_ne]; omega
 have v4 : (kd == 4) = false := by rw [beq_eq_false_iff_ne]; omega
 have v5 : (kd == 5) = false := by rw [beq_eq_false_iff_ne]; omega
 have v6 : (kd == 6) = false := by rw [beq_eq_false_iff_ne]; omega
 have v7 : (kd == 7) = false := by rw [beq_eq_false_iff_ne]; omega
 clear hkd
 have hc1 : 0 < c := by have := hok.1; omega
 obtain ⟨j, hj⟩ : ∃ j, col % c = j := ⟨_, rfl⟩
 have hjc : j < c := by rw [← hj]; exact Nat.mod_lt _ hc1
 have e1 : (col : Int).tmod (c : Int) = (j : Int) := by rw [Int.tmod_eq_emod_of_nonneg (by omega), ← Int.natCast_emod, hj]
 clear hj
 have n1 : (c : Int) ≠ 0 := by omega
 have i1 : (j : Int) < (c : Int) := by omega
 have hm := h.three 30 33 38 #[.int .i64 (c : Int), .int .i64 (k : Int), .int .i64 (r : Int), .slice (some ⟨aP, 0, none⟩) c cP, .slice (some ⟨aQ, 0, none⟩) c cQ] #[.int .i64 (c : Int), .int .i64 (k : Int), .int .i64 (r : Int), .slice (some ⟨aR, 0, none⟩) c cR, .slice (some ⟨aS, 0, none⟩) c cS] #[.int .i64 kd, .int .i64 row, .int .i64 off, .int .i64 role, .int .u8 (col : Int), .string s]
 have hb3 : Below B w (((w.alloc (.cells #[.int .i64 (c : Int), .int .i64 (k : Int), .int .i64 (r : Int), .slice (some ⟨aP, 0, none⟩) c cP, .slice (some ⟨aQ, 0, none⟩) c cQ] 30)).alloc (.cells #[.int .i64 (c : Int), .int .i64 (k : Int), .int .i64 (r : Int), .slice (some ⟨aR, 0, none⟩) c cR, .slice (some ⟨aS, 0, none⟩) c cS] 33)).alloc (.cells #[.int .i64 kd, .int .i64 row, .int .i64 off, .int .i64 role, .int .u8 (col : Int), .string s] 38)) := (((Below.refl B w).alloc h.size _).alloc (Nat.le_trans h.size (by simp)) _).alloc (Nat.le_trans h.size (by simp; omega)) _
 have HMX : Hid (Tryz.prog.follows .mixedOrders = true) := by show _ = _; kernel_rfl
 have lP0 : aP < w.heap.size := World.block_lt_of_cell? _ _ (h.cellP hjc)
 have lQ0 : aQ < w.heap.size := World.block_lt_of_cell? _ _ (h.cellQ hjc)
 have lR0 : aR < w.heap.size := World.block_lt_of_cell? _ _ (h.cellR hjc)
 have lS0 : aS < w.heap.size := World.block_lt_of_cell? _ _ (h.cellS hjc)
 clear h
 go_enter Tryz.func11, Tryz.ntmps11
 go_upto_region 1 with fail
 generalize (((w.alloc (.cells #[.int .i64 (c : Int), .int .i64 (k : Int), .int .i64 (r : Int), .slice (some ⟨aP, 0, none⟩) c cP, .slice (some ⟨aQ, 0, none⟩) c cQ] 30)).alloc (.cells #[.int .i64 (c : Int), .int .i64 (k : Int), .int .i64 (r : Int), .slice (some ⟨aR, 0, none⟩) c cR, .slice (some ⟨aS, 0, none⟩) c cS] 33)).alloc (.cells #[.int .i64 kd, .int .i64 row, .int .i64 off, .int .i64 role, .int .u8 (col : Int), .string s] 38)) = W at *
 have HM : Hid (ST W B c aP cP aQ cQ aR cR aS cS C D f (L3 w.heap.size c k r aP cP aQ cQ aR cR aS cS kd row off role col s l)) := hm
 have HB : Hid (Below B w W) := hb3
 have hS := s16 HM.out
 obtain ⟨p0, p1, p2, p3, p4, q0, q1, q2, q3, q4, a0, a1, a2, a3, a4, a5⟩ := hS
 have k0 := hm.cellP hjc
 have k2 := hm.cellR hjc
 obtain ⟨pC, hpC⟩ := ptr16 (C j)
 obtain ⟨pD, hpD⟩ := ptr16 (D j)
 rw [hpC] at k0
 rw [hpD] at k2
 have lb0 : w.heap.size < W.heap.size := World.block_lt_of_cell? _ _ p0
 have lb1 : w.heap.size + 1 < W.heap.size := World.block_lt_of_cell? _ _ q0
 have lb2 : w.heap.size + 1 + 1 < W.heap.size := World.block_lt_of_cell? _ _ a0
 have lP : aP < W.heap.size := World.block_lt_of_cell? _ _ k0
 have lR : aR < W.heap.size := World.block_lt_of_cell? _ _ k2
 clear hm hb3
 clear hpC hpD
 go_wp2_with fail
 go_ret
 exact ⟨C, D, f, rfl, HM.out.less, hal, hfC.le (Nat.le_succ _), hfD.le (Nat.le_succ _), HB.out⟩
set_option maxRecDepth 100000 in
set_option maxHeartbeats 16000000 in
theorem doesS_none2 (w : World) (B c k r n : Nat) (hok : Lay.ok (c : Int) (k : Int) (r : Int)) {aP cP aQ cQ aR cR aS cS : Nat} {C D : Nat → Ro.Col} {f : Nat → Int} {l : List Thing} (h : St16 w B c (.slice (some ⟨aP, 0, none⟩) c cP) (.slice (some ⟨aQ, 0, none⟩) c cQ) (.slice (some ⟨aR, 0, none⟩) c cR) (.slice (some ⟨aS, 0, none⟩) c cS) C D f f l) (hal : Ro.Alike C D) (hfC : Few16 C n) (hfD : Few16 D n) (_hn : n + 1 ≤ 1000000) (row off role : Int) (col : Nat) (hcol : col < 256) (s : ByteArray) (hC : C (col % c) = none) : Calls Tryz.prog 11 #[.agg #[.int .i64 (c : Int), .int .i64 (k : Int), .int .i64 (r : Int), .slice (some ⟨aP, 0, none⟩) c cP, .slice (some ⟨aQ, 0, none⟩) c cQ], .agg #[.int .i64 (c : Int), .int .i64 (k : Int), .int .i64 (r : Int), .slice (some ⟨aR, 0, none⟩) c cR, .slice (some ⟨aS, 0, none⟩) c cS], .agg #[.int .i64 2, .int .i64 row, .int .i64 off, .int .i64 role, .int .u8 (col : Int), .string s]] w (DoesSt w B c (.slice (some ⟨aP, 0, none⟩) c cP) (.slice (some ⟨aQ, 0, none⟩) c cQ) (.slice (some ⟨aR, 0, none⟩) c cR) (.slice (some ⟨aS, 0, none⟩) c cS) l (n + 1)) := by
 have HCD : Hid (Ro.ptr (C (col % c)) = .pointer none ∧ Ro.ptr (D (col % c)) = .pointer none) := by
  have hx := hal (col % c)
  rw [hC] at hx ⊢
  cases hy : D (col % c) with
  | none => exact ⟨rfl, rfl⟩
  | some y => rw [hy] at hx; cases hx
 clear hC
 have hc1 : 0 < c := by have := hok.1; omega
 obtain ⟨j, hj⟩ : ∃ j, col % c = j := ⟨_, rfl⟩
 rw [hj] at HCD
 have hjc : j < c := by rw [← hj]; exact Nat.mod_lt _ hc1
 have e1 : (col : Int).tmod (c : Int) = (j : Int) := by rw [Int.tmod_eq_emod_of_nonneg (by omega), ← Int.natCast_emod, hj]
 clear hj
 have n1 : (c : Int) ≠ 0 := by omega
 have i1 : (j : Int) < (c : Int) := by omega
 have hm := h.three 30 33 38 #[.int .i64 (c : Int), .int .i64 (k : Int), .int .i64 (r : Int), .slice (some ⟨aP, 0, none⟩) c cP, .slice (some ⟨aQ, 0, none⟩) c cQ] #[.int .i64 (c : Int), .int .i64 (k : Int), .int .i64 (r : Int), .slice (some ⟨aR, 0, none⟩) c cR, .slice (some ⟨aS, 0, none⟩) c cS] #[.int .i64 2, .int .i64 row, .int .i64 off, .int .i64 role, .int .u8 (col : Int), .string s]
 have hb3 : Below B w (((w.alloc (.cells #[.int .i64 (c : Int), .int .i64 (k : Int), .int .i64 (r : Int), .slice (some ⟨aP, 0, none⟩) c cP, .slice (some ⟨aQ, 0, none⟩) c cQ] 30)).alloc (.cells #[.int .i64 (c : Int), .int .i64 (k : Int), .int .i64 (r : Int), .slice (some ⟨aR, 0, none⟩) c cR, .slice (some ⟨aS, 0, none⟩) c cS] 33)).alloc (.cells #[.int .i64 2, .int .i64 row, .int .i64 off, .int .i64 role, .int .u8 (col : Int), .string s] 38)) := (((Below.refl B w).alloc h.size _).alloc (Nat.le_trans h.size (by simp)) _).alloc (Nat.le_trans h.size (by simp; omega)) _
 have HMX : Hid (Tryz.prog.follows .mixedOrders = true) := by show _ = _; kernel_rfl
 have lP0 : aP < w.heap.size := World.block_lt_of_cell? _ _ (h.cellP hjc)
 have lQ0 : aQ < w.heap.size := World.block_lt_of_cell? _ _ (h.cellQ hjc)
 have lR0 : aR < w.heap.size := World.block_lt_of_cell? _ _ (h.cellR hjc)
 have lS0 : aS < w.heap.size := World.block_lt_of_cell? _ _ (h.cellS hjc)
 clear h
 go_enter Tryz.func11, Tryz.ntmps11
 go_upto_region 1 with fail
 generalize (((w.alloc (.cells #[.int .i64 (c : Int), .int .i64 (k : Int), .int .i64 (r : Int), .slice (some ⟨aP, 0, none⟩) c cP, .slice (some ⟨aQ, 0, none⟩) c cQ] 30)).alloc (.cells #[.int .i64 (c : Int), .int .i64 (k : Int), .int .i64 (r : Int), .slice (some ⟨aR, 0, none⟩) c cR, .slice (some ⟨aS, 0, none⟩) c cS] 33)).alloc (.cells #[.int .i64 2, .int .i64 row, .int .i64 off, .int .i64 role, .int .u8 (col : Int), .string s] 38)) = W at *
 have HM : Hid (ST W B c aP cP aQ cQ aR cR aS cS C D f (L3 w.heap.size c k r aP cP aQ cQ aR cR aS cS 2 row off role col s l)) := hm
 have HB : Hid (Below B w W) := hb3
 have hS := s16 HM.out
 obtain ⟨p0, p1, p2, p3, p4, q0, q1, q2, q3, q4, a0, a1, a2, a3, a4, a5⟩ := hS
 have k0 := hm.cellP hjc
 have k2 := hm.cellR hjc
 rw [HCD.out.1] at k0
 rw [HCD.out.2] at k2
 have lb0 : w.heap.size < W.heap.size := World.block_lt_of_cell? _ _ p0
 have lb1 : w.heap.size + 1 < W.heap.size := World.block_lt_of_cell? _ _ q0
 have lb2 : w.heap.size + 1 + 1 < W.heap.size := World.block_lt_of_cell? _ _ a0
 have lP : aP < W.heap.size := World.block_lt_of_cell? _ _ k0
 have lR : aR < W.heap.size := World.block_lt_of_cell? _ _ k2
 clear hm hb3
 go_upto_region 10 with fail
 go_quiet (fail)
 go_wp2_with fail
 go_ret
 have dn : ∀ (V : World) q, Below V.heap.size V (V.drewN q) := fun _ _ => ⟨rfl, rfl, rfl, Nat.le_refl _, fun _ _ => rfl⟩
 exact ⟨C, D, f, rfl, (HM.out.below (dn _ _)).less, hal, hfC.le (Nat.le_succ _), hfD.le (Nat.le_succ _), HB.out.trans ((dn _ _).mono HM.out.size)⟩
set_option maxRecDepth 100000 in
set_option maxHeartbeats 16000000 in
theorem doesS_none3 (w : World) (B c k r n : Nat) (hok : Lay.ok (c : Int) (k : Int) (r : Int)) {aP cP aQ cQ aR cR aS cS : Nat} {C D : Nat → Ro.Col} {f : Nat → Int} {l : List Thing} (h : St16 w B c (.slice (some ⟨aP, 0, none⟩) c cP) (.slice (some ⟨aQ, 0, none⟩) c cQ) (.slice (some ⟨aR, 0, none⟩) c cR) (.slice (some ⟨aS, 0, none⟩) c cS) C D f f l) (hal : Ro.Alike C D) (hfC : Few16 C n) (hfD : Few16 D n) (_hn : n + 1 ≤ 1000000) (row off role : Int) (col : Nat) (hcol : col < 256) (s : ByteArray) (hC : C (col % c) = none) : Calls Tryz.prog 11 #[.agg #[.int .i64 (c : Int), .int .i64 (k : Int), .int .i64 (r : Int), .slice (some ⟨aP, 0, none⟩) c cP, .slice (some ⟨aQ, 0, none⟩) c cQ], .agg #[.int .i64 (c : Int), .int .i64 (k : Int), .int .i64 (r : Int), .slice (some ⟨aR, 0, none⟩) c cR, .slice (some ⟨aS, 0, none⟩) c cS], .agg #[.int .i64 3, .int .i64 row, .int .i64 off, .int .i64 role, .int .u8 (col : Int), .string s]] w (DoesSt w B c (.slice (some ⟨aP, 0, none⟩) c cP) (.slice (some ⟨aQ, 0, none⟩) c cQ) (.slice (some ⟨aR, 0, none⟩) c cR) (.slice (some ⟨aS, 0, none⟩) c cS) l (n + 1)) := by
 have HCD : Hid (Ro.ptr (C (col % c)) = .pointer none ∧ Ro.ptr (D (col % c)) = .pointer none) := by
  have hx := hal (col % c)
  rw [hC] at hx ⊢
  cases hy : D (col % c) with
  | none => exact ⟨rfl, rfl⟩
  | some y => rw [hy] at hx; cases hx
 clear hC
 have hc1 : 0 < c := by have := hok.1; omega
 obtain ⟨j, hj⟩ : ∃ j, col % c = j := ⟨_, rfl⟩
 rw [hj] at HCD
 have hjc : j < c := by rw [← hj]; exact Nat.mod_lt _ hc1
 have e1 : (col : Int).tmod (c : Int) = (j : Int) := by rw [Int.tmod_eq_emod_of_nonneg (by omega), ← Int.natCast_emod, hj]
 clear hj
 have n1 : (c : Int) ≠ 0 := by omega
 have i1 : (j : Int) < (c : Int) := by omega
 have hm := h.three 30 33 38 #[.int .i64 (c : Int), .int .i64 (k : Int), .int .i64 (r : Int), .slice (some ⟨aP, 0, none⟩) c cP, .slice (some ⟨aQ, 0, none⟩) c cQ] #[.int .i64 (c : Int), .int .i64 (k : Int), .int .i64 (r : Int), .slice (some ⟨aR, 0, none⟩) c cR, .slice (some ⟨aS, 0, none⟩) c cS] #[.int .i64 3, .int .i64 row, .int .i64 off, .int .i64 role, .int .u8 (col : Int), .string s]
 have hb3 : Below B w (((w.alloc (.cells #[.int .i64 (c : Int), .int .i64 (k : Int), .int .i64 (r : Int), .slice (some ⟨aP, 0, none⟩) c cP, .slice (some ⟨aQ, 0, none⟩) c cQ] 30)).alloc (.cells #[.int .i64 (c : Int), .int .i64 (k : Int), .int .i64 (r : Int), .slice (some ⟨aR, 0, none⟩) c cR, .slice (some ⟨aS, 0, none⟩) c cS] 33)).alloc (.cells #[.int .i64 3, .int .i64 row, .int .i64 off, .int .i64 role, .int .u8 (col : Int), .string s] 38)) := (((Below.refl B w).alloc h.size _).alloc (Nat.le_trans h.size (by simp)) _).alloc (Nat.le_trans h.size (by simp; omega)) _
 have HMX : Hid (Tryz.prog.follows .mixedOrders = true) := by show _ = _; kernel_rfl
 have lP0 : aP < w.heap.size := World.block_lt_of_cell? _ _ (h.cellP hjc)
 have lQ0 : aQ < w.heap.size := World.block_lt_of_cell? _ _ (h.cellQ hjc)
 have lR0 : aR < w.heap.size := World.block_lt_of_cell? _ _ (h.cellR hjc)
 have lS0 : aS < w.heap.size := World.block_lt_of_cell? _ _ (h.cellS hjc)
 clear h
 go_enter Tryz.func11, Tryz.ntmps11
 go_upto_region 1 with fail
 generalize (((w.alloc (.cells #[.int .i64 (c : Int), .int .i64 (k : Int), .int .i64 (r : Int), .slice (some ⟨aP, 0, none⟩) c cP, .slice (some ⟨aQ, 0, none⟩) c cQ] 30)).alloc (.cells #[.int .i64 (c : Int), .int .i64 (k : Int), .int .i64 (r : Int), .slice (some ⟨aR, 0, none⟩) c cR, .slice (some ⟨aS, 0, none⟩) c cS] 33)).alloc (.cells #[.int .i64 3, .int .i64 row, .int .i64 off, .int .i64 role, .int .u8 (col : Int), .string s] 38)) = W at *
 have HM : Hid (ST W B c aP cP aQ cQ aR cR aS cS C D f (L3 w.heap.size c k r aP cP aQ cQ aR cR aS cS 3 row off role col s l)) := hm
 have HB : Hid (Below B w W) := hb3
 have hS := s16 HM.out
 obtain ⟨p0, p1, p2, p3, p4, q0, q1, q2, q3, q4, a0, a1, a2, a3, a4, a5⟩ := hS
 have k0 := hm.cellP hjc
 have k2 := hm.cellR hjc
 rw [HCD.out.1] at k0
 rw [HCD.out.2] at k2
 have lb0 : w.heap.size < W.heap.size := World.block_lt_of_cell? _ _ p0
 have lb1 : w.heap.size + 1 < W.heap.size := World.block_lt_of_cell? _ _ q0
 have lb2 : w.heap.size + 1 + 1 < W.heap.size := World.block_lt_of_cell? _ _ a0
 have lP : aP < W.heap.size := World.block_lt_of_cell? _ _ k0
 have lR : aR < W.heap.size := World.block_lt_of_cell? _ _ k2
 clear hm hb3
 go_wp2_with fail
 go_ret
 exact ⟨C, D, f, rfl, HM.out.less, hal, hfC.le (Nat.le_succ _), hfD.le (Nat.le_succ _), HB.out⟩
set_option maxRecDepth 100000 in
set_option maxHeartbeats 16000000 in
theorem doesS_none6 (w : World) (B c k r n : Nat) (hok : Lay.ok (c : Int) (k : Int) (r : Int)) {aP cP aQ cQ aR cR aS cS : Nat} {C D : Nat → Ro.Col} {f : Nat → Int} {l : List Thing} (h : St16 w B c (.slice (some ⟨aP, 0, none⟩) c cP) (.slice (some ⟨aQ, 0, none⟩) c cQ) (.slice (some ⟨aR, 0, none⟩) c cR) (.slice (some ⟨aS, 0, none⟩) c cS) C D f f l) (hal : Ro.Alike C D) (hfC : Few16 C n) (hfD : Few16 D n) (_hn : n + 1 ≤ 1000000) (row off role : Int) (col : Nat) (hcol : col < 256) (s : ByteArray) (hC : C (col % c) = none) : Calls Tryz.prog 11 #[.agg #[.int .i64 (c : Int), .int .i64 (k : Int), .int .i64 (r : Int), .slice (some ⟨aP, 0, none⟩) c cP, .slice (some ⟨aQ, 0, none⟩) c cQ], .agg #[.int .i64 (c : Int), .int .i64 (k : Int), .int .i64 (r : Int), .slice (some ⟨aR, 0, none⟩) c cR, .slice (some ⟨aS, 0, none⟩) c cS], .agg #[.int .i64 6, .int .i64 row, .int .i64 off, .int .i64 role, .int .u8 (col : Int), .string s]] w (DoesSt w B c (.slice (some ⟨aP, 0, none⟩) c cP) (.slice (some ⟨aQ, 0, none⟩) c cQ) (.slice (some ⟨aR, 0, none⟩) c cR) (.slice (some ⟨aS, 0, none⟩) c cS) l (n + 1)) := by
 have HCD : Hid (Ro.ptr (C (col % c)) = .pointer none ∧ Ro.ptr (D (col % c)) = .pointer none) := by
  have hx := hal (col % c)
  rw [hC] at hx ⊢
  cases hy : D (col % c) with
  | none => exact ⟨rfl, rfl⟩
  | some y => rw [hy] at hx; cases hx
 clear hC
 have hc1 : 0 < c := by have := hok.1; omega
 obtain ⟨j, hj⟩ : ∃ j, col % c = j := ⟨_, rfl⟩
 rw [hj] at HCD
 have hjc : j < c := by rw [← hj]; exact Nat.mod_lt _ hc1
 have e1 : (col : Int).tmod (c : Int) = (j : Int) := by rw [Int.tmod_eq_emod_of_nonneg (by omega), ← Int.natCast_emod, hj]
 clear hj
 have n1 : (c : Int) ≠ 0 := by omega
 have i1 : (j : Int) < (c : Int) := by omega
 have hm := h.three 30 33 38 #[.int .i64 (c : Int), .int .i64 (k : Int), .int .i64 (r : Int), .slice (some ⟨aP, 0, none⟩) c cP, .slice (some ⟨aQ, 0, none⟩) c cQ] #[.int .i64 (c : Int), .int .i64 (k : Int), .int .i64 (r : Int), .slice (some ⟨aR, 0, none⟩) c cR, .slice (some ⟨aS, 0, none⟩) c cS] #[.int .i64 6, .int .i64 row, .int .i64 off, .int .i64 role, .int .u8 (col : Int), .string s]
 have hb3 : Below B w (((w.alloc (.cells #[.int .i64 (c : Int), .int .i64 (k : Int), .int .i64 (r : Int), .slice (some ⟨aP, 0, none⟩) c cP, .slice (some ⟨aQ, 0, none⟩) c cQ] 30)).alloc (.cells #[.int .i64 (c : Int), .int .i64 (k : Int), .int .i64 (r : Int), .slice (some ⟨aR, 0, none⟩) c cR, .slice (some ⟨aS, 0, none⟩) c cS] 33)).alloc (.cells #[.int .i64 6, .int .i64 row, .int .i64 off, .int .i64 role, .int .u8 (col : Int), .string s] 38)) := (((Below.refl B w).alloc h.size _).alloc (Nat.le_trans h.size (by simp)) _).alloc (Nat.le_trans h.size (by simp; omega)) _
 have HMX : Hid (Tryz.prog.follows .mixedOrders = true) := by show _ = _; kernel_rfl
 have lP0 : aP < w.heap.size := World.block_lt_of_cell? _ _ (h.cellP hjc)
 have lQ0 : aQ < w.heap.size := World.block_lt_of_cell? _ _ (h.cellQ hjc)
 have lR0 : aR < w.heap.size := World.block_lt_of_cell? _ _ (h.cellR hjc)
 have lS0 : aS < w.heap.size := World.block_lt_of_cell? _ _ (h.cellS hjc)
 clear h
 go_enter Tryz.func11, Tryz.ntmps11
 go_upto_region 1 with fail
 generalize (((w.alloc (.cells #[.int .i64 (c : Int), .int .i64 (k : Int), .int .i64 (r : Int), .slice (some ⟨aP, 0, none⟩) c cP, .slice (some ⟨aQ, 0, none⟩) c cQ] 30)).alloc (.cells #[.int .i64 (c : Int), .int .i64 (k : Int), .int .i64 (r : Int), .slice (some ⟨aR, 0, none⟩) c cR, .slice (some ⟨aS, 0, none⟩) c cS] 33)).alloc (.cells #[.int .i64 6, .int .i64 row, .int .i64 off, .int .i64 role, .int .u8 (col : Int), .string s] 38)) = W at *
 have HM : Hid (ST W B c aP cP aQ cQ aR cR aS cS C D f (L3 w.heap.size c k r aP cP aQ cQ aR cR aS cS 6 row off role col s l)) := hm
 have HB : Hid (Below B w W) := hb3
 have hS := s16 HM.out
 obtain ⟨p0, p1, p2, p3, p4, q0, q1, q2, q3, q4, a0, a1, a2, a3, a4, a5⟩ := hS
 have k0 := hm.cellP hjc
 have k2 := hm.cellR hjc
 rw [HCD.out.1] at k0
 rw [HCD.out.2] at k2
 have lb0 : w.heap.size < W.heap.size := World.block_lt_of_cell? _ _ p0
 have lb1 : w.heap.size + 1 < W.heap.size := World.block_lt_of_cell? _ _ q0
 have lb2 : w.heap.size + 1 + 1 < W.heap.size := World.block_lt_of_cell? _ _ a0
 have lP : aP < W.heap.size := World.block_lt_of_cell? _ _ k0
 have lR : aR < W.heap.size := World.block_lt_of_cell? _ _ k2
 clear hm hb3
 go_wp2_with fail
 go_ret
 exact ⟨C, D, f, rfl, HM.out.less, hal, hfC.le (Nat.le_succ _), hfD.le (Nat.le_succ _), HB.out⟩
theorem doesS_any (w : World) (B c k r n : Nat) (hok : Lay.ok (c : Int) (k : Int) (r : Int)) {aP cP aQ cQ aR cR aS cS : Nat} {C D : Nat → Ro.Col} {f : Nat → Int} {l : List Thing} (h : St16 w B c (.slice (some ⟨aP, 0, none⟩) c cP) (.slice (some ⟨aQ, 0, none⟩) c cQ) (.slice (some ⟨aR, 0, none⟩) c cR) (.slice (some ⟨aS, 0, none⟩) c cS) C D f f l) (hal : Ro.Alike C D) (hfC : Few16 C n) (hfD : Few16 D n) (hn : n + 1 ≤ 1000000) (row off role : Int) (col : Nat) (hcol : col < 256) (s : ByteArray) (kd : Int) (hs : s.size ≤ 100) (hoff : off ≤ 9223372036854775807) : Calls Tryz.prog 11 #[.agg #[.int .i64 (c : Int), .int .i64 (k : Int), .int .i64 (r : Int), .slice (some ⟨aP, 0, none⟩) c cP, .slice (some ⟨aQ, 0, none⟩) c cQ], .agg #[.int .i64 (c : Int), .int .i64 (k : Int), .int .i64 (r : Int), .slice (some ⟨aR, 0, none⟩) c cR, .slice (some ⟨aS, 0, none⟩) c cS], .agg #[.int .i64 kd, .int .i64 row, .int .i64 off, .int .i64 role, .int .u8 (col : Int), .string s]] w (DoesSt w B c (.slice (some ⟨aP, 0, none⟩) c cP) (.slice (some ⟨aQ, 0, none⟩) c cQ) (.slice (some ⟨aR, 0, none⟩) c cR) (.slice (some ⟨aS, 0, none⟩) c cS) l (n + 1)) := by
 by_cases hk : kd < 0 ∨ 7 < kd
 ·exact doesS_else w B c k r n hok h hal hfC hfD hn row off role col hcol s kd hk
 ·have : kd = 0 ∨ kd = 1 ∨ kd = 2 ∨ kd = 3 ∨ kd = 4 ∨ kd = 5 ∨ kd = 6 ∨ kd = 7 := by omega
  rcases this with rfl | rfl | rfl | rfl | rfl | rfl | rfl | rfl
  ·exact doesS_0 w B c k r n hok h hal hfC hfD hn row off role col hcol s hs
  ·exact doesS_1 w B c k r n hok h hal hfC hfD hn row off role col hcol s
  ·cases hC : C (col % c) with
   | none => exact doesS_none2 w B c k r n hok h hal hfC hfD hn row off role col hcol s hC
   | some x => exact doesS_2 w B c k r n hok h hal hfC hfD hn row off role col hcol s hC
  ·cases hC : C (col % c) with
   | none => exact doesS_none3 w B c k r n hok h hal hfC hfD hn row off role col hcol s hC
   | some x => exact doesS_3 w B c k r n hok h hal hfC hfD hn row off role col hcol s hC
  ·exact doesS_4 w B c k r n hok h hal hfC hfD hn row off role col hcol s
  ·exact doesS_5 w B c k r n hok h hal hfC hfD hn row off role col hcol s
  ·cases hC : C (col % c) with
   | none => exact doesS_none6 w B c k r n hok h hal hfC hfD hn row off role col hcol s hC
   | some x => exact doesS_6 w B c k r n hok h hal hfC hfD hn row off role col hcol s hoff hC
  ·exact doesS_7 w B c k r n hok h hal hfC hfD hn row off role col hcol s
end Go.Proofs.YtdgkhjgnjfgnlaaGreat
