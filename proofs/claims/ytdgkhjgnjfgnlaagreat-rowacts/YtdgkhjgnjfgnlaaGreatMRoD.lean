import Derived.Test.YtdgkhjgnjfgnlaaGreatMRoC
import Derived.Test.YtdgkhjgnjfgnlaaGreatMKitG
namespace Go.Proofs.YtdgkhjgnjfgnlaaGreat
open Go.RowKit
attribute [local go_sem] Oper.semAt_some
def Dr.wrote (D : Dr) (i : Int) (s : ByteArray) : Dr := if D.takeE i s.size = 0 then D.write i.toNat s.data.toList else D
def Dr.flushed (D : Dr) : Dr := if D.runsE = 0 then D.flush else D
theorem pWrite_any {w : World} {p : Nat} {D : Dr} {G : Nat → Prop} (h : RefAt w p D G) (i : Int) (hlen : ∀ j, (D.writes j).length ≤ 1000000) (s : ByteArray) :
  Calls Tryz.prog 72 #[.pointer (some ⟨p, 0, none⟩), .int .i64 i, .string s] w fun e w' => e = .returned (.int .i64 (D.takeE i s.size : Nat)) ∧ RefAt w' p (D.wrote i s) (Plus G w.heap.size) ∧ Only G w w' := by
 have hm : RefAt w p D (Plus G w.heap.size) := h.mono fun k hk => .inl hk
 unfold Dr.wrote
 by_cases hr : D.reachE i = 0
 ·by_cases hs : s.size = 64
  ·obtain ⟨_, hb⟩ := Dr.reach_has hr
   obtain ⟨j, rfl, hj⟩ := Dr.hasB_nat hb
   have e : D.takeE (j : Int) s.size = 0 := by unfold Dr.takeE; rw [if_pos hr, if_pos hs]
   rw [e, if_pos rfl, Int.toNat_natCast]
   exact pWrite_yes h j hj hr (hlen j) s hs
  ·have e : D.takeE i s.size = 1 := by unfold Dr.takeE; rw [if_pos hr, if_neg hs]
   rw [e, if_neg (by decide)]
   refine (pWrite_bad h i s hr hs).mono ?_
   rintro e w' ⟨rfl, rfl⟩
   exact ⟨rfl, hm, Only.refl _ _⟩
 ·have e : D.takeE i s.size = D.reachE i := by unfold Dr.takeE; rw [if_neg hr]
  rw [e, if_neg hr]
  refine (pWrite_no h i s hr).mono ?_
  rintro e w' ⟨rfl, rfl⟩
  exact ⟨rfl, hm, Only.refl _ _⟩
theorem pFlush_any {w : World} {p : Nat} {D : Dr} {G : Nat → Prop} (h : RefAt w p D G) (hlen : ∀ j, (D.writes j).length ≤ 1000000) :
  Calls Tryz.prog 74 #[.pointer (some ⟨p, 0, none⟩)] w fun e w' => e = .returned (.int .i64 (D.runsE : Nat)) ∧ RefAt w' p D.flushed G ∧ Only G w w' := by
 unfold Dr.flushed
 cases hd : D.dead with
 | true =>
  have e : D.runsE = 40 := by unfold Dr.runsE; rw [hd]; rfl
  rw [e, if_neg (by decide)]
  refine (rFlush_no h hd).mono ?_
  rintro e w' ⟨rfl, rfl⟩
  exact ⟨rfl, h, Only.refl _ _⟩
 | false =>
  cases ho : D.isOff with
  | true =>
   have e : D.runsE = 42 := by unfold Dr.runsE; rw [hd]; unfold Dr.isOff at ho; rw [ho]; rfl
   rw [e, if_neg (by decide)]
   refine (pFlush_off h ho hd).mono ?_
   rintro e w' ⟨rfl, rfl⟩
   exact ⟨rfl, h, Only.refl _ _⟩
  | false =>
   have e : D.runsE = 0 := by unfold Dr.runsE; rw [hd]; unfold Dr.isOff at ho; rw [ho]; rfl
   rw [e, if_pos rfl]
   exact pFlush_yes h ho hd hlen
def refC : Ro.Col → Thing
 | none => Thing.none
 | some x => refT x.1 x.2
structure RefM (w : World) (B m : Nat) (T : Nat → Thing) (ri bi o : Nat) (da : Option Addr) (dn dcap : Nat) (ba : Option Addr) (bn bcap : Nat) (C : Nat → Ro.Col) (bf : Nat → Int) : Prop where
 many : Many w B m T
 hri : ri < m
 hbi : bi < m
 ho : o + dn ≤ m
 row : ∃ L, T ri = rowT 67 (.slice da dn dcap) L ∧ L.length = dn ∧ ∀ i, i < dn → L[i]? = some (Ro.ptr (C i))
 built : ∃ L, T bi = rowT 3 (.slice ba bn bcap) L ∧ L.length = bn ∧ ∀ i, i < bn → L[i]? = some (.int .i64 (bf i))
 drv : ∀ i, i < dn → T (o + i) = refC (C i)
 ro : ¬ (o ≤ ri ∧ ri < o + dn)
 bo : ¬ (o ≤ bi ∧ bi < o + dn)
section
variable {w w' : World} {B m : Nat} {T : Nat → Thing} {ri bi o : Nat} {da ba : Option Addr} {dn dcap bn bcap : Nat} {C : Nat → Ro.Col} {bf : Nat → Int}
theorem RefM.set (h : RefM w B m T ri bi o da dn dcap ba bn bcap C bf) : RefSet w da dn ba bn C bf := by
 refine ⟨fun j hj => ?_, fun j hj => ?_, fun i p D hi e => ?_⟩
 ·obtain ⟨L, e, hl, hL⟩ := h.row
  obtain ⟨F, hF, _⟩ := h.many.look h.hri
  rw [e] at hF
  obtain ⟨g, cp, hv, hc⟩ := rowT_at hF (hL j hj)
  injection hv with hv1 _ _
  exact ⟨g, 0, hv1, by rw [Nat.zero_add]; exact hc⟩
 ·obtain ⟨L, e, hl, hL⟩ := h.built
  obtain ⟨F, hF, _⟩ := h.many.look h.hbi
  rw [e] at hF
  obtain ⟨g, cp, hv, hc⟩ := rowT_at hF (hL j hj)
  injection hv with hv1 _ _
  exact ⟨g, 0, hv1, by rw [Nat.zero_add]; exact hc⟩
 ·obtain ⟨F, hF, _⟩ := h.many.look (i := o + i) (by have := h.ho; omega)
  rw [h.drv i hi, e] at hF
  exact ⟨F, hF⟩
theorem RefM.below (h : RefM w B m T ri bi o da dn dcap ba bn bcap C bf) (hb : Below w.heap.size w w') : RefM w' B m T ri bi o da dn dcap ba bn bcap C bf :=
 ⟨h.many.below hb, h.hri, h.hbi, h.ho, h.row, h.built, h.drv, h.ro, h.bo⟩
theorem RefM.call (h : RefM w B m T ri bi o da dn dcap ba bn bcap C bf) {z p : Nat} {D D' : Dr} (hz : z < dn) (hC : C z = some (p, D)) {f : FuncId} {args : Array Value} {Q : Ending → Prop}
  (hc : ∀ G, RefAt w p D G → Calls Tryz.prog f args w fun e w' => Q e ∧ RefAt w' p D' (Plus G w.heap.size) ∧ Only G w w') :
  Calls Tryz.prog f args w fun e w' => Q e ∧ Many w' B m (spread T o dn (fun i => refC (swap1 C z (some (p, D')) i))) ∧ Only (fun k => B ≤ k ∧ k < w.heap.size) w w' := by
 have ho := h.ho
 refine (h.many.call (i := o + z) (by omega) (refT p D') (Q := Q) (fun F hF _ => ?_)).mono ?_
 ·rw [h.drv z hz, hC] at hF
  exact hc F hF
 ·rintro e w' ⟨hq, hm, hO⟩
  refine ⟨hq, hm.congr fun j _ => ?_, hO⟩
  have hsp : ∀ j, spread T o dn (fun i => refC (C i)) j = T j := spread_same h.drv
  have e1 : swap1 T (o + z) (refT p D') j = swap1 (spread T o dn (fun i => refC (C i))) (o + z) (refT p D') j := by unfold swap1; rw [hsp j]
  rw [e1, spread_put _ _ _ _ hz]
  unfold spread
  split
  ·unfold swap1
   by_cases hj : j - o = z
   ·show (if j - o = z then refT p D' else refC (C (j - o))) = refC (if j - o = z then some (p, D') else C (j - o))
    rw [if_pos hj, if_pos hj]; rfl
   ·show (if j - o = z then refT p D' else refC (C (j - o))) = refC (if j - o = z then some (p, D') else C (j - o))
    rw [if_neg hj, if_neg hj]
  ·rfl
end
namespace Ro
section
variable (c k r dn bn : Nat) (C : Nat → Col) (row off role : Int) (s : ByteArray)
def roleB : Bool := decide (0 ≤ role) && decide (role < (c : Int))
def colE : Col → Nat
 | none => 40
 | some x => if x.2.dead then 40 else x.2.takeE (4 + row * (k : Int) + off) s.size
def colC : Col → Col
 | none => none
 | some x => if x.2.dead then some x else some (x.1, x.2.wrote (4 + row * (k : Int) + off) s)
def wrE : Nat := if chk c k r dn bn C row off = 0 then (if roleB c role then colE k row off s (C (colN c row.toNat role.toNat)) else 70) else chk c k r dn bn C row off
def wrC : Nat → Col := if chk c k r dn bn C row off = 0 then (if roleB c role then swap1 C (colN c row.toNat role.toNat) (colC k row off s (C (colN c row.toNat role.toNat))) else C) else C
end
end Ro
def WrAns (w : World) (B m : Nat) (T : Nat → Thing) (o dn : Nat) (E : Nat) (C' : Nat → Ro.Col) (e : Ending) (w' : World) : Prop :=
 e = .returned (.int .i64 (E : Int)) ∧ Many w' B m (spread T o dn (fun i => refC (C' i))) ∧ Only (fun k => B ≤ k ∧ k < w.heap.size) w w'
section
variable {c k r : Nat} {w : World} {B m : Nat} {T : Nat → Thing} {ri bi o : Nat} {da ba : Option Addr} {dn dcap bn bcap : Nat} {C : Nat → Ro.Col} {bf : Nat → Int}
theorem RefM.same (h : RefM w B m T ri bi o da dn dcap ba bn bcap C bf) {w' : World} (hb : Below w.heap.size w w') (E : Nat) : WrAns w B m T o dn E C (.returned (.int .i64 (E : Int))) w' :=
 ⟨rfl, (h.many.below hb).congr fun j _ => (spread_same h.drv j).symm, Only.of_below hb _⟩
set_option maxRecDepth 100000 in
set_option maxHeartbeats 4000000 in
theorem rWrite16_no (h : RefM w B m T ri bi o da dn dcap ba bn bcap C bf) (hok : Lay.ok (c : Int) (k : Int) (r : Int)) (hdn : dn ≤ 1000000) (row off role : Int) (s : ByteArray) (hno : Ro.chk c k r dn bn C row off ≠ 0) :
  Calls Tryz.prog 34 #[.agg #[.int .i64 (c : Int), .int .i64 (k : Int), .int .i64 (r : Int), .slice da dn dcap, .slice ba bn bcap], .int .i64 row, .int .i64 off, .int .i64 role, .string s] w fun e w' => e = .returned (.int .i64 (Ro.chk c k r dn bn C row off : Nat)) ∧ Below w.heap.size w w' := by
 have X0 : Hid (At5 w w.heap.size c k r (.slice da dn dcap) (.slice ba bn bcap) (w.alloc (.cells #[.int .i64 (c : Int), .int .i64 (k : Int), .int .i64 (r : Int), .slice da dn dcap, .slice ba bn bcap] 33))) := At5.new _ _ _ _ _ _ _
 have hm := rCheck16 (dcap := dcap) (bcap := bcap) hok hdn row off _ (h.set.below X0.out.2.2.2.2.2)
 obtain ⟨E, hE⟩ : ∃ E, Ro.chk c k r dn bn C row off = E := ⟨_, rfl⟩
 rw [hE] at hm hno ⊢
 have hne : ((E : Int) != 0) = true := by rw [bne_iff_ne]; omega
 have HM : Hid (Calls Tryz.prog 42 #[.agg #[.int .i64 (c : Int), .int .i64 (k : Int), .int .i64 (r : Int), .slice da dn dcap, .slice ba bn bcap], .int .i64 row, .int .i64 off] (w.alloc (.cells #[.int .i64 (c : Int), .int .i64 (k : Int), .int .i64 (r : Int), .slice da dn dcap, .slice ba bn bcap] 33)) fun e w' => e = .returned (.int .i64 (E : Int)) ∧ Below (w.alloc (.cells #[.int .i64 (c : Int), .int .i64 (k : Int), .int .i64 (r : Int), .slice da dn dcap, .slice ba bn bcap] 33)).heap.size (w.alloc (.cells #[.int .i64 (c : Int), .int .i64 (k : Int), .int .i64 (r : Int), .slice da dn dcap, .slice ba bn bcap] 33)) w') := hm
 have hlast : w.heap.size < (w.alloc (.cells #[.int .i64 (c : Int), .int .i64 (k : Int), .int .i64 (r : Int), .slice da dn dcap, .slice ba bn bcap] 33)).heap.size := World.block_lt_of_cell? _ _ X0.out.1
 obtain ⟨k0, k1, k2, k3, k4, _⟩ := X0.out
 clear hm hE h hok hno
 go_enter Tryz.func34, Tryz.ntmps34
 go_wp2_with fail
 refine HM.out.mono ?_
 rintro e w1 ⟨rfl, hb1⟩
 have B1 : Hid (Below w.heap.size w w1) := (X0.out.kept hb1).2.2.2.2.2
 clear hb1
 go_wp2
 go_ret
 exact ⟨rfl, B1.out⟩
set_option maxRecDepth 100000 in
set_option maxHeartbeats 4000000 in
theorem rWrite16_out (h : RefM w B m T ri bi o da dn dcap ba bn bcap C bf) (hok : Lay.ok (c : Int) (k : Int) (r : Int)) (hdn : dn ≤ 1000000) (row off role : Int) (s : ByteArray) (hyes : Ro.chk c k r dn bn C row off = 0) (hi : Ro.roleB c role = false) :
  Calls Tryz.prog 34 #[.agg #[.int .i64 (c : Int), .int .i64 (k : Int), .int .i64 (r : Int), .slice da dn dcap, .slice ba bn bcap], .int .i64 row, .int .i64 off, .int .i64 role, .string s] w fun e w' => e = .returned (.int .i64 70) ∧ Below w.heap.size w w' := by
 have X0 : Hid (At5 w w.heap.size c k r (.slice da dn dcap) (.slice ba bn bcap) (w.alloc (.cells #[.int .i64 (c : Int), .int .i64 (k : Int), .int .i64 (r : Int), .slice da dn dcap, .slice ba bn bcap] 33))) := At5.new _ _ _ _ _ _ _
 have hm := rCheck16 (dcap := dcap) (bcap := bcap) hok hdn row off _ (h.set.below X0.out.2.2.2.2.2)
 rw [hyes] at hm
 have HM : Hid (Calls Tryz.prog 42 #[.agg #[.int .i64 (c : Int), .int .i64 (k : Int), .int .i64 (r : Int), .slice da dn dcap, .slice ba bn bcap], .int .i64 row, .int .i64 off] (w.alloc (.cells #[.int .i64 (c : Int), .int .i64 (k : Int), .int .i64 (r : Int), .slice da dn dcap, .slice ba bn bcap] 33)) fun e w' => e = .returned (.int .i64 0) ∧ Below (w.alloc (.cells #[.int .i64 (c : Int), .int .i64 (k : Int), .int .i64 (r : Int), .slice da dn dcap, .slice ba bn bcap] 33)).heap.size (w.alloc (.cells #[.int .i64 (c : Int), .int .i64 (k : Int), .int .i64 (r : Int), .slice da dn dcap, .slice ba bn bcap] 33)) w') := hm
 have hlast : w.heap.size < (w.alloc (.cells #[.int .i64 (c : Int), .int .i64 (k : Int), .int .i64 (r : Int), .slice da dn dcap, .slice ba bn bcap] 33)).heap.size := World.block_lt_of_cell? _ _ X0.out.1
 unfold Ro.roleB at hi
 have hd : decide (role < 0) = true ∨ (decide (role < 0) = false ∧ decide ((c : Int) ≤ role) = true) := by
  by_cases h0 : role < 0
  ·exact .inl (decide_eq_true h0)
  ·refine .inr ⟨decide_eq_false h0, decide_eq_true ?_⟩
   rw [decide_eq_true (show 0 ≤ role by omega), Bool.true_and, decide_eq_false_iff_not] at hi
   omega
 clear hm h hok hyes hi
 rcases hd with u1 | ⟨u1, u2⟩
 ·obtain ⟨k0, k1, k2, k3, k4, _⟩ := X0.out
  go_enter Tryz.func34, Tryz.ntmps34
  go_wp2_with fail
  refine HM.out.mono ?_
  rintro e w1 ⟨rfl, hb1⟩
  obtain ⟨j0, j1, j2, j3, j4, jb⟩ := X0.out.kept hb1
  have B1 : Hid (Below w.heap.size w w1) := jb
  have hl1 : w.heap.size < w1.heap.size := World.block_lt_of_cell? _ _ j0
  clear hb1 jb
  go_wp2
  go_ret
  exact ⟨rfl, B1.out⟩
 ·obtain ⟨k0, k1, k2, k3, k4, _⟩ := X0.out
  go_enter Tryz.func34, Tryz.ntmps34
  go_wp2_with fail
  refine HM.out.mono ?_
  rintro e w1 ⟨rfl, hb1⟩
  obtain ⟨j0, j1, j2, j3, j4, jb⟩ := X0.out.kept hb1
  have B1 : Hid (Below w.heap.size w w1) := jb
  have hl1 : w.heap.size < w1.heap.size := World.block_lt_of_cell? _ _ j0
  clear hb1 jb
  go_wp2
  go_ret
  exact ⟨rfl, B1.out⟩
set_option maxRecDepth 100000 in
set_option maxHeartbeats 8000000 in
theorem rWrite16_yes (h : RefM w B m T ri bi o da c dcap ba c bcap C bf) (hok : Lay.ok (c : Int) (k : Int) (r : Int)) (hlen : ∀ i x, C i = some x → ∀ j, (x.2.writes j).length ≤ 1000000) (row off role : Nat) (hrow : row < r) (hro : role < c) (s : ByteArray) (hyes : Ro.chk c k r c c C (row : Int) (off : Int) = 0) :
  Calls Tryz.prog 34 #[.agg #[.int .i64 (c : Int), .int .i64 (k : Int), .int .i64 (r : Int), .slice da c dcap, .slice ba c bcap], .int .i64 (row : Int), .int .i64 (off : Int), .int .i64 (role : Int), .string s] w
   (WrAns w B m T o c (Ro.colE k (row : Int) (off : Int) s (C (Ro.colN c row role))) (swap1 C (Ro.colN c row role) (Ro.colC k (row : Int) (off : Int) s (C (Ro.colN c row role))))) := by
 have hc10 : c ≤ 10 := by have := hok.1; omega
 have X0 : Hid (At5 w w.heap.size c k r (.slice da c dcap) (.slice ba c bcap) (w.alloc (.cells #[.int .i64 (c : Int), .int .i64 (k : Int), .int .i64 (r : Int), .slice da c dcap, .slice ba c bcap] 33))) := At5.new _ _ _ _ _ _ _
 have hm := rCheck16 (dcap := dcap) (bcap := bcap) hok (by omega) (row : Int) (off : Int) _ (h.set.below X0.out.2.2.2.2.2)
 rw [hyes] at hm
 have HM : Hid (Calls Tryz.prog 42 #[.agg #[.int .i64 (c : Int), .int .i64 (k : Int), .int .i64 (r : Int), .slice da c dcap, .slice ba c bcap], .int .i64 (row : Int), .int .i64 (off : Int)] (w.alloc (.cells #[.int .i64 (c : Int), .int .i64 (k : Int), .int .i64 (r : Int), .slice da c dcap, .slice ba c bcap] 33)) fun e w' => e = .returned (.int .i64 0) ∧ Below (w.alloc (.cells #[.int .i64 (c : Int), .int .i64 (k : Int), .int .i64 (r : Int), .slice da c dcap, .slice ba c bcap] 33)).heap.size (w.alloc (.cells #[.int .i64 (c : Int), .int .i64 (k : Int), .int .i64 (r : Int), .slice da c dcap, .slice ba c bcap] 33)) w') := hm
 have hoff := (Ro.chk_yes hyes).2.2.1.2
 have hz := Ro.colN_lt (c := c) (row := row) (role := role) (by omega)
 have hcol := fun W => rRole16 (da := da) (ba := ba) (dn := c) (dcap := dcap) (bn := c) (bcap := bcap) hok row role hrow hro W
 have HSEC : Hid (∀ W, Calls Tryz.prog 46 #[.agg #[.int .i64 (c : Int), .int .i64 (k : Int), .int .i64 (r : Int)], .int .i64 (row : Int), .int .i64 (off : Int)] W fun e w' => e = .returned (.int .i64 (4 + (row : Int) * (k : Int) + (off : Int))) ∧ Below W.heap.size W w') := fun W => by
  have h := rSector_any (c : Int) (k : Int) (r : Int) (row : Int) (off : Int) W
  rw [show Lay.sectI (c : Int) (k : Int) (r : Int) (row : Int) (off : Int) = 4 + (row : Int) * (k : Int) + (off : Int) from if_pos ⟨⟨hok, by omega, by omega⟩, hoff⟩] at h
  exact h
 obtain ⟨z, hzz⟩ : ∃ z, Ro.colN c row role = z := ⟨_, rfl⟩
 rw [hzz] at hz hcol ⊢
 have HCOL : Hid (∀ W, Calls Tryz.prog 43 #[.agg #[.int .i64 (c : Int), .int .i64 (k : Int), .int .i64 (r : Int), .slice da c dcap, .slice ba c bcap], .int .i64 (row : Int), .int .i64 (role : Nat)] W fun e w' => e = .returned (.int .i64 (z : Nat)) ∧ Below W.heap.size W w') := hcol
 have hlast : w.heap.size < (w.alloc (.cells #[.int .i64 (c : Int), .int .i64 (k : Int), .int .i64 (r : Int), .slice da c dcap, .slice ba c bcap] 33)).heap.size := World.block_lt_of_cell? _ _ X0.out.1
 have t1 : decide ((role : Int) < 0) = false := decide_eq_false (by omega)
 have t2 : decide ((c : Int) ≤ (role : Int)) = false := decide_eq_false (by omega)
 have t3 : ¬ (role : Int) < 0 := by omega
 have t4 : ¬ (c : Int) ≤ (role : Int) := by omega
 have hzi : (z : Int) < (c : Int) := by omega
 have H : Hid (RefM w B m T ri bi o da c dcap ba c bcap C bf) := h
 have hcell := h.set.row z hz
 have hsame : ∀ x, C z = x → ∀ j, refC (swap1 C z x j) = refC (C j) := fun x e j => by
  unfold swap1; split
  ·rename_i hj; rw [hj, e]
  ·rfl
 cases hC : C z with
 | none =>
  rw [hC] at hcell
  obtain ⟨b1, o1, rfl, hp⟩ := hcell
  have HP : Hid (w.cell? ⟨b1, o1 + z, none⟩ = some (.pointer none)) := hp
  have HSA : Hid (swap1 C z none = C) := by
   show _ = _
   funext j; unfold swap1; split
   ·rename_i hj; rw [hj, hC]
   ·rfl
  show Calls _ _ _ _ (WrAns w B m T o c 40 (swap1 C z none))
  rw [HSA.out]
  obtain ⟨k0, k1, k2, k3, k4, _⟩ := X0.out
  clear hm h hok hyes hrow hro hoff hzz hcol hsame hC hp hlen
  go_enter Tryz.func34, Tryz.ntmps34
  go_wp2_with fail
  refine HM.out.mono ?_
  rintro e w1 ⟨rfl, hb1⟩
  have R1 : Hid (At5 w w.heap.size c k r (.slice (some ⟨b1, o1, none⟩) c dcap) (.slice ba c bcap) w1) := X0.out.kept hb1
  obtain ⟨j0, j1, j2, j3, j4, _⟩ := R1.out
  have hl1 : w.heap.size < w1.heap.size := World.block_lt_of_cell? _ _ j0
  have hp1 := (R1.out.2.2.2.2.2.cell (p := ⟨b1, o1 + z, none⟩) (World.block_lt_of_cell? w _ HP.out)).trans HP.out
  have hS0 : w1.drew.cell? ⟨w.heap.size, 0, none⟩ = some (.int .i64 (c : Int)) ∧ w1.drew.cell? ⟨w.heap.size, 1, none⟩ = some (.int .i64 (k : Int)) ∧ w1.drew.cell? ⟨w.heap.size, 2, none⟩ = some (.int .i64 (r : Int)) ∧ w1.drew.cell? ⟨w.heap.size, 3, none⟩ = some (.slice (some ⟨b1, o1, none⟩) c dcap) ∧ w1.drew.cell? ⟨w.heap.size, 4, none⟩ = some (.slice ba c bcap) ∧ w1.drew.cell? ⟨b1, o1 + z, none⟩ = some (.pointer none) ∧ Below w.heap.size w w1.drew := ⟨j0, j1, j2, j3, j4, hp1, R1.out.2.2.2.2.2.drew⟩
  clear hb1 k0 k1 k2 k3 k4 hlast X0
  go_wp2_with fail
  go_region_held3 (fun W => W.cell? ⟨w.heap.size, 0, none⟩ = some (.int .i64 (c : Int)) ∧ W.cell? ⟨w.heap.size, 1, none⟩ = some (.int .i64 (k : Int)) ∧ W.cell? ⟨w.heap.size, 2, none⟩ = some (.int .i64 (r : Int)) ∧ W.cell? ⟨w.heap.size, 3, none⟩ = some (.slice (some ⟨b1, o1, none⟩) c dcap) ∧ W.cell? ⟨w.heap.size, 4, none⟩ = some (.slice ba c bcap) ∧ W.cell? ⟨b1, o1 + z, none⟩ = some (.pointer none) ∧ Below w.heap.size w W) (first | exact hS0 | assumption) (first | (go_at_call 43; refine (HCOL.out _).mono ?_; rintro e w4 ⟨rfl, hb4⟩; have hs4 := keep_sd hb4 (by assumption); have R4 : Hid (At5 w w.heap.size c k r (.slice (some ⟨b1, o1, none⟩) c dcap) (.slice ba c bcap) w4) := R1.out.kept ((Below.refl _ w1).drew.trans hb4); obtain ⟨g0, g1, g2, g3, g4, _⟩ := R4.out; have hl4 : w.heap.size < w4.heap.size := World.block_lt_of_cell? _ _ g0; clear hb4))
  all_goals
   go_wp2
   go_ret
   exact H.out.same R4.out.2.2.2.2.2 40
 | some x =>
  obtain ⟨p, D⟩ := x
  rw [hC] at hcell
  obtain ⟨b1, o1, rfl, hp⟩ := hcell
  have HP : Hid (w.cell? ⟨b1, o1 + z, none⟩ = some (.pointer (some ⟨p, 0, none⟩))) := hp
  obtain ⟨G, hG⟩ := h.set.drv z p D hz hC
  obtain ⟨_, hdd, _⟩ := hG.seen
  have hpl := World.block_lt_of_cell? w _ hdd
  have HDD : Hid (w.cell? ⟨p, 3, none⟩ = some (.bool D.dead) ∧ p < w.heap.size) := ⟨hdd, hpl⟩
  cases hd : D.dead with
  | true =>
   have e1 : Ro.colE k (row : Int) (off : Int) s (some (p, D)) = 40 := by show (if D.dead then 40 else _) = 40; rw [hd]; rfl
   have e2 : Ro.colC k (row : Int) (off : Int) s (some (p, D)) = some (p, D) := by show (if D.dead then some (p, D) else _) = _; rw [hd]; rfl
   have HSA : Hid (swap1 C z (some (p, D)) = C) := by
    show _ = _
    funext j; unfold swap1; split
    ·rename_i hj; rw [hj, hC]
    ·rfl
   rw [e1, e2, HSA.out]
   rw [hd] at HDD
   obtain ⟨k0, k1, k2, k3, k4, _⟩ := X0.out
   clear hm h hok hyes hrow hro hoff hzz hcol hsame hC hp hlen hG hdd hpl hd e1 e2
   go_enter Tryz.func34, Tryz.ntmps34
   go_wp2_with fail
   refine HM.out.mono ?_
   rintro e w1 ⟨rfl, hb1⟩
   have R1 : Hid (At5 w w.heap.size c k r (.slice (some ⟨b1, o1, none⟩) c dcap) (.slice ba c bcap) w1) := X0.out.kept hb1
   obtain ⟨j0, j1, j2, j3, j4, _⟩ := R1.out
   have hl1 : w.heap.size < w1.heap.size := World.block_lt_of_cell? _ _ j0
   have hp1 := (R1.out.2.2.2.2.2.cell (p := ⟨b1, o1 + z, none⟩) (World.block_lt_of_cell? w _ HP.out)).trans HP.out
   have hS0 : w1.drew.cell? ⟨w.heap.size, 0, none⟩ = some (.int .i64 (c : Int)) ∧ w1.drew.cell? ⟨w.heap.size, 1, none⟩ = some (.int .i64 (k : Int)) ∧ w1.drew.cell? ⟨w.heap.size, 2, none⟩ = some (.int .i64 (r : Int)) ∧ w1.drew.cell? ⟨w.heap.size, 3, none⟩ = some (.slice (some ⟨b1, o1, none⟩) c dcap) ∧ w1.drew.cell? ⟨w.heap.size, 4, none⟩ = some (.slice ba c bcap) ∧ w1.drew.cell? ⟨b1, o1 + z, none⟩ = some (.pointer (some ⟨p, 0, none⟩)) ∧ Below w.heap.size w w1.drew := ⟨j0, j1, j2, j3, j4, hp1, R1.out.2.2.2.2.2.drew⟩
   clear hb1 k0 k1 k2 k3 k4 hlast X0
   go_wp2_with fail
   go_region_held3 (fun W => W.cell? ⟨w.heap.size, 0, none⟩ = some (.int .i64 (c : Int)) ∧ W.cell? ⟨w.heap.size, 1, none⟩ = some (.int .i64 (k : Int)) ∧ W.cell? ⟨w.heap.size, 2, none⟩ = some (.int .i64 (r : Int)) ∧ W.cell? ⟨w.heap.size, 3, none⟩ = some (.slice (some ⟨b1, o1, none⟩) c dcap) ∧ W.cell? ⟨w.heap.size, 4, none⟩ = some (.slice ba c bcap) ∧ W.cell? ⟨b1, o1 + z, none⟩ = some (.pointer (some ⟨p, 0, none⟩)) ∧ Below w.heap.size w W) (first | exact hS0 | assumption) (first | (go_at_call 43; refine (HCOL.out _).mono ?_; rintro e w4 ⟨rfl, hb4⟩; have hs4 := keep_sd hb4 (by assumption); have R4 : Hid (At5 w w.heap.size c k r (.slice (some ⟨b1, o1, none⟩) c dcap) (.slice ba c bcap) w4) := R1.out.kept ((Below.refl _ w1).drew.trans hb4); obtain ⟨g0, g1, g2, g3, g4, _⟩ := R4.out; have hl4 : w.heap.size < w4.heap.size := World.block_lt_of_cell? _ _ g0; clear hb4))
   all_goals
    have hdw := (R4.out.2.2.2.2.2.cell (p := ⟨p, 3, none⟩) HDD.out.2).trans HDD.out.1
    go_wp2
    go_ret
    exact H.out.same R4.out.2.2.2.2.2 40
  | false =>
   have e1 : Ro.colE k (row : Int) (off : Int) s (some (p, D)) = D.takeE (4 + (row : Int) * (k : Int) + (off : Int)) s.size := by show (if D.dead then 40 else _) = _; rw [hd]; rfl
   have e2 : Ro.colC k (row : Int) (off : Int) s (some (p, D)) = some (p, D.wrote (4 + (row : Int) * (k : Int) + (off : Int)) s) := by show (if D.dead then some (p, D) else _) = _; rw [hd]; rfl
   rw [e1, e2]
   rw [hd] at HDD
   have hwl := hlen z (p, D) hC
   obtain ⟨sc, hsc⟩ : ∃ sc, 4 + (row : Int) * (k : Int) + (off : Int) = sc := ⟨_, rfl⟩
   rw [hsc]
   have HSE : Hid (∀ W, Calls Tryz.prog 46 #[.agg #[.int .i64 (c : Int), .int .i64 (k : Int), .int .i64 (r : Int)], .int .i64 (row : Int), .int .i64 (off : Int)] W fun e w' => e = .returned (.int .i64 sc) ∧ Below W.heap.size W w') := fun W => by rw [← hsc]; exact HSEC.out W
   have HWR : Hid (∀ W, Below w.heap.size w W → Calls Tryz.prog 72 #[.pointer (some ⟨p, 0, none⟩), .int .i64 sc, .string s] W fun e w' => e = .returned (.int .i64 (D.takeE sc s.size : Nat)) ∧ Many w' B m (spread T o c (fun i => refC (swap1 C z (some (p, D.wrote sc s)) i))) ∧ Only (fun k => B ≤ k ∧ k < W.heap.size) W w') := fun W hW =>
    (H.out.below hW).call hz hC (fun G hG => pWrite_any hG sc hwl s)
   obtain ⟨k0, k1, k2, k3, k4, _⟩ := X0.out
   clear hm h hok hyes hrow hro hoff hzz hcol hsame hC hp hlen hG hdd hpl hd e1 e2 hsc hwl HSEC
   go_enter Tryz.func34, Tryz.ntmps34
   go_wp2_with fail
   refine HM.out.mono ?_
   rintro e w1 ⟨rfl, hb1⟩
   have R1 : Hid (At5 w w.heap.size c k r (.slice (some ⟨b1, o1, none⟩) c dcap) (.slice ba c bcap) w1) := X0.out.kept hb1
   obtain ⟨j0, j1, j2, j3, j4, _⟩ := R1.out
   have hl1 : w.heap.size < w1.heap.size := World.block_lt_of_cell? _ _ j0
   have hp1 := (R1.out.2.2.2.2.2.cell (p := ⟨b1, o1 + z, none⟩) (World.block_lt_of_cell? w _ HP.out)).trans HP.out
   have hS0 : w1.drew.cell? ⟨w.heap.size, 0, none⟩ = some (.int .i64 (c : Int)) ∧ w1.drew.cell? ⟨w.heap.size, 1, none⟩ = some (.int .i64 (k : Int)) ∧ w1.drew.cell? ⟨w.heap.size, 2, none⟩ = some (.int .i64 (r : Int)) ∧ w1.drew.cell? ⟨w.heap.size, 3, none⟩ = some (.slice (some ⟨b1, o1, none⟩) c dcap) ∧ w1.drew.cell? ⟨w.heap.size, 4, none⟩ = some (.slice ba c bcap) ∧ w1.drew.cell? ⟨b1, o1 + z, none⟩ = some (.pointer (some ⟨p, 0, none⟩)) ∧ Below w.heap.size w w1.drew := ⟨j0, j1, j2, j3, j4, hp1, R1.out.2.2.2.2.2.drew⟩
   clear hb1 k0 k1 k2 k3 k4 hlast X0
   go_wp2_with fail
   go_region_held3 (fun W => W.cell? ⟨w.heap.size, 0, none⟩ = some (.int .i64 (c : Int)) ∧ W.cell? ⟨w.heap.size, 1, none⟩ = some (.int .i64 (k : Int)) ∧ W.cell? ⟨w.heap.size, 2, none⟩ = some (.int .i64 (r : Int)) ∧ W.cell? ⟨w.heap.size, 3, none⟩ = some (.slice (some ⟨b1, o1, none⟩) c dcap) ∧ W.cell? ⟨w.heap.size, 4, none⟩ = some (.slice ba c bcap) ∧ W.cell? ⟨b1, o1 + z, none⟩ = some (.pointer (some ⟨p, 0, none⟩)) ∧ Below w.heap.size w W) (first | exact hS0 | assumption) (first | (go_at_call 43; refine (HCOL.out _).mono ?_; rintro e w4 ⟨rfl, hb4⟩; have hs4 := keep_sd hb4 (by assumption); have R4 : Hid (At5 w w.heap.size c k r (.slice (some ⟨b1, o1, none⟩) c dcap) (.slice ba c bcap) w4) := R1.out.kept ((Below.refl _ w1).drew.trans hb4); obtain ⟨g0, g1, g2, g3, g4, _⟩ := R4.out; have hl4 : w.heap.size < w4.heap.size := World.block_lt_of_cell? _ _ g0; clear hb4))
   all_goals
    have hdw := (R4.out.2.2.2.2.2.cell (p := ⟨p, 3, none⟩) HDD.out.2).trans HDD.out.1
    have hpl4 : p < w4.heap.size := World.block_lt_of_cell? _ _ hdw
    have B4 : Hid (Below w.heap.size w w4) := R4.out.2.2.2.2.2
    go_wp2_with fail
    refine (HSE.out _).mono ?_
    rintro e w5 ⟨rfl, hb5⟩
    have B5 : Hid (Below w.heap.size w w5) := B4.out.trans (hb5.mono B4.out.size)
    clear hb5
    go_wp2_with fail
    refine (HWR.out _ B5.out).mono ?_
    rintro e w6 ⟨rfl, hm6, ho6⟩
    have M6 : Hid (Many w6 B m (spread T o c (fun i => refC (swap1 C z (some (p, D.wrote sc s)) i)))) := hm6
    have O6 : Hid (Only (fun k => B ≤ k ∧ k < w.heap.size) w w6) := (Only.of_below B5.out _).trans (ho6.mono fun k hk => by
     by_cases hkw : k < w.heap.size
     ·exact .inl ⟨hk.1, hkw⟩
     ·exact .inr (by omega))
    clear hm6 ho6
    go_wp2
    go_ret
    exact ⟨rfl, M6.out, O6.out⟩
theorem rWrite16_any (h : RefM w B m T ri bi o da dn dcap ba bn bcap C bf) (hok : Lay.ok (c : Int) (k : Int) (r : Int)) (hdn : dn ≤ 1000000) (hlen : ∀ i x, C i = some x → ∀ j, (x.2.writes j).length ≤ 1000000) (row off role : Int) (s : ByteArray) :
  Calls Tryz.prog 34 #[.agg #[.int .i64 (c : Int), .int .i64 (k : Int), .int .i64 (r : Int), .slice da dn dcap, .slice ba bn bcap], .int .i64 row, .int .i64 off, .int .i64 role, .string s] w
   (WrAns w B m T o dn (Ro.wrE c k r dn bn C row off role s) (Ro.wrC c k r dn bn C row off role s)) := by
 unfold Ro.wrE Ro.wrC
 by_cases hc : Ro.chk c k r dn bn C row off = 0
 ·rw [if_pos hc, if_pos hc]
  cases hi : Ro.roleB c role with
  | false =>
   rw [if_neg (by decide), if_neg (by decide)]
   refine (rWrite16_out h hok hdn row off role s hc hi).mono ?_
   rintro e w' ⟨rfl, hb⟩
   exact h.same hb 70
  | true =>
   rw [if_pos rfl, if_pos rfl]
   have hy := Ro.chk_yes hc
   obtain ⟨h1, h2, ⟨⟨r1, r2⟩, o1, o2⟩, _⟩ := hy
   subst h1
   subst h2
   unfold Ro.roleB at hi
   simp only [Bool.and_eq_true, decide_eq_true_eq] at hi
   obtain ⟨R, rfl⟩ : ∃ R : Nat, row = (R : Int) := ⟨row.toNat, by omega⟩
   obtain ⟨O, rfl⟩ : ∃ O : Nat, off = (O : Int) := ⟨off.toNat, by omega⟩
   obtain ⟨Q, rfl⟩ : ∃ Q : Nat, role = (Q : Int) := ⟨role.toNat, by omega⟩
   rw [Int.toNat_natCast, Int.toNat_natCast]
   exact rWrite16_yes h hok hlen R O Q (by omega) (by omega) s hc
 ·rw [if_neg hc, if_neg hc]
  refine (rWrite16_no h hok hdn row off role s hc).mono ?_
  rintro e w' ⟨rfl, hb⟩
  exact h.same hb _
end
end Go.Proofs.YtdgkhjgnjfgnlaaGreat
namespace Go.Proofs.YtdgkhjgnjfgnlaaGreat
open Go.RowKit
attribute [local go_sem] Oper.semAt_some
theorem many_blk16 {w : World} {B m : Nat} {T : Nat → Thing} (h : Many w B m T) {bi : Nat} (hbi : bi < m) {b : Nat} {t : TypeId} {cs : Array Value} (e : T bi = blkT b t cs) (j : Nat) : w.cell? ⟨b, j, none⟩ = cs[j]? := by
 obtain ⟨F, hF, _⟩ := h.look hbi
 rw [e] at hF
 exact blk_cell hF j
namespace Ro
def fluC : Col → Col
 | none => none
 | some x => if x.2.dead then some x else some (x.1, x.2.flushed)
def fluB : Col → Bool
 | none => false
 | some x => !x.2.dead && (x.2.runsE == 42)
section
variable (c k r dn bn : Nat) (C : Nat → Col)
def flC (t i : Nat) : Col := if i < t then fluC (C i) else C i
def flB (t : Nat) : Bool := (List.range t).any fun i => fluB (C i)
def flN (b : Bool) : Nat := if b then 42 else 0
def flushE : Nat := if mayB c k r dn bn C then flN (flB C dn) else 1
def flushC : Nat → Col := if mayB c k r dn bn C then flC C dn else C
end
variable {C : Nat → Col}
theorem flC_zero : flC C 0 = C := by funext i; unfold flC; rw [if_neg (Nat.not_lt_zero _)]
theorem flC_succ (t : Nat) : flC C (t + 1) = swap1 (flC C t) t (fluC (C t)) := by
 funext i
 unfold flC swap1
 by_cases h : i = t
 ·rw [if_pos h, if_pos (by omega), h]
 ·rw [if_neg h]
  show (if i < t + 1 then fluC (C i) else C i) = (if i < t then fluC (C i) else C i)
  by_cases h2 : i < t
  ·rw [if_pos h2, if_pos (by omega)]
  ·rw [if_neg h2, if_neg (by omega)]
theorem flC_at (t : Nat) : flC C t t = C t := by unfold flC; rw [if_neg (Nat.lt_irrefl _)]
theorem flB_succ (t : Nat) : flB C (t + 1) = (flB C t || fluB (C t)) := by unfold flB; rw [List.range_succ, List.any_append]; simp
end Ro
section
variable {c k r : Nat} {w : World} {B m : Nat} {T : Nat → Thing} {ri bi o : Nat} {da ba : Option Addr} {dn dcap bn bcap : Nat} {C : Nat → Ro.Col} {bf : Nat → Int}
theorem RefM.anew (h : RefM w B m T ri bi o da dn dcap ba bn bcap C bf) {w' : World} {C' : Nat → Ro.Col} (hm : Many w' B m (spread T o dn (fun i => refC (C' i)))) (hp : ∀ i, Ro.ptr (C' i) = Ro.ptr (C i)) :
  RefM w' B m (spread T o dn (fun i => refC (C' i))) ri bi o da dn dcap ba bn bcap C' bf := by
 obtain ⟨L, e, hl, hL⟩ := h.row
 obtain ⟨L2, e2, hl2, hL2⟩ := h.built
 refine ⟨hm, h.hri, h.hbi, h.ho, ⟨L, ?_, hl, fun i hi => by rw [hp]; exact hL i hi⟩, ⟨L2, ?_, hl2, hL2⟩, fun i hi => spread_in _ _ _ _ hi, h.ro, h.bo⟩
 ·unfold spread; rw [if_neg h.ro]; exact e
 ·unfold spread; rw [if_neg h.bo]; exact e2
theorem RefM.more (h : RefM w B m T ri bi o da dn dcap ba bn bcap C bf) {w' : World} {X : Thing} (hm : Many w' B (m + 1) (swap1 T m X)) : RefM w' B (m + 1) (swap1 T m X) ri bi o da dn dcap ba bn bcap C bf := by
 have q1 := h.hri
 have q2 := h.hbi
 have q3 := h.ho
 refine ⟨hm, by omega, by omega, by omega, ?_, ?_, fun i hi => ?_, h.ro, h.bo⟩
 ·rw [swap1_other _ _ (by omega)]; exact h.row
 ·rw [swap1_other _ _ (by omega)]; exact h.built
 ·rw [swap1_other _ _ (by omega)]; exact h.drv i hi
set_option maxRecDepth 100000 in
set_option maxHeartbeats 8000000 in
theorem rFlush16_any (h : RefM w B m T ri bi o da dn dcap ba bn bcap C bf) (hok : Lay.ok (c : Int) (k : Int) (r : Int)) (hdn : dn ≤ 1000000) (hlen : ∀ i x, C i = some x → ∀ j, (x.2.writes j).length ≤ 1000000) :
  Calls Tryz.prog 38 #[.agg #[.int .i64 (c : Int), .int .i64 (k : Int), .int .i64 (r : Int), .slice da dn dcap, .slice ba bn bcap]] w (WrAns w B m T o dn (Ro.flushE c k r dn bn C) (Ro.flushC c k r dn bn C)) := by
 have X0 : Hid (At5 w w.heap.size c k r (.slice da dn dcap) (.slice ba bn bcap) (w.alloc (.cells #[.int .i64 (c : Int), .int .i64 (k : Int), .int .i64 (r : Int), .slice da dn dcap, .slice ba bn bcap] 33))) := At5.new _ _ _ _ _ _ _
 have hm := rMay16 (dcap := dcap) (bcap := bcap) hok hdn _ (h.set.below X0.out.2.2.2.2.2)
 have H : Hid (RefM w B m T ri bi o da dn dcap ba bn bcap C bf) := h
 have hlast : w.heap.size < (w.alloc (.cells #[.int .i64 (c : Int), .int .i64 (k : Int), .int .i64 (r : Int), .slice da dn dcap, .slice ba bn bcap] 33)).heap.size := World.block_lt_of_cell? _ _ X0.out.1
 unfold Ro.flushE Ro.flushC
 obtain ⟨my, hmy⟩ : ∃ my, Ro.mayB c k r dn bn C = my := ⟨_, rfl⟩
 rw [hmy] at hm ⊢
 cases my with
 | false =>
  rw [if_neg (by decide), if_neg (by decide)]
  have HM : Hid (Calls Tryz.prog 23 #[.agg #[.int .i64 (c : Int), .int .i64 (k : Int), .int .i64 (r : Int), .slice da dn dcap, .slice ba bn bcap]] (w.alloc (.cells #[.int .i64 (c : Int), .int .i64 (k : Int), .int .i64 (r : Int), .slice da dn dcap, .slice ba bn bcap] 33)) fun e w' => e = .returned (.bool false) ∧ Below (w.alloc (.cells #[.int .i64 (c : Int), .int .i64 (k : Int), .int .i64 (r : Int), .slice da dn dcap, .slice ba bn bcap] 33)).heap.size (w.alloc (.cells #[.int .i64 (c : Int), .int .i64 (k : Int), .int .i64 (r : Int), .slice da dn dcap, .slice ba bn bcap] 33)) w') := hm
  obtain ⟨k0, k1, k2, k3, k4, _⟩ := X0.out
  clear hm hmy h hok hlen
  go_enter Tryz.func38, Tryz.ntmps38
  go_wp2_with fail
  refine HM.out.mono ?_
  rintro e w1 ⟨rfl, hb1⟩
  have B1 : Hid (Below w.heap.size w w1) := (X0.out.kept hb1).2.2.2.2.2
  clear hb1
  go_wp2
  go_ret
  exact H.out.same B1.out 1
 | true =>
  rw [if_pos rfl, if_pos rfl]
  have HM : Hid (Calls Tryz.prog 23 #[.agg #[.int .i64 (c : Int), .int .i64 (k : Int), .int .i64 (r : Int), .slice da dn dcap, .slice ba bn bcap]] (w.alloc (.cells #[.int .i64 (c : Int), .int .i64 (k : Int), .int .i64 (r : Int), .slice da dn dcap, .slice ba bn bcap] 33)) fun e w' => e = .returned (.bool true) ∧ Below (w.alloc (.cells #[.int .i64 (c : Int), .int .i64 (k : Int), .int .i64 (r : Int), .slice da dn dcap, .slice ba bn bcap] 33)).heap.size (w.alloc (.cells #[.int .i64 (c : Int), .int .i64 (k : Int), .int .i64 (r : Int), .slice da dn dcap, .slice ba bn bcap] 33)) w') := hm
  obtain ⟨cs, hcs⟩ : ∃ cs : Array Value, cs = #[.int .i64 (c : Int), .int .i64 (k : Int), .int .i64 (r : Int), .slice da dn dcap, .slice ba bn bcap] := ⟨_, rfl⟩
  have hblk : (blkT w.heap.size 33 cs).is (w.alloc (.cells #[.int .i64 (c : Int), .int .i64 (k : Int), .int .i64 (r : Int), .slice da dn dcap, .slice ba bn bcap] 33)) (fun k => w.heap.size ≤ k) := by rw [hcs]; exact blk_new w _ _
  have HBK : Hid ((blkT w.heap.size 33 cs).is (w.alloc (.cells #[.int .i64 (c : Int), .int .i64 (k : Int), .int .i64 (r : Int), .slice da dn dcap, .slice ba bn bcap] 33)) (fun k => w.heap.size ≤ k)) := hblk
  have HCS : Hid (cs[3]? = some (.slice da dn dcap)) := by show _ = _; rw [hcs]; rfl
  have HL : Hid (∀ i x, C i = some x → ∀ j, (x.2.writes j).length ≤ 1000000) := hlen
  obtain ⟨k0, k1, k2, k3, k4, _⟩ := X0.out
  clear hm hmy h hok hlen hblk hcs
  go_enter Tryz.func38, Tryz.ntmps38
  go_wp2_with fail
  refine HM.out.mono ?_
  rintro e w1 ⟨rfl, hb1⟩
  have hB1 : Below w.heap.size w w1 := (X0.out.kept hb1).2.2.2.2.2
  have M1 : Hid (RefM w1 B (m + 1) (swap1 T m (blkT w.heap.size 33 cs)) ri bi o da dn dcap ba bn bcap C bf) := H.out.more (H.out.many.add hB1 (Thing.below _ HBK.out hb1) (fun k hk => hk))
  have B1 : Hid (Below w.heap.size w w1) := hB1
  clear hb1 hB1 k0 k1 k2 k3 k4 hlast X0 HM HBK
  go_wp2_with fail
  go_loopg [3, 4] dn (fun gg s3 s4 wr => ∃ t : Nat, t ≤ dn ∧ gg = dn - t ∧ s4 = .int .i64 (t : Int) ∧ s3 = .int .i64 (Ro.flN (Ro.flB C t) : Nat) ∧ ∃ T' : Nat → Thing, RefM wr B (m + 1) T' ri bi o da dn dcap ba bn bcap (Ro.flC C t) bf ∧ T' m = blkT w.heap.size 33 cs ∧ (∀ j, j < m → ¬ (o ≤ j ∧ j < o + dn) → T' j = T j) ∧ Only (fun k => B ≤ k ∧ k < w.heap.size) w wr)
  case atStart => exact ⟨0, Nat.zero_le _, rfl, rfl, rfl, _, by rw [Ro.flC_zero]; exact M1.out, swap1_same _ _ _, fun j hj _ => swap1_other _ _ (by omega), Only.of_below B1.out _⟩
  case round =>
   obtain ⟨t, ht, rfl, rfl, rfl, T', hM, hTm, hTj, hO⟩ := hrel
   have HM2 : Hid (RefM wr B (m + 1) T' ri bi o da dn dcap ba bn bcap (Ro.flC C t) bf) := hM
   have HT : Hid (T' m = blkT w.heap.size 33 cs ∧ ∀ j, j < m → ¬ (o ≤ j ∧ j < o + dn) → T' j = T j) := ⟨hTm, hTj⟩
   have HO : Hid (Only (fun k => B ≤ k ∧ k < w.heap.size) w wr) := hO
   have hbox := (many_blk16 hM.many (Nat.lt_succ_self m) hTm 3).trans HCS.out
   have hlr := World.block_lt_of_cell? wr _ hbox
   clear M1 B1 hTm hTj hO
   by_cases hlt : t < dn
   ·have hi : (t : Int) < (dn : Int) := by omega
    have hcell := hM.set.row t hlt
    rw [Ro.flC_at] at hcell
    have hbs := Ro.flB_succ (C := C) t
    obtain ⟨fb, hfb⟩ : ∃ fb, Ro.flB C t = fb := ⟨_, rfl⟩
    have HFB : Hid (Ro.flB C (t + 1) = (fb || Ro.fluB (C t))) := by rw [← hfb]; exact hbs
    rw [hfb]
    have hout : ∃ out : Nat, out = Ro.flN fb := ⟨_, rfl⟩
    obtain ⟨out, hout⟩ := hout
    rw [← hout]
    have HOUT : Hid (out = Ro.flN fb) := hout
    clear hbs hfb hout
    cases hC : C t with
    | none =>
     rw [hC] at hcell
     obtain ⟨b1, o1, rfl, hp⟩ := hcell
     simp only [Ro.ptr] at hp
     have HE : Hid (Ro.flN (Ro.flB C (t + 1)) = out ∧ Ro.flC C (t + 1) = Ro.flC C t) := by
      refine ⟨by rw [HFB.out, hC, HOUT.out]; unfold Ro.fluB; rw [Bool.or_false], ?_⟩
      rw [Ro.flC_succ, hC]
      funext j; unfold swap1; split
      ·rename_i hj; rw [hj, Ro.flC_at, hC]; rfl
      ·rfl
     clear hM hC
     go_wp2
     go_roundg (dn - (t + 1))
     case measure => omega
     case rel => exact ⟨t + 1, by omega, rfl, by go_num, by rw [HE.out.1], T', by rw [HE.out.2]; exact HM2.out, HT.out.1, HT.out.2, HO.out⟩
    | some x =>
     obtain ⟨p, D⟩ := x
     rw [hC] at hcell
     obtain ⟨b1, o1, rfl, hp⟩ := hcell
     simp only [Ro.ptr] at hp
     obtain ⟨G, hG⟩ := hM.set.drv t p D hlt (by rw [Ro.flC_at]; exact hC)
     obtain ⟨_, hdd, _⟩ := hG.seen
     have hpl := World.block_lt_of_cell? wr _ hdd
     cases hd : D.dead with
     | true =>
      rw [hd] at hdd
      have HE : Hid (Ro.flN (Ro.flB C (t + 1)) = out ∧ Ro.flC C (t + 1) = Ro.flC C t) := by
       refine ⟨by rw [HFB.out, hC, HOUT.out]; unfold Ro.fluB; dsimp only; rw [hd]; simp, ?_⟩
       rw [Ro.flC_succ, hC]
       funext j; unfold swap1; split
       ·rename_i hj; rw [hj, Ro.flC_at, hC]; unfold Ro.fluC; dsimp only; rw [hd]; rfl
       ·rfl
      clear hM hC hG hd
      go_wp2
      go_roundg (dn - (t + 1))
      case measure => omega
      case rel => exact ⟨t + 1, by omega, rfl, by go_num, by rw [HE.out.1], T', by rw [HE.out.2]; exact HM2.out, HT.out.1, HT.out.2, HO.out⟩
     | false =>
      rw [hd] at hdd
      have hcall := HM2.out.call hlt (show Ro.flC C t t = some (p, D) by rw [Ro.flC_at]; exact hC) (D' := D.flushed) (f := 74) (args := #[.pointer (some ⟨p, 0, none⟩)]) (Q := fun e => e = .returned (.int .i64 (D.runsE : Nat))) (fun G hG => (pFlush_any hG (HL.out t (p, D) hC)).mono fun e w' ⟨h1, h2, h3⟩ => ⟨h1, h2.mono fun k hk => .inl hk, h3⟩)
      obtain ⟨E, hE⟩ : ∃ E, D.runsE = E := ⟨_, rfl⟩
      rw [hE] at hcall
      have hfl : Ro.fluC (C t) = some (p, D.flushed) := by rw [hC]; unfold Ro.fluC; dsimp only; rw [hd]; rfl
      have HFC : Hid (Ro.flC C (t + 1) = swap1 (Ro.flC C t) t (some (p, D.flushed))) := by show _ = _; rw [Ro.flC_succ, hfl]
      have HC : Hid (Calls Tryz.prog 74 #[.pointer (some ⟨p, 0, none⟩)] wr fun e w' => e = .returned (.int .i64 (E : Int)) ∧ Many w' B (m + 1) (spread T' o dn (fun i => refC (swap1 (Ro.flC C t) t (some (p, D.flushed)) i))) ∧ Only (fun k => B ≤ k ∧ k < wr.heap.size) wr w') := hcall
      have HP : Hid (∀ i, Ro.ptr (swap1 (Ro.flC C t) t (some (p, D.flushed)) i) = Ro.ptr (Ro.flC C t i)) := fun i => by
       unfold swap1; split
       ·rename_i hj; rw [hj, Ro.flC_at, hC]; rfl
       ·rfl
      have hfb2 : Ro.fluB (C t) = (E == 42) := by rw [hC]; unfold Ro.fluB; dsimp only; rw [hd, hE]; rfl
      have HB2 : Hid (Ro.flB C (t + 1) = (fb || (E == 42))) := by rw [← hfb2]; exact HFB.out
      by_cases h42 : E = 42
      ·have v1 : ((E : Int) == 42) = true := by rw [h42]; rfl
       have HE : Hid (Ro.flN (Ro.flB C (t + 1)) = 42) := by show _ = _; rw [HB2.out, h42]; cases fb <;> rfl
       clear hM hC hG hd hcall hE hfl hfb2 h42
       go_wp2_with fail
       refine HC.out.mono ?_
       rintro e w5 ⟨rfl, hm5, ho5⟩
       have M5 : Hid (RefM w5 B (m + 1) (spread T' o dn (fun i => refC (swap1 (Ro.flC C t) t (some (p, D.flushed)) i))) ri bi o (some ⟨b1, o1, none⟩) dn dcap ba bn bcap (Ro.flC C (t + 1)) bf) := by rw [HFC.out]; exact HM2.out.anew hm5 HP.out
       have O5 : Hid (Only (fun k => B ≤ k ∧ k < w.heap.size) w w5) := HO.out.trans (ho5.mono fun k hk => by
        by_cases hkw : k < w.heap.size
        ·exact .inl ⟨hk.1, hkw⟩
        ·exact .inr (by omega))
       clear hm5 ho5
       go_wp2
       go_roundg (dn - (t + 1))
       case measure => omega
       case rel => exact ⟨t + 1, by omega, rfl, by go_num, by rw [HE.out]; rfl, _, M5.out, by rw [spread_out _ _ _ _ (.inr H.out.ho)]; exact HT.out.1, fun j hj hn => by unfold spread; rw [if_neg hn]; exact HT.out.2 j hj hn, O5.out⟩
      ·have v1 : ((E : Int) == 42) = false := by rw [beq_eq_false_iff_ne]; omega
       have HE : Hid (Ro.flN (Ro.flB C (t + 1)) = out) := by show _ = _; rw [HB2.out, HOUT.out, show (E == 42) = false from beq_eq_false_iff_ne.2 h42, Bool.or_false]
       clear hM hC hG hd hcall hE hfl hfb2 h42
       go_wp2_with fail
       refine HC.out.mono ?_
       rintro e w5 ⟨rfl, hm5, ho5⟩
       have M5 : Hid (RefM w5 B (m + 1) (spread T' o dn (fun i => refC (swap1 (Ro.flC C t) t (some (p, D.flushed)) i))) ri bi o (some ⟨b1, o1, none⟩) dn dcap ba bn bcap (Ro.flC C (t + 1)) bf) := by rw [HFC.out]; exact HM2.out.anew hm5 HP.out
       have O5 : Hid (Only (fun k => B ≤ k ∧ k < w.heap.size) w w5) := HO.out.trans (ho5.mono fun k hk => by
        by_cases hkw : k < w.heap.size
        ·exact .inl ⟨hk.1, hkw⟩
        ·exact .inr (by omega))
       clear hm5 ho5
       go_wp2
       go_roundg (dn - (t + 1))
       case measure => omega
       case rel => exact ⟨t + 1, by omega, rfl, by go_num, by rw [HE.out], _, M5.out, by rw [spread_out _ _ _ _ (.inr H.out.ho)]; exact HT.out.1, fun j hj hn => by unfold spread; rw [if_neg hn]; exact HT.out.2 j hj hn, O5.out⟩
   ·have htn : t = dn := by omega
    have HTN : Hid (t = dn) := htn
    have hx : ¬ (t : Int) < (dn : Int) := by omega
    have hEnd : Many wr B m (spread T o dn (fun i => refC (Ro.flC C dn i))) := by
     rw [htn] at hM
     refine (hM.many.less (Nat.le_succ m)).congr fun j hj => ?_
     by_cases hj2 : o ≤ j ∧ j < o + dn
     ·obtain ⟨d, rfl⟩ : ∃ d, j = o + d := ⟨j - o, by omega⟩
      rw [hM.drv d (by omega), spread_in _ _ _ _ (by omega)]
     ·rw [HT.out.2 j hj hj2]; unfold spread; rw [if_neg hj2]
    have HEND : Hid (Many wr B m (spread T o dn (fun i => refC (Ro.flC C dn i)))) := hEnd
    obtain ⟨out, hout⟩ : ∃ out : Nat, Ro.flN (Ro.flB C t) = out := ⟨_, rfl⟩
    have HOUT : Hid (Ro.flN (Ro.flB C dn) = out) := by rw [← htn]; exact hout
    rw [hout]
    clear hM hEnd hout htn
    go_wp2
    go_ret
    exact ⟨by rw [HOUT.out]; rfl, HEND.out, HO.out⟩
end
end Go.Proofs.YtdgkhjgnjfgnlaaGreat
namespace Go.Proofs.YtdgkhjgnjfgnlaaGreat
namespace Ro
def drv : Col → Option Dr := Option.map Prod.snd
def Alike (C D : Nat → Col) : Prop := ∀ i, drv (C i) = drv (D i)
theorem drv_al {α : Type} (F : Col → α) (hF : ∀ p q E, F (some (p, E)) = F (some (q, E))) {a b : Col} (h : drv a = drv b) : F a = F b := by
 cases a with
 | none => cases b with
  | none => rfl
  | some y => cases h
 | some x => cases b with
  | none => cases h
  | some y =>
   obtain ⟨p, E⟩ := x
   obtain ⟨q, E2⟩ := y
   have e : E = E2 := by injection h
   subst e
   exact hF p q E
section
variable {c k r dn bn : Nat} {C D : Nat → Col} {bf : Nat → Int} (h : Alike C D)
include h
theorem mayB_al : mayB c k r dn bn C = mayB c k r dn bn D := by
 have e : ∀ i, fitB (4 + r * k) (C i) = fitB (4 + r * k) (D i) := fun i => drv_al _ (fun _ _ _ => rfl) (h i)
 unfold mayB
 simp only [e]
theorem chk_al (row off : Int) : chk c k r dn bn C row off = chk c k r dn bn D row off := by
 unfold chk
 rw [mayB_al h]
theorem missB_al (row : Int) (i : Nat) : missB C bf row i = missB D bf row i := by
 unfold missB
 exact drv_al (fun x => match x with | none => true | some x => x.2.dead || decide (bf i ≤ row)) (fun _ _ _ => rfl) (h i)
theorem oneX_al (row off : Int) (q : Nat) : oneX c k C bf row off q = oneX c k D bf row off q := by
 unfold oneX
 rw [missB_al h]
 split
 ·rfl
 ·exact drv_al (fun x => match x with | none => (⟨#[]⟩ : ByteArray) | some x => txt (x.2.readS (4 + row * k + off))) (fun _ _ _ => rfl) (h _)
theorem oneE_al (row off : Int) (q : Nat) : oneE c k C bf row off q = oneE c k D bf row off q := by
 unfold oneE
 rw [missB_al h]
 split
 ·rfl
 ·exact drv_al (fun x => match x with | none => 41 | some x => x.2.readE (4 + row * k + off)) (fun _ _ _ => rfl) (h _)
theorem offT_al (row off : Int) (t : Nat) : offT c k C bf row off t = offT c k D bf row off t := by
 unfold offT
 simp only [oneE_al h]
theorem lostT_al (row off : Int) (t : Nat) : lostT c k C bf row off t = lostT c k D bf row off t := by
 unfold lostT
 simp only [oneE_al h]
theorem readE_al (row off : Int) : readE c k r dn bn C bf row off = readE c k r dn bn D bf row off := by
 unfold readE
 rw [chk_al h, offT_al h]
theorem readN_al (row off : Int) : readN c k r dn bn C bf row off = readN c k r dn bn D bf row off := by
 unfold readN
 rw [readE_al h]
theorem readL_al (row off : Int) : readL c k r dn bn C bf row off = readL c k r dn bn D bf row off := by
 unfold readL
 rw [readE_al h, lostT_al h]
theorem lostF_al (row off : Int) : lostF c k r dn bn C bf row off = lostF c k r dn bn D bf row off := by
 funext j
 unfold lostF
 rw [readL_al h]
theorem oneX_al2 (row off : Int) : oneX c k C bf row off = oneX c k D bf row off := funext fun q => oneX_al h row off q
theorem filledE_al (row off : Int) : filledE c k r dn bn C bf row off = filledE c k r dn bn D bf row off := by
 unfold filledE
 rw [readE_al h, readL_al h, oneX_al2 h, lostF_al h]
theorem filledN_al (row off : Int) : filledN c k r dn bn C bf row off = filledN c k r dn bn D bf row off := by
 unfold filledN
 rw [filledE_al h]
theorem filledL_al (row off : Int) : filledL c k r dn bn C bf row off = filledL c k r dn bn D bf row off := by
 unfold filledL
 rw [filledE_al h, readL_al h]
theorem filledF_al (row off : Int) : filledF c k r dn bn C bf row off = filledF c k r dn bn D bf row off := by
 unfold filledF
 rw [readL_al h, oneX_al2 h, lostF_al h]
theorem secE_al (row off i : Int) : secE c k r dn bn C bf row off i = secE c k r dn bn D bf row off i := by
 unfold secE secE0
 rw [chk_al h, oneE_al h, filledE_al h]
theorem secX_al (row off i : Int) : secX c k r dn bn C bf row off i = secX c k r dn bn D bf row off i := by
 unfold secX secX0
 rw [chk_al h, oneE_al h, filledE_al h, filledF_al h, oneX_al h]
theorem missT_al (row : Int) (t : Nat) : missT c C bf row t = missT c D bf row t := by
 unfold missT
 simp only [missB_al h]
theorem lostE_al (row : Int) : lostE c k r dn bn C row = lostE c k r dn bn D row := chk_al h row 0
theorem lostL_al (row : Int) : lostL c k r dn bn C bf row = lostL c k r dn bn D bf row := by
 unfold lostL
 rw [chk_al h, missT_al h]
theorem wrE_al (row off role : Int) (s : ByteArray) : wrE c k r dn bn C row off role s = wrE c k r dn bn D row off role s := by
 unfold wrE
 rw [chk_al h, show colE k row off s (C (colN c row.toNat role.toNat)) = colE k row off s (D (colN c row.toNat role.toNat)) from drv_al _ (fun _ _ _ => rfl) (h _)]
theorem wrC_al (row off role : Int) (s : ByteArray) : Alike (wrC c k r dn bn C row off role s) (wrC c k r dn bn D row off role s) := fun i => by
 unfold wrC
 rw [chk_al h]
 split
 ·split
  ·by_cases e : i = colN c row.toNat role.toNat
   ·rw [e, swap1_same, swap1_same]
    exact drv_al (fun x => drv (colC k row off s x)) (fun p q E => by
     show drv (if E.dead then some (p, E) else _) = drv (if E.dead then some (q, E) else _)
     split <;> rfl) (h _)
   ·rw [swap1_other _ _ e, swap1_other _ _ e]; exact h i
  ·exact h i
 ·exact h i
theorem flushE_al : flushE c k r dn bn C = flushE c k r dn bn D := by
 have e : ∀ i, fluB (C i) = fluB (D i) := fun i => drv_al _ (fun _ _ _ => rfl) (h i)
 unfold flushE flB
 simp only [mayB_al h, e]
theorem flushC_al : Alike (flushC c k r dn bn C) (flushC c k r dn bn D) := fun i => by
  unfold flushC
  rw [mayB_al h]
  split
  · unfold flC
    split
    · exact drv_al (fun x => drv (fluC x)) (fun p q E => by
        show drv (if E.dead then some (p, E) else _) = drv (if E.dead then some (q, E) else _)
        split <;> rfl) (h _)
    · exact h i
  · exact h i
theorem Alike.swap (i : Nat) {a b : Col} (hab : drv a = drv b) : Alike (swap1 C i a) (swap1 D i b) := fun j => by
 by_cases e : j = i
 ·rw [e, swap1_same, swap1_same]; exact hab
 ·rw [swap1_other _ _ e, swap1_other _ _ e]; exact h j
end
end Ro
end Go.Proofs.YtdgkhjgnjfgnlaaGreat
