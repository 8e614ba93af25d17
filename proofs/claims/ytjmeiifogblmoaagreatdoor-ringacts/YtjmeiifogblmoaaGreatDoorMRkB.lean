/- Several texts in one. The walks of the program's own taken, and Head. The walk of the program's own Head. The walk of the program's own Decode of a record. -/
import Derived.Test.YtjmeiifogblmoaaGreatDoorMRkC
import Derived.Test.YtjmeiifogblmoaaGreatDoorMPackA
import Derived.Test.YtjmeiifogblmoaaGreatDoorMCrcA
import Derived.Test.YtjmeiifogblmoaaGreatDoorPgTrim
import Derived.BigQuiet
namespace Go.Proofs.YtjmeiifogblmoaaGreatDoor
open Go.RowKit

namespace Rc
def takenB (t : ByteArray) : Bool := decide (numT t 2 ≤ 41) && zeroFrom t (19 + numT t 2) && placesB (numT t 1 : Nat) (numT t 2) (partT t)
theorem taken_far {t : ByteArray} (h : 41 < numT t 2) : takenB t = false := by unfold takenB; rw [decide_eq_false (by omega), Bool.false_and, Bool.false_and]
theorem taken_rest {t : ByteArray} (h : zeroFrom t (19 + numT t 2) = false) : takenB t = false := by unfold takenB; rw [h, Bool.and_false, Bool.false_and]
theorem taken_near {t : ByteArray} (h : numT t 2 ≤ 41) (h2 : zeroFrom t (19 + numT t 2) = true) : takenB t = placesB (numT t 1 : Nat) (numT t 2) (partT t) := by unfold takenB; rw [h2, decide_eq_true h, Bool.true_and, Bool.true_and]
theorem trim_zero12 {t : ByteArray} (h : t.size = 60) (k : Nat) : ((⟨(Lib.trimB (t.extract k 60).data.toList 0).toArray⟩ : ByteArray) = ⟨#[]⟩) ↔ zeroFrom t k = true := by
  have hl : (t.extract k 60).data.toList = t.data.toList.drop k := by
    rw [Pg.extract_list, List.take_of_length_le (by rw [List.length_drop, Pg.list_size, h]; exact Nat.le_refl _)]
  rw [hl]
  unfold zeroFrom
  rw [← Pg.trim_nil]
  constructor
  · intro e
    have := congrArg (fun b : ByteArray => b.data.toList) e
    simpa using this
  · intro e
    rw [e]
end Rc
/-- what taken answers -/
def TakenAns (w : World) (t : ByteArray) (e : Ending) (w' : World) : Prop :=
  ∃ (q r sm : Int) (a : Option Addr) (m cap : Nat), e = .returned (.tuple #[.agg #[.int .u64 q, .int .i64 r, .slice a m cap], .int .u32 sm, .bool (Rc.takenB t)]) ∧
    (Rc.takenB t = true → q = (Rc.numT t 0 : Nat) ∧ r = (Rc.numT t 1 : Nat) ∧ m = Rc.numT t 2 ∧ sm = (Rc.numT t 3 : Nat) ∧ w'.ownsRow w.heap.size 83 3 (.slice a (Rc.numT t 2) cap) (Rc.numT t 2) (prtVals (Rc.numT t 2) (Rc.partT t))) ∧ Below w.heap.size w w'
theorem taken_bad {w w' : World} {t : ByteArray} (h : Rc.takenB t = false) (hb : Below w.heap.size w w') : TakenAns w t (.returned (.tuple #[noRec, .int .u32 0, .bool false])) w' :=
  ⟨0, 0, 0, none, 0, 0, by rw [h]; rfl, (fun e => by rw [h] at e; cases e), hb⟩
theorem size12_any (b : Option Addr) (cb : Nat) (w : World) (hb : RowI .i64 w b 4 (fun j => Rc.ws.getD j 0)) :
    Calls Tryz.prog 116 #[.slice b 4 cb] w fun e w' => e = .returned (.tuple #[.int .i64 15, .int .i64 0]) ∧ w' = w := by
  have h := Size_any Rc.ws (by show 4 ≤ maxLen; decide) b cb w hb
  rw [Pk.sizeN_yes Rc.ws_ok, Pk.sizeE_yes Rc.ws_ok] at h
  exact h
theorem pdec12 (u : ByteArray) (h : u.size = 15) (b : Option Addr) (cb : Nat) (w : World) (hb : RowI .i64 w b 4 (fun j => Rc.ws.getD j 0)) :
    Calls Tryz.prog 91 #[.string u, .slice b 4 cb] w fun e w' => ∃ a cap, e = .returned (.tuple #[.slice a 4 cap, .int .i64 0]) ∧ RowI .u64 w' a 4 (fun j => (((Pk.dec u.data.toList Rc.ws).getD j 0 : Nat) : Int)) ∧ Below w.heap.size w w' := by
  have hl : u.data.toList.length = Pk.offs Rc.ws Rc.ws.length := by rw [Pg.list_size, h]; rfl
  have hx := Decode_any u Rc.ws (by rw [h]; unfold maxLen; decide) (by show 4 ≤ maxLen; decide) b cb w hb
  have e1 := Pk.decE_yes Rc.ws_ok hl
  have e2 : (Pk.dec u.data.toList Rc.ws).length = 4 := Pk.dec_length Rc.ws_ok hl
  refine hx.mono ?_
  rintro e w' ⟨a, cap, he, hr, hbb⟩
  rw [e1, e2] at he
  rw [e2] at hr
  exact ⟨a, cap, he, hr, hbb⟩
theorem trim12 (r : ByteArray) (hr : r.size ≤ 100) (w : World) :
    Calls Tryz.prog 90 #[.string r, .string ⟨#[0]⟩] w fun e w' => e = .returned (.string ⟨(Lib.trimB r.data.toList 0).toArray⟩) ∧ Below w.heap.size w w' := by
  refine (Tryz.strings_Trim_one r 0 (by decide) w (by omega)).mono ?_
  rintro e w' ⟨rfl, hw⟩
  refine ⟨rfl, ?_⟩
  rcases hw with rfl | rfl
  · exact Below.refl _ _
  · exact (Below.refl _ _).drew
theorem widths12_some (w : World) : Calls Tryz.prog 107 #[] w fun e w' => ∃ a, e = .returned (.slice a 4 4) ∧ RowI .i64 w' a 4 (fun j => Rc.ws.getD j 0) ∧ Below w.heap.size w w' :=
  (widths12 w).mono fun _ _ ⟨he, hr, hb⟩ => ⟨_, he, hr, hb⟩
theorem info_part : (Tryz.prog.info? 83).map (fun i => (i.zero, i.size, i.bytes)) = some (some (.agg #[.int .i64 0, .int .i64 0, .string ByteArray.empty]), 3, 32) := by kernel_rfl

set_option maxRecDepth 100000 in
set_option maxHeartbeats 4000000 in
theorem taken12_any (t : ByteArray) (ts : t.size = 60) (w : World) : Calls Tryz.prog 128 #[.string (Pg.tail4 t)] w (TakenAns w t) := by
  have hD := pdec12 (t.extract 4 19) (Rc.num_size ts)
  obtain ⟨n0, n1, n2, n3⟩ := Rc.num_bounds ts
  change ∀ (b : Option Addr) (cb : Nat) (w : World), RowI .i64 w b 4 (fun j => Rc.ws.getD j 0) → Calls Tryz.prog 91 #[.string (t.extract 4 19), .slice b 4 cb] w fun e w' => ∃ a cap, e = .returned (.tuple #[.slice a 4 cap, .int .i64 0]) ∧ RowI .u64 w' a 4 (fun j => ((Rc.numT t j : Nat) : Int)) ∧ Below w.heap.size w w' at hD
  obtain ⟨q, hq⟩ : ∃ q, q = Pg.tail4 t := ⟨_, rfl⟩
  have q56n : q.size = 56 := by rw [hq, Pg.tail4_size ts]
  have q56 : (q.size : Int) = 56 := by omega
  have x1 : q.extract 0 15 = t.extract 4 19 := by rw [hq, Pg.tail4_at]
  have x2 : q.extract 15 q.size = t.extract 19 60 := by rw [hq, Pg.tail4_at, Pg.tail4_size ts]
  have x2b : q.extract 15 56 = t.extract 19 60 := by rw [hq, Pg.tail4_at]
  obtain ⟨cd, hcd⟩ : ∃ cd, cd = t.extract 19 60 := ⟨_, rfl⟩
  have c41n : cd.size = 41 := by rw [hcd, ByteArray.size_extract, ts]; rfl
  have c41 : (cd.size : Int) = 41 := by omega
  have HCb : Hid (∀ j (hj : j < cd.size), cd[j]'hj = Pg.byt11 t (19 + j)) := by
    intro j hj
    rw [Pg.byt11_at]
    unfold Pg.byt11
    rw [hcd, Pg.extract_list, List.getD_eq_getElem?_getD, List.getD_eq_getElem?_getD, List.getElem?_take_of_lt (by omega), List.getElem?_drop]
  have HCe : Hid (∀ k, k ≤ 41 → cd.extract k 41 = t.extract (19 + k) 60) := by
    intro k hk
    rw [hcd, Pg.part_part t 19 60 k 41 (by decide)]
  rw [← hcd] at x2 x2b
  rw [← hq]
  obtain ⟨u, hu⟩ : ∃ u, u = t.extract 4 19 := ⟨_, rfl⟩
  rw [← hu] at hD x1
  obtain ⟨l0, e0⟩ : ∃ l0, l0 = Rc.numT t 0 := ⟨_, rfl⟩
  obtain ⟨l1, e1⟩ : ∃ l1, l1 = Rc.numT t 1 := ⟨_, rfl⟩
  obtain ⟨l2, e2⟩ : ∃ l2, l2 = Rc.numT t 2 := ⟨_, rfl⟩
  obtain ⟨l3, e3⟩ : ∃ l3, l3 = Rc.numT t 3 := ⟨_, rfl⟩
  rw [← e0] at n0
  rw [← e1] at n1
  rw [← e2] at n2
  rw [← e3] at n3
  have HL : Hid (l0 = Rc.numT t 0 ∧ l1 = Rc.numT t 1 ∧ l2 = Rc.numT t 2 ∧ l3 = Rc.numT t 3) := ⟨e0, e1, e2, e3⟩
  have HD : Hid _ := hD
  have TS : Hid (t.size = 60) := ts
  have hcl2 : IntKind.i64.wrap (l2 : Int) = (l2 : Int) := by rw [IntKind.wrap_i64]; omega
  have hcl1 : IntKind.i64.wrap (l1 : Int) = (l1 : Int) := by rw [IntKind.wrap_i64]; omega
  have hcl3 : IntKind.u32.wrap (l3 : Int) = (l3 : Int) := by rw [IntKind.wrap_u32]; omega
  obtain ⟨i0, hi, hz0, hz1, hz2⟩ := info_parts info_part
  have hmx : Tryz.prog.follows .mixedOrders = true := by kernel_rfl
  have HMX : Hid (Tryz.prog.follows .mixedOrders = true) := hmx
  clear hD hq hcd hu e0 e1 e2 e3 ts hmx
  go_enter Tryz.func128, Tryz.ntmps128
  go_wp2_with fail
  refine (widths12_some _).mono ?_
  rintro e w1 ⟨aw1, rfl, hr1, hb1⟩
  have HX1 : Hid (BoxAt w1 w.heap.size (.int .u64 0) (.int .i64 0) (.slice none 0 0)) := (BoxAt.new w 71 (.int .u64 0) (.int .i64 0) (.slice none 0 0)).below hb1 (by simp)
  have HB1 : Hid (Below w.heap.size w w1) := box_below hb1
  have HR1 : Hid (RowI .i64 w1 aw1 4 (fun j => Rc.ws.getD j 0)) := hr1
  have HBx3 : Hid (∀ j, 3 ≤ j → w1.cell? ⟨w.heap.size, j, none⟩ = none) := fun j hj => (box_cell hb1 j).trans (Array.getElem?_eq_none (by simpa using hj))
  clear hr1 hb1
  go_wp2_with fail
  refine (size12_any _ _ _ HR1.out).mono ?_
  rintro e w2 ⟨rfl, rfl⟩
  go_wp2_with fail
  refine wp_region_held (S := fun _ => True) HMX.out ?_
  have hS0 : (fun _ : World => True) w2.drew := trivial
  change wpAnyH _ _ _ _ _ _ _ _ w2.drew
  refine held_quiet 0 (v := ?v0q1) rfl (by kernel_rfl) (fun _ _ _ h => h) (by assumption) rfl ?hy0q1 ?rest0q1
  case hy0q1 => (intro wS hSw; (try dsimp only at hSw); go_simp; try with_reducible rfl)
  try simp only [Act.put, List.setIfInBounds_toArray, List.set_cons_zero, List.set_cons_succ]
  refine held_quiet 1 (v := ?v1q2) rfl (by kernel_rfl) (fun _ _ _ h => h) (by assumption) rfl ?hy1q2 ?rest1q2
  case hy1q2 => (intro wS hSw; (try dsimp only at hSw); go_simp; try with_reducible rfl)
  try simp only [Act.put, List.setIfInBounds_toArray, List.set_cons_zero, List.set_cons_succ]
  refine held_quiet 2 (v := ?v2q3) rfl (by kernel_rfl) (fun _ _ _ h => h) (by assumption) rfl ?hy2q3 ?rest2q3
  case hy2q3 => (intro wS hSw; (try dsimp only at hSw); go_simp; try with_reducible rfl)
  try simp only [Act.put, List.setIfInBounds_toArray, List.set_cons_zero, List.set_cons_succ]
  refine held_one 3 rfl (by kernel_rfl) ?_
  go_wp2_with (go_at_call 107; refine (widths12_some _).mono ?_; rintro e w3 ⟨aw3, rfl, hr3, hb3⟩)
  try refine ⟨trivial, ?_⟩
  have HB3 : Hid (Below w2.heap.size w2 w3) := (Below.refl w2.heap.size w2).drew.trans hb3
  have HR3 : Hid (RowI .i64 w3 aw3 4 (fun j => Rc.ws.getD j 0)) := hr3
  clear hr3 hb3
  refine held_one 4 rfl (by kernel_rfl) ?_
  go_wp2_with (go_at_call 91; refine (HD.out _ _ _ HR3.out).mono ?_; rintro e w4 ⟨a, cap, rfl, hR, hb4⟩)
  try refine ⟨trivial, ?_⟩
  have HB4 : Hid (Below w2.heap.size w2 w4) := below2 HB3.out hb4
  clear hb4 hS0
  have hS4 : (fun _ : World => True) w4 := trivial
  refine held_quiet 5 (v := ?v5q4) rfl (by kernel_rfl) (fun _ _ _ h => h) (by assumption) rfl ?hy5q4 ?rest5q4
  case hy5q4 => (intro wS hSw; (try dsimp only at hSw); go_simp; try with_reducible rfl)
  try simp only [Act.put, List.setIfInBounds_toArray, List.set_cons_zero, List.set_cons_succ]
  refine held_quiet 6 (v := ?v6q5) rfl (by kernel_rfl) (fun _ _ _ h => h) (by assumption) rfl ?hy6q5 ?rest6q5
  case hy6q5 => (intro wS hSw; (try dsimp only at hSw); go_simp; try with_reducible rfl)
  try simp only [Act.put, List.setIfInBounds_toArray, List.set_cons_zero, List.set_cons_succ]
  refine held_quiet 7 (v := ?v7q6) rfl (by kernel_rfl) (fun _ _ _ h => h) (by assumption) rfl ?hy7q6 ?rest7q6
  case hy7q6 => (intro wS hSw; (try dsimp only at hSw); go_simp; try with_reducible rfl)
  try simp only [Act.put, List.setIfInBounds_toArray, List.set_cons_zero, List.set_cons_succ]
  refine held_quiet 8 (v := ?v8q7) rfl (by kernel_rfl) (fun _ _ _ h => h) (by assumption) rfl ?hy8q7 ?rest8q7
  case hy8q7 => (intro wS hSw; (try dsimp only at hSw); go_simp; try with_reducible rfl)
  try simp only [Act.put, List.setIfInBounds_toArray, List.set_cons_zero, List.set_cons_succ]
  refine held_quiet 9 (v := ?v9q8) rfl (by kernel_rfl) (fun _ _ _ h => h) (by assumption) rfl ?hy9q8 ?rest9q8
  case hy9q8 => (intro wS hSw; (try dsimp only at hSw); go_simp; try with_reducible rfl)
  try simp only [Act.put, List.setIfInBounds_toArray, List.set_cons_zero, List.set_cons_succ]
  refine held_done (by kernel_rfl) ?_
  clear hS4
  obtain ⟨b1, o1, rfl, r0⟩ := hR 0 (by decide)
  obtain ⟨_, _, e1', r1⟩ := hR 1 (by decide)
  cases e1'
  obtain ⟨_, _, e1', r2⟩ := hR 2 (by decide)
  cases e1'
  obtain ⟨_, _, e1', r3⟩ := hR 3 (by decide)
  cases e1'
  rw [Nat.add_zero] at r0
  replace r0 : w4.cell? ⟨b1, o1, none⟩ = some (.int .u64 (l0 : Int)) := by rw [HL.out.1]; exact r0
  replace r1 : w4.cell? ⟨b1, o1 + 1, none⟩ = some (.int .u64 (l1 : Int)) := by rw [HL.out.2.1]; exact r1
  replace r2 : w4.cell? ⟨b1, o1 + 2, none⟩ = some (.int .u64 (l2 : Int)) := by rw [HL.out.2.2.1]; exact r2
  replace r3 : w4.cell? ⟨b1, o1 + 3, none⟩ = some (.int .u64 (l3 : Int)) := by rw [HL.out.2.2.2]; exact r3
  have HNe : Hid (b1 ≠ w.heap.size) := fun e => by
    have h3 := (HB4.out.cell (p := ⟨w.heap.size, o1 + 3, none⟩) HX1.out.lt).trans (HBx3.out (o1 + 3) (by omega))
    rw [← e, r3] at h3
    cases h3
  have HX4 : Hid (BoxAt w4 w.heap.size (.int .u64 0) (.int .i64 0) (.slice none 0 0)) := HX1.out.below HB4.out HX1.out.lt
  have HBW4 : Hid (Below w.heap.size w w4) := below2 HB1.out HB4.out
  have HRs : Hid ((w4.cell? ⟨b1, o1, none⟩ = some (.int .u64 (l0 : Int)) ∧ w4.cell? ⟨b1, o1 + 1, none⟩ = some (.int .u64 (l1 : Int))) ∧ (w4.cell? ⟨b1, o1 + 2, none⟩ = some (.int .u64 (l2 : Int)) ∧ w4.cell? ⟨b1, o1 + 3, none⟩ = some (.int .u64 (l3 : Int)))) := ⟨⟨r0, r1⟩, ⟨r2, r3⟩⟩
  clear hR r0 r1 r3
  go_wp2
  go_quiet (fail)
  clear r2 x1 x2 x2b
  by_cases hfar : 41 < l2
  case pos =>
    have HNo : Hid (Rc.takenB t = false) := Rc.taken_far (by rw [← HL.out.2.2.1]; exact hfar)
    have hfi : (41 : Int) < (l2 : Int) := by omega
    obtain ⟨k0, k1, k2, f0, f1, f2⟩ := HX4.out
    have hl := HX4.out.lt
    clear hfar
    go_wp2
    refine bodyPost_ret (ret_cell_tmp2 rfl _ _ ⟨w.heap.size, 0, none⟩ noRec rfl (by unfold noRec; go_simp)) rfl ?_
    exact taken_bad HNo.out (stored3 (below_drewN HBW4.out _) (Nat.le_refl _) (below_drewN HBW4.out _).size _ _ _)
  case neg =>
  have hni : ¬ (41 : Int) < (l2 : Int) := by omega
  obtain ⟨z, hz⟩ : ∃ z, z = t.extract (19 + l2) 60 := ⟨_, rfl⟩
  have xz : cd.extract l2 41 = z := by rw [hz]; exact HCe.out l2 (by omega)
  have xzb : cd.extract l2 cd.size = z := by rw [c41n]; exact xz
  have hz100 : z.size ≤ 100 := by rw [hz, ByteArray.size_extract, TS.out]; omega
  have HT := fun W => trim12 z hz100 W
  have hyz := Rc.trim_zero12 TS.out (19 + l2)
  rw [← hz] at hyz
  obtain ⟨y, hy⟩ : ∃ y : ByteArray, y = ⟨(Lib.trimB z.data.toList 0).toArray⟩ := ⟨_, rfl⟩
  rw [← hy] at HT hyz
  have hyb := Pg.tx_eq y ⟨#[]⟩
  rw [show (⟨#[]⟩ : ByteArray).toList = [] by rw [ByteArray.toList_eq]] at hyb
  have HYb : Hid ((y.toList == []) = decide (y = ⟨#[]⟩)) := hyb
  have HYz : Hid (y = ⟨#[]⟩ ↔ Rc.zeroFrom t (19 + l2) = true) := hyz
  have HN41 : Hid (l2 ≤ 41) := by show l2 ≤ 41; omega
  clear hz hz100 hyz hy hyb hfar
  go_wp2_with fail
  refine (HT _).mono ?_
  rintro e w5 ⟨rfl, b5⟩
  have HB5 : Hid (Below w4.heap.size w4 w5) := (below_drewN (Below.refl _ _) _).trans (b5.mono (below_drewN (Below.refl w4.heap.size w4) _).size)
  have HX5 : Hid (BoxAt w5 w.heap.size (.int .u64 0) (.int .i64 0) (.slice none 0 0)) := HX4.out.below HB5.out HX4.out.lt
  have HBW5 : Hid (Below w.heap.size w w5) := below2 HBW4.out HB5.out
  clear b5 HT xz xzb
  by_cases hzero : Rc.zeroFrom t (19 + l2) = true
  case neg =>
    have hye : (y.toList == []) = false := by rw [HYb.out]; exact decide_eq_false fun e => hzero (HYz.out.1 e)
    have HNo : Hid (Rc.takenB t = false) := Rc.taken_rest (by rw [← HL.out.2.2.1]; simpa using hzero)
    obtain ⟨k0, k1, k2, f0, f1, f2⟩ := HX5.out
    have hl := HX5.out.lt
    clear hzero
    go_wp2
    refine bodyPost_ret (ret_cell_tmp2 rfl _ _ ⟨w.heap.size, 0, none⟩ noRec rfl (by unfold noRec; go_simp)) rfl ?_
    exact taken_bad HNo.out (stored3 HBW5.out (Nat.le_refl _) HBW5.out.size _ _ _)
  case pos =>
  have hye : (y.toList == []) = true := by rw [HYb.out]; exact decide_eq_true (HYz.out.2 hzero)
  have HTk : Hid (Rc.takenB t = Rc.placesB (l1 : Int) l2 (Rc.partT t)) := by
    show _ = _
    rw [HL.out.2.1, HL.out.2.2.1]
    exact Rc.taken_near (by rw [← HL.out.2.2.1]; exact HN41.out) (by rw [← HL.out.2.2.1]; exact hzero)
  have hbl4 := World.block_lt_of_cell? w4 _ HRs.out.1.1
  have hbl : b1 < w5.heap.size := Nat.lt_of_lt_of_le hbl4 HB5.out.size
  have r0 := (HB5.out.cell (p := ⟨b1, o1, none⟩) hbl4).trans HRs.out.1.1
  have r1 := (HB5.out.cell (p := ⟨b1, o1 + 1, none⟩) hbl4).trans HRs.out.1.2
  have R3 : Hid (w5.cell? ⟨b1, o1 + 3, none⟩ = some (.int .u64 (l3 : Int))) := (HB5.out.cell (p := ⟨b1, o1 + 3, none⟩) hbl4).trans HRs.out.2.2
  clear hzero hbl4
  go_wp2_with fail
  go_region
  obtain ⟨w6, hw6⟩ : ∃ w6, w6 = (w5.alloc (.cells #[.int .u64 (l0 : Int), .int .i64 (l1 : Int), .slice none 0 0] 71)).drew := ⟨_, rfl⟩
  have b6 : Below w5.heap.size w5 w6 := by rw [hw6]; exact ((Below.refl _ w5).alloc (Nat.le_refl _) _).drew
  have hr6 : BoxAt w6 w5.heap.size (.int .u64 (l0 : Int)) (.int .i64 (l1 : Int)) (.slice none 0 0) := by
    obtain ⟨a0, a1, a2, a3, a4, a5⟩ := BoxAt.new w5 71 (.int .u64 (l0 : Int)) (.int .i64 (l1 : Int)) (.slice none 0 0)
    rw [hw6]; exact ⟨a0, a1, a2, a3, a4, a5⟩
  rw [← hw6]
  have Q3 : Hid (w6.cell? ⟨b1, o1 + 3, none⟩ = some (.int .u64 (l3 : Int))) := (b6.cell (p := ⟨b1, o1 + 3, none⟩) hbl).trans R3.out
  have HBW6 : Hid (Below w.heap.size w w6) := below2 HBW5.out b6
  have HX6 : Hid (BoxAt w6 w.heap.size (.int .u64 0) (.int .i64 0) (.slice none 0 0)) := HX5.out.below b6 HX5.out.lt
  obtain ⟨rb, hrb⟩ : ∃ rb, rb = w5.heap.size := ⟨_, rfl⟩
  rw [← hrb] at hr6 ⊢
  have hbr : b1 < rb := by rw [hrb]; exact hbl
  have hwr : w.heap.size < rb := by rw [hrb]; exact HX5.out.lt
  have HR6 : Hid (BoxAt w6 rb (.int .u64 (l0 : Int)) (.int .i64 (l1 : Int)) (.slice none 0 0)) := hr6
  have HLt : Hid (b1 < rb ∧ w.heap.size < rb ∧ rb < w6.heap.size) := ⟨hbr, hwr, hr6.lt⟩
  clear hw6 b6 r0 r1 hrb hr6 hbl hbr hwr hye
  go_wp2
  go_loopg [12, 54] l2 (fun gg i0 i wr => ∃ (k : Nat) (v : Value), k ≤ l2 ∧ gg = l2 - k ∧ i = .int .i64 (k : Int) ∧ BoxAt wr rb (.int .u64 (l0 : Int)) (.int .i64 (l1 : Int)) v ∧ wr.ownsRow w6.heap.size 83 3 v k (prtVals k (Rc.partT t)) ∧ Only (fun x => x = rb) w6 wr)
  case atStart => exact ⟨0, .slice none 0 0, Nat.zero_le _, rfl, rfl, HR6.out, World.ownsRow_nil _ _ _ _, Only.refl _ _⟩
  case round =>
  obtain ⟨k, v, hk, rfl, rfl, hbx, hown, ho⟩ := hrel
  have HBx : Hid (BoxAt wr rb (.int .u64 (l0 : Int)) (.int .i64 (l1 : Int)) v) := hbx
  have OWN : Hid (wr.ownsRow w6.heap.size 83 3 v k (prtVals k (Rc.partT t))) := hown
  have HOn : Hid (Only (fun x => x = rb) w6 wr) := ho
  have HSm : Hid (∀ x, x < w6.heap.size → x ≠ rb → wr.heap[x]? = w6.heap[x]?) := fun x h1 h2 => ho.block x h1 h2
  have HSz : Hid (w6.heap.size ≤ wr.heap.size) := ho.size
  have hsz := ho.size
  clear ho hown
  by_cases hlt : k < l2
  case pos =>
    have hki : (k : Int) < (l2 : Int) := by omega
    have hkc : k < cd.size := by omega
    have hki41 : (k : Int) < 41 := by omega
    have hB := HCb.out k hkc
    obtain ⟨c, hc⟩ : ∃ c, c = cd[k]'hkc := ⟨_, rfl⟩
    have hcs := hc.symm
    have HPt : Hid (Rc.partT t k = ⟨(c.toNat / 4 : Nat), (c.toNat % 4 : Nat), ⟨#[]⟩⟩) := by show _ = _; unfold Rc.partT; rw [hc, hB]
    have hc256 := c.toNat_lt
    have HPl : Hid _ := fun W => place12_any c.toNat hc256 W
    obtain ⟨z0, z1, z2, e0, e1, e2⟩ := hbx
    clear hc hB
    go_upto_region 10 with fail
    obtain ⟨cn, hcn⟩ : ∃ cn, cn = c.toNat := ⟨_, rfl⟩
    obtain ⟨d4, hd4⟩ : ∃ d4, d4 = cn / 4 := ⟨_, rfl⟩
    obtain ⟨m4, hm4⟩ : ∃ m4, m4 = cn % 4 := ⟨_, rfl⟩
    have HP4 : Hid (Rc.partT t k = ⟨(d4 : Nat), (m4 : Nat), ⟨#[]⟩⟩) := by show _ = _; rw [hd4, hm4, hcn]; exact HPt.out
    have HPl4 : Hid (∀ W, Calls Tryz.prog 147 #[.int .u8 ((c.toNat : Nat) : Int)] W fun e w' => e = .returned (.agg #[.int .i64 (d4 : Int), .int .i64 (m4 : Int), .string ⟨#[]⟩]) ∧ Below W.heap.size W w') := fun W => by
      rw [hd4, hm4, hcn]
      exact HPl.out W
    clear hcn hd4 hm4 HPt HPl
    have hS : (fun _ : World => True) wr.drew := trivial
    refine wp_region_held (S := fun _ => True) HMX.out ?_
    change wpAnyH _ _ _ _ _ _ _ _ wr.drew
    refine held_quiet 0 (v := ?v0q9) rfl (by kernel_rfl) (fun _ _ _ h => h) (by assumption) rfl ?hy0q9 ?rest0q9
    case hy0q9 => (intro wS hSw; (try dsimp only at hSw); go_simp; try with_reducible rfl)
    try simp only [Act.put, List.setIfInBounds_toArray, List.set_cons_zero, List.set_cons_succ]
    refine held_quiet 2 (v := ?v2q10) rfl (by kernel_rfl) (fun _ _ _ h => h) (by assumption) rfl ?hy2q10 ?rest2q10
    case hy2q10 => (intro wS hSw; (try dsimp only at hSw); go_simp; try with_reducible rfl)
    try simp only [Act.put, List.setIfInBounds_toArray, List.set_cons_zero, List.set_cons_succ]
    refine held_quiet 3 (v := ?v3q11) rfl (by kernel_rfl) (fun _ _ _ h => h) (by assumption) rfl ?hy3q11 ?rest3q11
    case hy3q11 => (intro wS hSw; (try dsimp only at hSw); go_simp; try with_reducible rfl)
    try simp only [Act.put, List.setIfInBounds_toArray, List.set_cons_zero, List.set_cons_succ]
    refine held_quiet 4 (v := ?v4q12) rfl (by kernel_rfl) (fun _ _ _ h => h) (by assumption) rfl ?hy4q12 ?rest4q12
    case hy4q12 => (intro wS hSw; (try dsimp only at hSw); go_simp; try with_reducible rfl)
    try simp only [Act.put, List.setIfInBounds_toArray, List.set_cons_zero, List.set_cons_succ]
    refine held_two 1 5 rfl rfl (by kernel_rfl) ?_ ?_
    · go_wp2
      try refine ⟨trivial, ?_⟩
      refine held_one 5 rfl (by kernel_rfl) ?_
      go_wp2_with (go_at_call 147; refine (HPl4.out _).mono ?_; rintro e u1 ⟨rfl, hu1⟩)
      try refine ⟨trivial, ?_⟩
      have HBu : Hid (Below wr.heap.size wr u1) := (Below.refl wr.heap.size wr).drew.trans hu1
      have HBxu : Hid (BoxAt u1 rb (.int .u64 (l0 : Int)) (.int .i64 (l1 : Int)) v) := HBx.out.below HBu.out HBx.out.lt
      have OWNu : Hid (u1.ownsRow w6.heap.size 83 3 v k (prtVals k (Rc.partT t))) := ownsRow_below OWN.out HBu.out
      have hszu : w6.heap.size ≤ u1.heap.size := Nat.le_trans HSz.out HBu.out.size
      have hrbu : rb < u1.heap.size := HBxu.out.lt
      clear hu1 z0 z1 z2 e0 e1 e2
      refine held_one 6 rfl (by kernel_rfl) ?_
      go_wp2
      try refine ⟨trivial, ?_⟩
      refine held_one 7 rfl (by kernel_rfl) ?_
      refine wpList_append_own _ rfl _ _ 43 rfl w6.heap.size 83 i0 (.agg #[.int .i64 0, .int .i64 0, .string ByteArray.empty]) 3 32 Tryz.underlying43 hi hz0 hz1 hz2 rfl (by decide) v k (prtVals k (Rc.partT t)) rfl (OWNu.out.alloc _) ⟨u1.heap.size, 0, none⟩ 1 1 [.int .i64 (d4 : Int), .int .i64 (m4 : Int), .string ⟨#[]⟩] rfl rfl (news3 _ _ _ _ _) (by simp [Value.oneCell']) (by unfold maxLen; omega) (by omega) (by simp; omega) ?_
      intro v' u2 hown' hgrow _
      obtain ⟨g', cap', rfl⟩ := ownsRow_succ hown'
      have b4 := below_append OWNu.out hszu hgrow
      have HB4 : Hid (Below w6.heap.size u1 u2) := b4
      have OWN4 : Hid (u2.ownsRow w6.heap.size 83 3 (.slice (some ⟨g', 0, none⟩) (k + 1) cap') (k + 1) (prtVals (k + 1) (Rc.partT t))) := by show World.ownsRow _ _ _ _ _ _ _; rw [prtVals, HP4.out]; exact hown'
      have hbx4 := HBxu.out.below b4 HLt.out.2.2
      have HBx4 : Hid (BoxAt u2 rb (.int .u64 (l0 : Int)) (.int .i64 (l1 : Int)) v) := hbx4
      have HOn4 : Hid (Only (fun x => x = rb) w6 u2) := only_low (only_low HOn.out (HBu.out.mono HSz.out)) b4
      obtain ⟨z0, z1, z2, e0, e1, e2⟩ := hbx4
      clear b4 hown' hgrow
      go_wp2
      try refine ⟨trivial, ?_⟩
      have hS4 : (fun _ : World => True) u2 := trivial
      refine held_quiet 8 (v := ?v8q13) rfl (by kernel_rfl) (fun _ _ _ h => h) (by assumption) rfl ?hy8q13 ?rest8q13
      case hy8q13 => (intro wS hSw; (try dsimp only at hSw); go_simp; try with_reducible rfl)
      try simp only [Act.put, List.setIfInBounds_toArray, List.set_cons_zero, List.set_cons_succ]
      refine held_one 9 rfl (by kernel_rfl) ?_
      go_wp2_with fail
      try refine ⟨trivial, ?_⟩
      refine held_done (by kernel_rfl) ?_
      go_wp2
      go_roundg (l2 - (k + 1))
      case measure => omega
      case rel => exact ⟨k + 1, _, by omega, rfl, by go_num, HBx4.out.store _, own_set OWN4.out HLt.out.2.2 _, HOn4.out.then (Only.setCell _ _ _ _ rfl)⟩
    · go_wp2_with (go_at_call 147; refine (HPl4.out _).mono ?_; rintro e u1 ⟨rfl, hu1⟩)
      try refine ⟨trivial, ?_⟩
      have HBu : Hid (Below wr.heap.size wr u1) := (Below.refl wr.heap.size wr).drew.trans hu1
      have HBxu : Hid (BoxAt u1 rb (.int .u64 (l0 : Int)) (.int .i64 (l1 : Int)) v) := HBx.out.below HBu.out HBx.out.lt
      have OWNu : Hid (u1.ownsRow w6.heap.size 83 3 v k (prtVals k (Rc.partT t))) := ownsRow_below OWN.out HBu.out
      have hszu : w6.heap.size ≤ u1.heap.size := Nat.le_trans HSz.out HBu.out.size
      have hrbu : rb < u1.heap.size := HBxu.out.lt
      clear hu1 z0 z1 z2 e0 e1 e2
      refine held_two 1 6 rfl rfl (by kernel_rfl) ?_ ?_
      · have z2 := HBxu.out.k2
        go_wp2
        try refine ⟨trivial, ?_⟩
        clear z2
        refine held_one 6 rfl (by kernel_rfl) ?_
        go_wp2
        try refine ⟨trivial, ?_⟩
        refine held_one 7 rfl (by kernel_rfl) ?_
        refine wpList_append_own _ rfl _ _ 43 rfl w6.heap.size 83 i0 (.agg #[.int .i64 0, .int .i64 0, .string ByteArray.empty]) 3 32 Tryz.underlying43 hi hz0 hz1 hz2 rfl (by decide) v k (prtVals k (Rc.partT t)) rfl (OWNu.out.alloc _) ⟨u1.heap.size, 0, none⟩ 1 1 [.int .i64 (d4 : Int), .int .i64 (m4 : Int), .string ⟨#[]⟩] rfl rfl (news3 _ _ _ _ _) (by simp [Value.oneCell']) (by unfold maxLen; omega) (by omega) (by simp; omega) ?_
        intro v' u2 hown' hgrow _
        obtain ⟨g', cap', rfl⟩ := ownsRow_succ hown'
        have b4 := below_append OWNu.out hszu hgrow
        have HB4 : Hid (Below w6.heap.size u1 u2) := b4
        have OWN4 : Hid (u2.ownsRow w6.heap.size 83 3 (.slice (some ⟨g', 0, none⟩) (k + 1) cap') (k + 1) (prtVals (k + 1) (Rc.partT t))) := by show World.ownsRow _ _ _ _ _ _ _; rw [prtVals, HP4.out]; exact hown'
        have hbx4 := HBxu.out.below b4 HLt.out.2.2
        have HBx4 : Hid (BoxAt u2 rb (.int .u64 (l0 : Int)) (.int .i64 (l1 : Int)) v) := hbx4
        have HOn4 : Hid (Only (fun x => x = rb) w6 u2) := only_low (only_low HOn.out (HBu.out.mono HSz.out)) b4
        obtain ⟨z0, z1, z2, e0, e1, e2⟩ := hbx4
        clear b4 hown' hgrow
        go_wp2
        try refine ⟨trivial, ?_⟩
        have hS4 : (fun _ : World => True) u2 := trivial
        refine held_quiet 8 (v := ?v8q14) rfl (by kernel_rfl) (fun _ _ _ h => h) (by assumption) rfl ?hy8q14 ?rest8q14
        case hy8q14 => (intro wS hSw; (try dsimp only at hSw); go_simp; try with_reducible rfl)
        try simp only [Act.put, List.setIfInBounds_toArray, List.set_cons_zero, List.set_cons_succ]
        refine held_one 9 rfl (by kernel_rfl) ?_
        go_wp2_with fail
        try refine ⟨trivial, ?_⟩
        refine held_done (by kernel_rfl) ?_
        go_wp2
        go_roundg (l2 - (k + 1))
        case measure => omega
        case rel => exact ⟨k + 1, _, by omega, rfl, by go_num, HBx4.out.store _, own_set OWN4.out HLt.out.2.2 _, HOn4.out.then (Only.setCell _ _ _ _ rfl)⟩
      · go_wp2
        try refine ⟨trivial, ?_⟩
        refine held_one 1 rfl (by kernel_rfl) ?_
        have z2 : (u1.alloc (.cells #[.int .i64 (d4 : Int), .int .i64 (m4 : Int), .string ⟨#[]⟩] 83)).cell? ⟨rb, 2, none⟩ = some v := (((Below.refl _ u1).alloc (Nat.le_refl _) _).cell (p := ⟨rb, 2, none⟩) hrbu).trans HBxu.out.k2
        go_wp2
        try refine ⟨trivial, ?_⟩
        clear z2
        refine held_one 7 rfl (by kernel_rfl) ?_
        refine wpList_append_own _ rfl _ _ 43 rfl w6.heap.size 83 i0 (.agg #[.int .i64 0, .int .i64 0, .string ByteArray.empty]) 3 32 Tryz.underlying43 hi hz0 hz1 hz2 rfl (by decide) v k (prtVals k (Rc.partT t)) rfl (OWNu.out.alloc _) ⟨u1.heap.size, 0, none⟩ 1 1 [.int .i64 (d4 : Int), .int .i64 (m4 : Int), .string ⟨#[]⟩] rfl rfl (news3 _ _ _ _ _) (by simp [Value.oneCell']) (by unfold maxLen; omega) (by omega) (by simp; omega) ?_
        intro v' u2 hown' hgrow _
        obtain ⟨g', cap', rfl⟩ := ownsRow_succ hown'
        have b4 := below_append OWNu.out hszu hgrow
        have HB4 : Hid (Below w6.heap.size u1 u2) := b4
        have OWN4 : Hid (u2.ownsRow w6.heap.size 83 3 (.slice (some ⟨g', 0, none⟩) (k + 1) cap') (k + 1) (prtVals (k + 1) (Rc.partT t))) := by show World.ownsRow _ _ _ _ _ _ _; rw [prtVals, HP4.out]; exact hown'
        have hbx4 := HBxu.out.below b4 HLt.out.2.2
        have HBx4 : Hid (BoxAt u2 rb (.int .u64 (l0 : Int)) (.int .i64 (l1 : Int)) v) := hbx4
        have HOn4 : Hid (Only (fun x => x = rb) w6 u2) := only_low (only_low HOn.out (HBu.out.mono HSz.out)) b4
        obtain ⟨z0, z1, z2, e0, e1, e2⟩ := hbx4
        clear b4 hown' hgrow
        go_wp2
        try refine ⟨trivial, ?_⟩
        have hS4 : (fun _ : World => True) u2 := trivial
        refine held_quiet 8 (v := ?v8q15) rfl (by kernel_rfl) (fun _ _ _ h => h) (by assumption) rfl ?hy8q15 ?rest8q15
        case hy8q15 => (intro wS hSw; (try dsimp only at hSw); go_simp; try with_reducible rfl)
        try simp only [Act.put, List.setIfInBounds_toArray, List.set_cons_zero, List.set_cons_succ]
        refine held_one 9 rfl (by kernel_rfl) ?_
        go_wp2_with fail
        try refine ⟨trivial, ?_⟩
        refine held_done (by kernel_rfl) ?_
        go_wp2
        go_roundg (l2 - (k + 1))
        case measure => omega
        case rel => exact ⟨k + 1, _, by omega, rfl, by go_num, HBx4.out.store _, own_set OWN4.out HLt.out.2.2 _, HOn4.out.then (Only.setCell _ _ _ _ rfl)⟩
  case neg =>
    have hkl : k = l2 := by omega
    subst hkl
    obtain ⟨va, vc, rfl, hpr, hvc, hvb⟩ := PartsR.of_owns OWN.out
    have HVb : Hid (∀ x, va = some x → w6.heap.size ≤ x.block) := hvb
    have q3 := (cell_same12 (HSm.out b1 (by have := HLt.out; omega) (by have := HLt.out; omega)) (o1 + 3)).1.trans Q3.out
    have hx4 : BoxAt wr w.heap.size (.int .u64 0) (.int .i64 0) (.slice none 0 0) := by
      have e := HSm.out w.heap.size (by have := HLt.out; omega) (by have := HLt.out; omega)
      obtain ⟨a0, a1, a2, a3, a4, a5⟩ := HX6.out
      exact ⟨(cell_same12 e 0).1.trans a0, (cell_same12 e 1).1.trans a1, (cell_same12 e 2).1.trans a2, (cell_same12 e 0).2.trans a3, (cell_same12 e 1).2.trans a4, (cell_same12 e 2).2.trans a5⟩
    have hbw : Below w.heap.size w wr := HBW6.out.trans (HOn.out.below (fun x hx => by rw [hx]; exact Nat.le_of_lt HLt.out.2.1) HBW6.out.size)
    have hin : RecIn (l1 : Int) k (Rc.partT t) := ⟨by omega, by omega, fun j _ => by unfold Rc.partT; dsimp only; have := (Pg.byt11 t (19 + j)).toNat_lt; omega, fun j _ => by unfold Rc.partT; dsimp only; have := (Pg.byt11 t (19 + j)).toNat_lt; omega⟩
    have HPlc : Hid _ := fun (W : World) (hr : PartsR W va k (Rc.partT t)) => placed12_any (l0 : Int) (l1 : Int) va k vc (Rc.partT t) W hin hr
    have HBW : Hid (Below w.heap.size w wr) := hbw
    have HX7 : Hid (BoxAt wr w.heap.size (.int .u64 0) (.int .i64 0) (.slice none 0 0)) := hx4
    have HPR : Hid (PartsR wr va k (Rc.partT t)) := hpr
    obtain ⟨z0, z1, z2, _, _, _⟩ := hbx
    clear hx4 hbw hin hpr hlt hk hvb hvc
    go_wp2_with fail
    refine wp_region_held (S := fun W => W.cell? ⟨rb, 0, none⟩ = some (.int .u64 (l0 : Int)) ∧ W.cell? ⟨rb, 1, none⟩ = some (.int .i64 (l1 : Int)) ∧ W.cell? ⟨rb, 2, none⟩ = some (.slice va k vc) ∧ W.cell? ⟨b1, o1 + 3, none⟩ = some (.int .u64 (l3 : Int))) HMX.out ?_
    have hS : (fun W : World => W.cell? ⟨rb, 0, none⟩ = some (.int .u64 (l0 : Int)) ∧ W.cell? ⟨rb, 1, none⟩ = some (.int .i64 (l1 : Int)) ∧ W.cell? ⟨rb, 2, none⟩ = some (.slice va k vc) ∧ W.cell? ⟨b1, o1 + 3, none⟩ = some (.int .u64 (l3 : Int))) wr.drew := ⟨z0, z1, z2, q3⟩
    change wpAnyH _ _ _ _ _ _ _ _ wr.drew
    refine held_quiet 0 (v := ?v0q16) rfl (by kernel_rfl) (fun _ _ _ h => h) (by assumption) rfl ?hy0q16 ?rest0q16
    case hy0q16 => (intro wS hSw; (try dsimp only at hSw); go_simp; try with_reducible rfl)
    try simp only [Act.put, List.setIfInBounds_toArray, List.set_cons_zero, List.set_cons_succ]
    refine held_quiet 1 (v := ?v1q17) rfl (by kernel_rfl) (fun _ _ _ h => h) (by assumption) rfl ?hy1q17 ?rest1q17
    case hy1q17 => (intro wS hSw; (try dsimp only at hSw); go_simp; try with_reducible rfl)
    try simp only [Act.put, List.setIfInBounds_toArray, List.set_cons_zero, List.set_cons_succ]
    refine held_quiet 2 (v := ?v2q18) rfl (by kernel_rfl) (fun _ _ _ h => h) (by assumption) rfl ?hy2q18 ?rest2q18
    case hy2q18 => (intro wS hSw; (try dsimp only at hSw); go_simp; try with_reducible rfl)
    try simp only [Act.put, List.setIfInBounds_toArray, List.set_cons_zero, List.set_cons_succ]
    refine held_quiet 3 (v := ?v3q19) rfl (by kernel_rfl) (fun _ _ _ h => h) (by assumption) rfl ?hy3q19 ?rest3q19
    case hy3q19 => (intro wS hSw; (try dsimp only at hSw); go_simp; try with_reducible rfl)
    try simp only [Act.put, List.setIfInBounds_toArray, List.set_cons_zero, List.set_cons_succ]
    refine held_quiet 4 (v := ?v4q20) rfl (by kernel_rfl) (fun _ _ _ h => h) (by assumption) rfl ?hy4q20 ?rest4q20
    case hy4q20 => (intro wS hSw; (try dsimp only at hSw); go_simp; try with_reducible rfl)
    try simp only [Act.put, List.setIfInBounds_toArray, List.set_cons_zero, List.set_cons_succ]
    refine held_quiet 5 (v := ?v5q21) rfl (by kernel_rfl) (fun _ _ _ h => h) (by assumption) rfl ?hy5q21 ?rest5q21
    case hy5q21 => (intro wS hSw; (try dsimp only at hSw); go_simp; try with_reducible rfl)
    try simp only [Act.put, List.setIfInBounds_toArray, List.set_cons_zero, List.set_cons_succ]
    refine held_one 6 rfl (by kernel_rfl) ?_
    go_wp2_with (go_at_call 105; refine (HPlc.out _ (HPR.out.below (Below.refl wr.heap.size wr).drew)).mono ?_; rintro e w7 ⟨rfl, hb7⟩)
    have HB7 : Hid (Below wr.heap.size wr w7) := (Below.refl wr.heap.size wr).drew.trans hb7
    have hS7 : (fun W : World => W.cell? ⟨rb, 0, none⟩ = some (.int .u64 (l0 : Int)) ∧ W.cell? ⟨rb, 1, none⟩ = some (.int .i64 (l1 : Int)) ∧ W.cell? ⟨rb, 2, none⟩ = some (.slice va k vc) ∧ W.cell? ⟨b1, o1 + 3, none⟩ = some (.int .u64 (l3 : Int))) w7 := ⟨(HB7.out.cell (p := ⟨rb, 0, none⟩) HBx.out.lt).trans z0, (HB7.out.cell (p := ⟨rb, 1, none⟩) HBx.out.lt).trans z1, (HB7.out.cell (p := ⟨rb, 2, none⟩) HBx.out.lt).trans z2, (HB7.out.cell (p := ⟨b1, o1 + 3, none⟩) (World.block_lt_of_cell? wr _ q3)).trans q3⟩
    try refine ⟨hS7, ?_⟩
    have HBW7 : Hid (Below w.heap.size w w7) := below2 HBW.out HB7.out
    have OWN7 : Hid (w7.ownsRow w6.heap.size 83 3 (.slice va k vc) k (prtVals k (Rc.partT t))) := ownsRow_below OWN.out HB7.out
    obtain ⟨y0, y1, y2, g0, g1, g2⟩ := HX7.out.below HB7.out HX7.out.lt
    have hlw : w.heap.size < w7.heap.size := World.block_lt_of_cell? w7 _ y0
    clear hb7 z0 z1 z2 q3 hS
    refine held_one 7 rfl (by kernel_rfl) ?_
    go_wp2_with fail
    have ho8 := only3 w7 w.heap.size (.int .u64 (l0 : Int)) (.int .i64 (l1 : Int)) (.slice va k vc)
    have hS8 : (fun W : World => W.cell? ⟨rb, 0, none⟩ = some (.int .u64 (l0 : Int)) ∧ W.cell? ⟨rb, 1, none⟩ = some (.int .i64 (l1 : Int)) ∧ W.cell? ⟨rb, 2, none⟩ = some (.slice va k vc) ∧ W.cell? ⟨b1, o1 + 3, none⟩ = some (.int .u64 (l3 : Int))) (((w7.setCell ⟨w.heap.size, 0, none⟩ (.int .u64 (l0 : Int))).setCell ⟨w.heap.size, 1, none⟩ (.int .i64 (l1 : Int))).setCell ⟨w.heap.size, 2, none⟩ (.slice va k vc)) := by
      have e1 := ho8.block rb (World.block_lt_of_cell? w7 _ hS7.1) (by have := HLt.out; omega)
      have e2 := ho8.block b1 (World.block_lt_of_cell? w7 _ hS7.2.2.2) HNe.out
      exact ⟨(cell_same12 e1 0).1.trans hS7.1, (cell_same12 e1 1).1.trans hS7.2.1, (cell_same12 e1 2).1.trans hS7.2.2.1, (cell_same12 e2 (o1 + 3)).1.trans hS7.2.2.2⟩
    have hne : ∀ (W : World) (j : Nat) (x : Value) (o : Nat), (W.setCell ⟨w.heap.size, j, none⟩ x).cell? ⟨rb, o, none⟩ = W.cell? ⟨rb, o, none⟩ := fun W j x o => World.cell?_setCell_other _ _ _ _ (fun e => by injection e with e2; have := HLt.out; omega)
    refine ⟨by simp only [hne]; exact ⟨hS7.1, hS7.2.1, hS7.2.2.1⟩, ?_⟩
    have OWN8 : Hid ((((w7.setCell ⟨w.heap.size, 0, none⟩ (.int .u64 (l0 : Int))).setCell ⟨w.heap.size, 1, none⟩ (.int .i64 (l1 : Int))).setCell ⟨w.heap.size, 2, none⟩ (.slice va k vc)).ownsRow w.heap.size 83 3 (.slice va k vc) k (prtVals k (Rc.partT t))) :=
      own_low (own_set (own_set (own_set OWN7.out (by have := HLt.out; show w.heap.size < _; omega) _) (by have := HLt.out; show w.heap.size < _; omega) _) (by have := HLt.out; show w.heap.size < _; omega) _) HBW6.out.size
    have HB8 : Hid (Below w.heap.size w (((w7.setCell ⟨w.heap.size, 0, none⟩ (.int .u64 (l0 : Int))).setCell ⟨w.heap.size, 1, none⟩ (.int .i64 (l1 : Int))).setCell ⟨w.heap.size, 2, none⟩ (.slice va k vc))) := stored3 HBW7.out (Nat.le_refl _) HBW7.out.size _ _ _
    clear ho8 hne
    refine held_quiet 8 (v := ?v8q22) rfl (by kernel_rfl) (fun _ _ _ h => h) (by assumption) rfl ?hy8q22 ?rest8q22
    case hy8q22 => (intro wS hSw; (try dsimp only at hSw); go_simp; try with_reducible rfl)
    try simp only [Act.put, List.setIfInBounds_toArray, List.set_cons_zero, List.set_cons_succ]
    refine held_quiet 9 (v := ?v9q23) rfl (by kernel_rfl) (fun _ _ _ h => h) (by assumption) rfl ?hy9q23 ?rest9q23
    case hy9q23 => (intro wS hSw; (try dsimp only at hSw); go_simp; try with_reducible rfl)
    try simp only [Act.put, List.setIfInBounds_toArray, List.set_cons_zero, List.set_cons_succ]
    refine held_done (by kernel_rfl) ?_
    go_wp2
    refine bodyPost_ret (ret_cell_tmp2 rfl _ _ ⟨w.heap.size, 0, none⟩ (.agg #[.int .u64 (l0 : Int), .int .i64 (l1 : Int), .slice va k vc]) rfl (by go_simp)) rfl ?_
    refine ⟨(l0 : Int), (l1 : Int), (l3 : Int), va, k, vc, ?_, ?_, HB8.out⟩
    · rw [HTk.out]; rfl
    · intro _
      rw [← HL.out.1, ← HL.out.2.1, ← HL.out.2.2.1, ← HL.out.2.2.2]
      exact ⟨rfl, rfl, rfl, rfl, OWN8.out⟩
end Go.Proofs.YtjmeiifogblmoaaGreatDoor

namespace Go.Proofs.YtjmeiifogblmoaaGreatDoor
open Go.RowKit

namespace Rc
theorem has_magic (t : ByteArray) : Lib.hasPrefix t.data.toList [82, 86, 84, 74] = decide (t.extract 0 4 = magicB) := by
  unfold Lib.hasPrefix
  rw [Bool.eq_iff_iff, List.isPrefixOf_iff_prefix, decide_eq_true_iff, List.prefix_iff_eq_take]
  have e : (t.extract 0 4).data.toList = t.data.toList.take 4 := by rw [Pg.extract_list]; rfl
  constructor
  · intro hp; exact Pg.eq_of_list (by rw [e, ← show _ = t.data.toList.take 4 from hp]; rfl)
  · intro hp; rw [hp] at e; exact e
theorem cut_magic {t : ByteArray} (h : Lib.hasPrefix t.data.toList [82, 86, 84, 74] = true) : (⟨(Lib.trimPrefix t.data.toList [82, 86, 84, 74]).toArray⟩ : ByteArray) = Pg.tail4 t := by
  unfold Lib.trimPrefix Pg.tail4
  rw [if_pos h]; rfl
end Rc
/-- what Head answers: the parts are a row of the call's own -/
def HeadOwn (w : World) (b : ByteArray) (e : Ending) (w' : World) : Prop :=
  ∃ a cap, e = .returned (.tuple #[.agg #[.int .u64 (Rc.hSeq b : Int), .int .i64 (Rc.hRow b : Int), .slice a (Rc.hN b) cap], .int .u32 (Rc.hSum b : Int), .int .i64 (Rc.headE b : Int)]) ∧ w'.ownsRow w.heap.size 83 3 (.slice a (Rc.hN b) cap) (Rc.hN b) (prtVals (Rc.hN b) (Rc.hPart b)) ∧ Below w.heap.size w w'
theorem HeadOwn.ans {w w' : World} {b : ByteArray} {e : Ending} (h : HeadOwn w b e w') : HeadAns w b e w' := by
  obtain ⟨a, cap, he, hown, hb⟩ := h
  obtain ⟨a', cap', ev, hp, _⟩ := PartsR.of_owns hown
  cases ev
  exact ⟨a, cap, he, hp, hb⟩
theorem head_none12 {w w' : World} {b : ByteArray} {n : Nat} (h : Rc.headE b = n) (hn : n ≠ 0) (hb : Below w.heap.size w w') : HeadOwn w b (.returned (.tuple #[noRec, .int .u32 0, .int .i64 (n : Int)])) w' := by
  have e : ¬ Rc.headE b = 0 := by rw [h]; exact hn
  refine ⟨none, 0, ?_, ?_, hb⟩
  · unfold Rc.hSeq Rc.hRow Rc.hN Rc.hSum
    rw [if_neg e, if_neg e, if_neg e, if_neg e, h]; rfl
  · unfold Rc.hN; rw [if_neg e]; exact World.ownsRow_nil _ _ _ _
theorem cut12_yes (t : ByteArray) (h : t.extract 0 4 = Rc.magicB) (w : World) :
    Calls Tryz.prog 89 #[.string t, .string ⟨#[82, 86, 84, 74]⟩] w fun e w' => e = .returned (.tuple #[.string (Pg.tail4 t), .bool true]) ∧ w' = w := by
  have hh : Lib.hasPrefix t.data.toList [82, 86, 84, 74] = true := by rw [Rc.has_magic]; exact decide_eq_true h
  have hc := Tryz.strings_CutPrefix t ⟨#[82, 86, 84, 74]⟩ w
  rw [show (⟨#[82, 86, 84, 74]⟩ : ByteArray).data.toList = [82, 86, 84, 74] from rfl, hh, Rc.cut_magic hh] at hc
  exact hc
theorem cut12_no (t : ByteArray) (h : t.extract 0 4 ≠ Rc.magicB) (w : World) :
    Calls Tryz.prog 89 #[.string t, .string ⟨#[82, 86, 84, 74]⟩] w fun e w' => e = .returned (.tuple #[.string t, .bool false]) ∧ w' = w := by
  have hh : Lib.hasPrefix t.data.toList [82, 86, 84, 74] = false := by rw [Rc.has_magic]; exact decide_eq_false h
  have hc := Tryz.strings_CutPrefix t ⟨#[82, 86, 84, 74]⟩ w
  rw [show (⟨#[82, 86, 84, 74]⟩ : ByteArray).data.toList = [82, 86, 84, 74] from rfl, hh, show (⟨(Lib.trimPrefix t.data.toList [82, 86, 84, 74]).toArray⟩ : ByteArray) = t from by unfold Lib.trimPrefix; rw [hh]; exact Pg.eq_of_list (by simp)] at hc
  exact hc

set_option maxRecDepth 100000 in
set_option maxHeartbeats 1000000 in
theorem Head12_short (b : ByteArray) (h : b.size ≠ 64) (w : World) : Calls Tryz.prog 92 #[.string b] w (HeadOwn w b) := by
  have hn : ((b.size : Int) != 64) = true := by rw [bne_iff_ne]; omega
  have HE : Hid (Rc.headE b = 31) := Rc.headE_short h
  clear h
  go_enter Tryz.func92, Tryz.ntmps92
  go_wp2
  refine bodyPost_ret (ret_cell_tmp2 rfl _ _ ⟨w.heap.size, 0, none⟩ noRec rfl (by unfold noRec; go_simp)) rfl ?_
  exact head_none12 HE.out (by decide) ((Below.refl _ w).alloc (Nat.le_refl _) _)

set_option maxRecDepth 100000 in
set_option maxHeartbeats 1000000 in
theorem Head12_sum (b : ByteArray) (h : b.size = 64) (ho : Crc.opens b.data.toList = false) (w : World) : Calls Tryz.prog 92 #[.string b] w (HeadOwn w b) := by
  have hn : ((b.size : Int) != 64) = false := by rw [bne_eq_false_iff_eq]; omega
  have HO := fun W => Open_no b (by omega) ho W
  have HE : Hid (Rc.headE b = 80) := Rc.headE_sum h ho
  clear h ho
  go_enter Tryz.func92, Tryz.ntmps92
  go_wp2_with fail
  refine (HO _).mono ?_
  rintro e w1 ⟨rfl, hb1⟩
  have hx := (BoxAt.new w 71 (.int .u64 0) (.int .i64 0) (.slice none 0 0)).below hb1 (by simp)
  have hl := hx.lt
  obtain ⟨k0, k1, k2, f0, f1, f2⟩ := hx
  have HB : Hid (Below w.heap.size w w1) := box_below hb1
  clear hb1 HO
  go_wp2
  refine bodyPost_ret (ret_cell_tmp2 rfl _ _ ⟨w.heap.size, 0, none⟩ noRec rfl (by unfold noRec; go_simp)) rfl ?_
  exact head_none12 HE.out (by decide) (stored3 HB.out (Nat.le_refl _) HB.out.size _ _ _)

set_option maxRecDepth 100000 in
set_option maxHeartbeats 1000000 in
theorem Head12_magic (b t : ByteArray) (h : b.size = 64) (ho : Crc.opens b.data.toList = true) (ht : Crc.headB b = t) (hf : t.extract 0 4 ≠ Rc.magicB) (w : World) : Calls Tryz.prog 92 #[.string b] w (HeadOwn w b) := by
  have hn : ((b.size : Int) != 64) = false := by rw [bne_eq_false_iff_eq]; omega
  have HO := fun W => Open_yes b (by omega) ho W
  have HE : Hid (Rc.headE b = 81) := Rc.headE_magic h ho (by rw [ht]; exact hf)
  rw [ht] at HO
  have HC := fun W => cut12_no t hf W
  clear h ho ht hf
  go_enter Tryz.func92, Tryz.ntmps92
  go_wp2_with fail
  refine (HO _).mono ?_
  rintro e w1 ⟨rfl, hb1⟩
  have hx := (BoxAt.new w 71 (.int .u64 0) (.int .i64 0) (.slice none 0 0)).below hb1 (by simp)
  have hl := hx.lt
  obtain ⟨k0, k1, k2, f0, f1, f2⟩ := hx
  have HB : Hid (Below w.heap.size w w1) := box_below hb1
  clear hb1 HO
  go_wp2_with fail
  refine (HC _).mono ?_
  rintro e w2 ⟨rfl, rfl⟩
  clear HC
  go_wp2
  refine bodyPost_ret (ret_cell_tmp2 rfl _ _ ⟨w.heap.size, 0, none⟩ noRec rfl (by unfold noRec; go_simp)) rfl ?_
  exact head_none12 HE.out (by decide) (stored3 HB.out (Nat.le_refl _) HB.out.size _ _ _)

set_option maxRecDepth 100000 in
set_option maxHeartbeats 2000000 in
theorem Head12_rest (b t : ByteArray) (h : b.size = 64) (ho : Crc.opens b.data.toList = true) (ht : Crc.headB b = t) (hf : t.extract 0 4 = Rc.magicB) (w : World) : Calls Tryz.prog 92 #[.string b] w (HeadOwn w b) := by
  have hn : ((b.size : Int) != 64) = false := by rw [bne_eq_false_iff_eq]; omega
  have HO := fun W => Open_yes b (by omega) ho W
  have ts : t.size = 60 := by rw [← ht]; exact Pg.head_size h
  have hE := Rc.headE_taken h ho ht hf
  have hHd : Hid (Crc.headB b = t) := ht
  rw [ht] at HO
  have HC := fun W => cut12_yes t hf W
  have hT := fun W => taken12_any t ts W
  unfold TakenAns at hT
  change Rc.headE b = if Rc.takenB t = true then 0 else 1 at hE
  generalize Rc.takenB t = kb at hT hE
  obtain ⟨qt, hqt⟩ : ∃ qt, qt = Pg.tail4 t := ⟨_, rfl⟩
  rw [← hqt] at HC hT
  clear h ho ht hf ts hqt
  cases kb with
  | false =>
    have HE : Hid (Rc.headE b = 1) := by show _ = _; rw [hE]; rfl
    have HT : Hid _ := hT
    clear hE hT
    go_enter Tryz.func92, Tryz.ntmps92
    go_wp2_with fail
    refine (HO _).mono ?_
    rintro e w1 ⟨rfl, hb1⟩
    have HX1 : Hid (BoxAt w1 w.heap.size (.int .u64 0) (.int .i64 0) (.slice none 0 0)) := (BoxAt.new w 71 (.int .u64 0) (.int .i64 0) (.slice none 0 0)).below hb1 (by simp)
    have HB1 : Hid (Below w.heap.size w w1) := box_below hb1
    clear hb1 HO
    go_wp2_with fail
    refine (HC _).mono ?_
    rintro e w2 ⟨rfl, rfl⟩
    clear HC
    go_wp2_with fail
    refine (HT.out _).mono ?_
    rintro e w3 ⟨q, r, sm, a, m, cap, rfl, _, hb3⟩
    have HB3 : Hid (Below w.heap.size w w3) := below2 HB1.out hb3
    have hx3 := HX1.out.below hb3 HX1.out.lt
    have hl := hx3.lt
    obtain ⟨k0, k1, k2, f0, f1, f2⟩ := hx3
    clear hb3
    go_wp2
    refine bodyPost_ret (ret_cell_tmp2 rfl _ _ ⟨w.heap.size, 0, none⟩ noRec rfl (by unfold noRec; go_simp)) rfl ?_
    exact head_none12 HE.out (by decide) ((stored3 HB3.out (Nat.le_refl _) HB3.out.size _ _ _).alloc (stored3 HB3.out (Nat.le_refl _) HB3.out.size _ _ _).size _)
  | true =>
    have HE : Hid (Rc.headE b = 0) := by show _ = _; rw [hE]; rfl
    have HT : Hid (∀ W, Calls Tryz.prog 128 #[.string qt] W fun e w' => ∃ (l0 l1 l2 l3 : Nat) (a : Option Addr) (cap : Nat), e = .returned (.tuple #[.agg #[.int .u64 (l0 : Int), .int .i64 (l1 : Int), .slice a l2 cap], .int .u32 (l3 : Int), .bool true]) ∧ (l0 = Rc.numT t 0 ∧ l1 = Rc.numT t 1 ∧ l2 = Rc.numT t 2 ∧ l3 = Rc.numT t 3) ∧ w'.ownsRow W.heap.size 83 3 (.slice a l2 cap) l2 (prtVals l2 (Rc.partT t)) ∧ Below W.heap.size W w') := fun W => (hT W).mono fun e w' ⟨q, r, sm, a, m, cap, he, hok, hb⟩ => by
      obtain ⟨rfl, rfl, rfl, rfl, hp⟩ := hok rfl
      exact ⟨_, _, _, _, a, cap, he, ⟨rfl, rfl, rfl, rfl⟩, hp, hb⟩
    clear hE hT
    go_enter Tryz.func92, Tryz.ntmps92
    go_wp2_with fail
    refine (HO _).mono ?_
    rintro e w1 ⟨rfl, hb1⟩
    have HX1 : Hid (BoxAt w1 w.heap.size (.int .u64 0) (.int .i64 0) (.slice none 0 0)) := (BoxAt.new w 71 (.int .u64 0) (.int .i64 0) (.slice none 0 0)).below hb1 (by simp)
    have HB1 : Hid (Below w.heap.size w w1) := box_below hb1
    clear hb1 HO
    go_wp2_with fail
    refine (HC _).mono ?_
    rintro e w2 ⟨rfl, rfl⟩
    clear HC
    go_wp2_with fail
    refine (HT.out _).mono ?_
    rintro e w3 ⟨l0, l1, l2, l3, a, cap, rfl, hl4, hp3, hb3⟩
    have HL : Hid (l0 = Rc.numT t 0 ∧ l1 = Rc.numT t 1 ∧ l2 = Rc.numT t 2 ∧ l3 = Rc.numT t 3) := hl4
    have OWN3 : Hid (w3.ownsRow w2.heap.size 83 3 (.slice a l2 cap) l2 (prtVals l2 (Rc.partT t))) := hp3
    have HB3 : Hid (Below w.heap.size w w3) := below2 HB1.out hb3
    have hx3 := HX1.out.below hb3 HX1.out.lt
    have hl := hx3.lt
    obtain ⟨k0, k1, k2, f0, f1, f2⟩ := hx3
    clear hb3 hl4 hp3
    go_wp2
    refine bodyPost_ret (ret_cell_tmp2 rfl _ _ ⟨w.heap.size, 0, none⟩ (.agg #[.int .u64 (l0 : Int), .int .i64 (l1 : Int), .slice a l2 cap]) rfl (by go_simp)) rfl ?_
    have e1' : Rc.hSeq b = l0 := by unfold Rc.hSeq; rw [if_pos HE.out, hHd.out, HL.out.1]
    have e2' : Rc.hRow b = l1 := by unfold Rc.hRow; rw [if_pos HE.out, hHd.out, HL.out.2.1]
    have e3' : Rc.hN b = l2 := by unfold Rc.hN; rw [if_pos HE.out, hHd.out, HL.out.2.2.1]
    have e4' : Rc.hSum b = l3 := by unfold Rc.hSum; rw [if_pos HE.out, hHd.out, HL.out.2.2.2]
    have e5' : Rc.hPart b = Rc.partT t := by unfold Rc.hPart; rw [hHd.out]
    refine ⟨a, cap, ?_, ?_, ?_⟩
    · rw [e1', e2', e3', e4', HE.out]; rfl
    · rw [e3', e5']
      exact (own_low (own_set (own_set (own_set OWN3.out HX1.out.lt _) HX1.out.lt _) HX1.out.lt _) HB1.out.size).alloc _
    · exact (stored3 HB3.out (Nat.le_refl _) HB3.out.size _ _ _).alloc (stored3 HB3.out (Nat.le_refl _) HB3.out.size _ _ _).size _
/-- the program's own Head of any text -/
theorem Head12_any (b : ByteArray) (w : World) : Calls Tryz.prog 92 #[.string b] w (HeadOwn w b) := by
  by_cases h : b.size = 64
  · cases ho : Crc.opens b.data.toList with
    | false => exact Head12_sum b h ho w
    | true =>
      by_cases hf : (Crc.headB b).extract 0 4 = Rc.magicB
      · exact Head12_rest b _ h ho rfl hf w
      · exact Head12_magic b _ h ho rfl hf w
  · exact Head12_short b h w
end Go.Proofs.YtjmeiifogblmoaaGreatDoor

namespace Go.Proofs.YtjmeiifogblmoaaGreatDoor
open Go.RowKit

namespace Rc
/-- the first k parts have their data -/
def mixP (b : ByteArray) (g : Nat → ByteArray) (k j : Nat) : Prt := if j < k then dPart b g j else hPart b j
def putData (f : Nat → Prt) (i : Nat) (s : ByteArray) : Nat → Prt := fun j => if j = i then ⟨(f j).col, (f j).off, s⟩ else f j
theorem mix_zero (b : ByteArray) (g : Nat → ByteArray) (j : Nat) : mixP b g 0 j = hPart b j := if_neg (Nat.not_lt_zero _)
theorem mix_next (b : ByteArray) (g : Nat → ByteArray) (k j : Nat) : putData (mixP b g k) k (g k) j = mixP b g (k + 1) j := by
  unfold putData mixP
  by_cases e : j = k
  · subst e
    rw [if_pos rfl, if_neg (Nat.lt_irrefl _), if_pos (Nat.lt_succ_self _)]
    rfl
  · rw [if_neg e]
    by_cases h : j < k
    · rw [if_pos h, if_pos (by omega)]
    · rw [if_neg h, if_neg (by omega)]
theorem mix_last (b : ByteArray) (g : Nat → ByteArray) {m j : Nat} (h : j < m) : mixP b g m j = dPart b g j := if_pos h
theorem full_bare (b : ByteArray) (g : Nat → ByteArray) : ∀ m, fullTo (bareF g) m = fullTo (dPart b g) m
  | 0 => rfl
  | m + 1 => by
    show (fullTo (bareF g) m && decide ((g m).size = 64)) = (fullTo (dPart b g) m && decide ((g m).size = 64))
    rw [full_bare b g m]
end Rc
theorem PartsR.putData {w : World} {g n i : Nat} {f : Nat → Prt} (h : PartsR w (some ⟨g, 0, none⟩) n f) (hi : i < n) (s : ByteArray) : PartsR (w.setCell ⟨g, i * 3 + 2, none⟩ (.string s)) (some ⟨g, 0, none⟩) n (Rc.putData f i s) := fun j hj => by
  obtain ⟨b, o, e, hp⟩ := h j hj
  cases e
  refine ⟨g, 0, rfl, ?_⟩
  have ne : ∀ c, 0 + j * 3 + c ≠ i * 3 + 2 → (w.setCell ⟨g, i * 3 + 2, none⟩ (.string s)).cell? ⟨g, 0 + j * 3 + c, none⟩ = w.cell? ⟨g, 0 + j * 3 + c, none⟩ := fun c hc => World.cell?_setCell_other _ _ _ _ (fun e => by injection e with _ e2; exact hc e2.symm)
  by_cases e : j = i
  · subst e
    have es : Rc.putData f j s j = ⟨(f j).col, (f j).off, s⟩ := by simp [Rc.putData]
    rw [es]
    refine ⟨(ne 0 (by omega)).trans hp.c0, (ne 1 (by omega)).trans hp.c1, ?_⟩
    have hc := hp.c2
    rw [Nat.zero_add] at hc ⊢
    exact World.cell?_setCell_same _ _ _ hc
  · have es : Rc.putData f i s j = f j := by simp [Rc.putData, e]
    rw [es]
    exact ⟨(ne 0 (by omega)).trans hp.c0, (ne 1 (by omega)).trans hp.c1, (ne 2 (by omega)).trans hp.c2⟩

set_option maxRecDepth 100000 in
set_option maxHeartbeats 2000000 in
theorem Decode12_head (b : ByteArray) (aL : Option Addr) (m capL : Nat) (g : Nat → ByteArray) (h : Rc.headE b ≠ 0) (w : World) :
    Calls Tryz.prog 94 #[.string b, .slice aL m capL] w (DecNew12 w b m g) := by
  have hH := fun W => Head12_any b W
  have HE : Hid (Rc.decE b m g = Rc.headE b ∧ Rc.headE b ≠ 0) := ⟨Rc.decE_head h, h⟩
  obtain ⟨q, hq⟩ : ∃ q, q = Rc.headE b := ⟨_, rfl⟩
  have hne : ((q : Int) != 0) = true := by simp only [bne_iff_ne, ne_eq]; omega
  unfold HeadOwn at hH
  rw [← hq] at hH HE
  clear h hq
  go_enter Tryz.func94, Tryz.ntmps94
  go_wp2_with fail
  refine (hH _).mono ?_
  rintro e w1 ⟨a, cap, rfl, _, hb1⟩
  have hx := (BoxAt.new w 71 (.int .u64 0) (.int .i64 0) (.slice none 0 0)).below hb1 (by simp)
  have HB : Hid (Below w.heap.size w w1) := box_below hb1
  have hl := hx.lt
  obtain ⟨k0, k1, k2, f0, f1, f2⟩ := hx
  clear hb1 hH
  go_wp2
  refine bodyPost_ret (ret_cell_tmp rfl _ _ ⟨w.heap.size, 0, none⟩ noRec rfl (by unfold noRec; go_simp)) rfl ?_
  exact dec_badN HE.out.1 HE.out.2 ((stored3 HB.out (Nat.le_refl _) HB.out.size _ _ _).alloc (stored3 HB.out (Nat.le_refl _) HB.out.size _ _ _).size _)

set_option maxRecDepth 100000 in
set_option maxHeartbeats 2000000 in
theorem Decode12_count (b : ByteArray) (aL : Option Addr) (m capL : Nat) (g : Nat → ByteArray) (h : Rc.headE b = 0) (hm : m ≠ Rc.hN b) (w : World) :
    Calls Tryz.prog 94 #[.string b, .slice aL m capL] w (DecNew12 w b m g) := by
  have hH := fun W => Head12_any b W
  have HE : Hid (Rc.decE b m g = 31) := Rc.decE_count h hm
  obtain ⟨n, hn⟩ : ∃ n, n = Rc.hN b := ⟨_, rfl⟩
  have hne : ((m : Int) != (n : Int)) = true := by rw [bne_iff_ne]; omega
  unfold HeadOwn at hH
  rw [h, ← hn] at hH
  clear h hn hm
  go_enter Tryz.func94, Tryz.ntmps94
  go_wp2_with fail
  refine (hH _).mono ?_
  rintro e w1 ⟨a, cap, rfl, _, hb1⟩
  have hx := (BoxAt.new w 71 (.int .u64 0) (.int .i64 0) (.slice none 0 0)).below hb1 (by simp)
  have HB : Hid (Below w.heap.size w w1) := box_below hb1
  have hl := hx.lt
  obtain ⟨k0, k1, k2, f0, f1, f2⟩ := hx
  clear hb1 hH
  go_wp2
  refine bodyPost_ret (ret_cell_tmp rfl _ _ ⟨w.heap.size, 0, none⟩ noRec rfl (by unfold noRec; go_simp)) rfl ?_
  exact dec_badN HE.out (by decide) ((stored3 HB.out (Nat.le_refl _) HB.out.size _ _ _).alloc (stored3 HB.out (Nat.le_refl _) HB.out.size _ _ _).size _)

set_option maxRecDepth 100000 in
set_option maxHeartbeats 4000000 in
theorem Decode12_loop (b : ByteArray) (bl ol m capL : Nat) (g : Nat → ByteArray) (h : Rc.headE b = 0) (hm : m = Rc.hN b) (hc : m ≤ capL) (hg : ∀ j, j < m → (g j).size ≤ 100) (w : World) (hp : RowS w (some ⟨bl, ol, none⟩) m g) :
    Calls Tryz.prog 94 #[.string b, .slice (some ⟨bl, ol, none⟩) m capL] w (DecNew12 w b m g) := by
  have hH := fun W => Head12_any b W
  obtain ⟨_, q0, q1, m1, m40, q3, _, _⟩ := Rc.head_places h
  rw [← hm] at m1 m40
  have HE : Hid (Rc.headE b = 0 ∧ m = Rc.hN b) := ⟨h, hm⟩
  have hSe := fun (W : World) (hr : RowS W (some ⟨bl, ol, none⟩) m g) => sectors12_some bl ol m capL g W (by omega) hr
  have hTo := fun (W : World) (hr : RowS W (some ⟨bl, ol, none⟩) m g) => total12_any (some ⟨bl, ol, none⟩) m capL (Rc.dPart b g) W m1 (by omega) hc hg hr
  have hfe := Rc.full_bare b g m
  rw [hfe] at hSe
  unfold HeadOwn at hH
  rw [h, ← hm] at hH
  obtain ⟨l0, e0⟩ : ∃ l0, l0 = Rc.hSeq b := ⟨_, rfl⟩
  obtain ⟨l1, e1⟩ : ∃ l1, l1 = Rc.hRow b := ⟨_, rfl⟩
  obtain ⟨l3, e3⟩ : ∃ l3, l3 = Rc.hSum b := ⟨_, rfl⟩
  obtain ⟨sm, es⟩ : ∃ sm, sm = Rc.sumF m (Rc.dPart b g) := ⟨_, rfl⟩
  rw [← e0] at q0
  rw [← e1] at q1
  rw [← e3] at q3
  rw [← e0, ← e1, ← e3] at hH
  rw [← es] at hTo
  have HL : Hid (l0 = Rc.hSeq b ∧ l1 = Rc.hRow b ∧ l3 = Rc.hSum b ∧ sm = Rc.sumF m (Rc.dPart b g)) := ⟨e0, e1, e3, es⟩
  have HR : Hid (RowS w (some ⟨bl, ol, none⟩) m g) := hp
  have HG : Hid (∀ j, j < m → (g j).size ≤ 100) := hg
  have HSe : Hid _ := hSe
  have HTo : Hid _ := hTo
  have hmx : Tryz.prog.follows .mixedOrders = true := by kernel_rfl
  have HMX : Hid (Tryz.prog.follows .mixedOrders = true) := hmx
  have hme : ((m : Int) != (m : Int)) = false := by simp
  clear h hm hc hg e0 e1 e3 es hp hmx hSe hTo hfe
  go_enter Tryz.func94, Tryz.ntmps94
  go_wp2_with fail
  refine (hH _).mono ?_
  rintro e w1 ⟨a, cap, rfl, hown, hb1⟩
  have HX : Hid (BoxAt w1 w.heap.size (.int .u64 0) (.int .i64 0) (.slice none 0 0)) := (BoxAt.new w 71 (.int .u64 0) (.int .i64 0) (.slice none 0 0)).below hb1 (by simp)
  have HB : Hid (Below w.heap.size w w1) := box_below hb1
  have hown0 := hown
  obtain ⟨_, ⟨he, _⟩ | ⟨ga, cap2, cur, he, hgb, _⟩⟩ := hown
  · injection he with _ e2 _; omega
  injection he with ea _ ec
  subst ea
  subst ec
  rw [World.size_alloc] at hgb
  have hfz := fun j => hown0.frozenAt j
  obtain ⟨_, _, ev, hpr, _, _⟩ := PartsR.of_owns hown0
  cases ev
  have hgl : ga < w1.heap.size := by
    obtain ⟨bb, oo, eq, hp0⟩ := hpr 0 (by omega)
    cases eq
    exact hp0.lt
  clear hown0
  go_upto_region 2 with fail
  obtain ⟨w2, hw2⟩ : ∃ w2, w2 = w1.alloc (.cells #[.int .u64 (l0 : Int), .int .i64 (l1 : Int), .slice (some ⟨ga, 0, none⟩) m cap] 71) := ⟨_, rfl⟩
  rw [← hw2]
  obtain ⟨rb, hrb⟩ : ∃ rb, rb = w1.heap.size := ⟨_, rfl⟩
  have hr2 : BoxAt w2 rb (.int .u64 (l0 : Int)) (.int .i64 (l1 : Int)) (.slice (some ⟨ga, 0, none⟩) m cap) := by rw [hw2, hrb]; exact BoxAt.new w1 _ _ _ _
  have b2 : Below w1.heap.size w1 w2 := by rw [hw2]; exact (Below.refl _ w1).alloc (Nat.le_refl _) _
  have HB2 : Hid (Below w.heap.size w w2) := below2 HB.out b2
  have HX2 : Hid (BoxAt w2 w.heap.size (.int .u64 0) (.int .i64 0) (.slice none 0 0)) := HX.out.below b2 HX.out.lt
  have HP2 : Hid (PartsR w2 (some ⟨ga, 0, none⟩) m (Rc.hPart b)) := hpr.below b2
  have HF2 : Hid (∀ j, w2.frozen? ⟨ga, j, none⟩ = false) := fun j => (b2.frozen (p := ⟨ga, j, none⟩) hgl).trans (hfz j)
  have HR2 : Hid (RowS w2 (some ⟨bl, ol, none⟩) m g) := HR.out.below HB2.out
  have HLt : Hid (w.heap.size < ga ∧ ga < rb ∧ rb < w2.heap.size) := ⟨by omega, by rw [hrb]; exact hgl, hr2.lt⟩
  have HRb2 : Hid (BoxAt w2 rb (.int .u64 (l0 : Int)) (.int .i64 (l1 : Int)) (.slice (some ⟨ga, 0, none⟩) m cap)) := hr2
  rw [← hrb]
  clear b2 hw2 hrb hfz hpr hgl hgb hH hb1 hr2
  by_cases hfu : Rc.fullTo (Rc.dPart b g) m = true
  case neg =>
    have hfn : Rc.fullTo (Rc.dPart b g) m = false := by simpa using hfu
    have HE2 : Hid (Rc.decE b m g = 31) := Rc.decE_full HE.out.1 HE.out.2 hfn
    have hse := HSe.out _ HR2.out
    rw [hfn] at hse
    have z2 := HRb2.out.k2
    clear hfu hfn
    go_wp2_with fail
    refine hse.mono ?_
    rintro e w3 ⟨rfl, hw3⟩
    subst hw3
    have hl := HX2.out.lt
    obtain ⟨k0, k1, k2, f0, f1, f2⟩ := HX2.out
    clear z2 hse
    go_wp2
    refine bodyPost_ret (ret_cell_tmp rfl _ _ ⟨w.heap.size, 0, none⟩ noRec rfl (by unfold noRec; go_simp)) rfl ?_
    exact dec_badN HE2.out (by decide) (stored3 HB2.out (Nat.le_refl _) HB2.out.size _ _ _)
  case pos =>
  have hse := HSe.out _ HR2.out
  rw [hfu] at hse
  have HFu : Hid (Rc.fullTo (Rc.dPart b g) m = true) := hfu
  have z2 := HRb2.out.k2
  clear hfu
  go_wp2_with fail
  refine hse.mono ?_
  rintro e w3 ⟨rfl, hw3⟩
  subst hw3
  clear hse z2
  go_wp2_with fail
  refine (HTo.out _ HR2.out).mono ?_
  rintro e w4 ⟨rfl, hb4⟩
  have HB4 : Hid (Below w.heap.size w w4) := below2 HB2.out hb4
  have HX4 : Hid (BoxAt w4 w.heap.size (.int .u64 0) (.int .i64 0) (.slice none 0 0)) := HX2.out.below hb4 HX2.out.lt
  by_cases hs : sm = l3
  case neg =>
    have hsn : ((sm : Int) != (l3 : Int)) = true := by rw [bne_iff_ne]; omega
    have HE2 : Hid (Rc.decE b m g = 80) := Rc.decE_sum HE.out.1 HE.out.2 HFu.out (by rw [← HL.out.2.2.1, ← HL.out.2.2.2]; exact hs)
    have hl := HX4.out.lt
    obtain ⟨k0, k1, k2, f0, f1, f2⟩ := HX4.out
    clear hs hb4
    go_wp2
    refine bodyPost_ret (ret_cell_tmp rfl _ _ ⟨w.heap.size, 0, none⟩ noRec rfl (by unfold noRec; go_simp)) rfl ?_
    exact dec_badN HE2.out (by decide) (stored3 HB4.out (Nat.le_refl _) HB4.out.size _ _ _)
  case pos =>
  have hsn : ((sm : Int) != (l3 : Int)) = false := by rw [bne_eq_false_iff_eq]; omega
  have HE2 : Hid (Rc.decE b m g = 0) := Rc.decE_good HE.out.1 HE.out.2 HFu.out (by rw [← HL.out.2.2.1, ← HL.out.2.2.2]; exact hs)
  have hga2 : ga < w3.heap.size := by have := HLt.out; omega
  have HP4 : Hid (PartsR w4 (some ⟨ga, 0, none⟩) m (Rc.hPart b)) := HP2.out.below hb4
  have HF4 : Hid (∀ j, w4.frozen? ⟨ga, j, none⟩ = false) := fun j => (hb4.frozen (p := ⟨ga, j, none⟩) hga2).trans (HF2.out j)
  have HRb4 : Hid (BoxAt w4 rb (.int .u64 (l0 : Int)) (.int .i64 (l1 : Int)) (.slice (some ⟨ga, 0, none⟩) m cap)) := HRb2.out.below hb4 HRb2.out.lt
  clear hs hb4 hga2
  go_wp2
  go_loopg [9, 10, 43] m (fun gg u9 u10 i wr => ∃ k : Nat, k ≤ m ∧ gg = m - k ∧ i = .int .i64 (k : Int) ∧ PartsR wr (some ⟨ga, 0, none⟩) m (Rc.mixP b g k) ∧ (∀ j, wr.frozen? ⟨ga, j, none⟩ = false) ∧ BoxAt wr w.heap.size (.int .u64 0) (.int .i64 0) (.slice none 0 0) ∧ BoxAt wr rb (.int .u64 (l0 : Int)) (.int .i64 (l1 : Int)) (.slice (some ⟨ga, 0, none⟩) m cap) ∧ Below w.heap.size w wr)
  case atStart => exact ⟨0, Nat.zero_le _, rfl, rfl, HP4.out.congr (fun j _ => (Rc.mix_zero b g j).symm), HF4.out, HX4.out, HRb4.out, HB4.out⟩
  case round =>
  obtain ⟨k, hk, rfl, rfl, hpw, hfw, hxw, hrw, hbw⟩ := hrel
  have HPw : Hid (PartsR wr (some ⟨ga, 0, none⟩) m (Rc.mixP b g k)) := hpw
  have HFw : Hid (∀ j, wr.frozen? ⟨ga, j, none⟩ = false) := hfw
  have HXw : Hid (BoxAt wr w.heap.size (.int .u64 0) (.int .i64 0) (.slice none 0 0)) := hxw
  have HRw : Hid (BoxAt wr rb (.int .u64 (l0 : Int)) (.int .i64 (l1 : Int)) (.slice (some ⟨ga, 0, none⟩) m cap)) := hrw
  have HBw : Hid (Below w.heap.size w wr) := hbw
  clear hpw hfw
  by_cases hlt : k < m
  case neg =>
    have hkm : k = m := by omega
    subst hkm
    have hl := hxw.lt
    obtain ⟨k0, k1, k2, f0, f1, f2⟩ := hxw
    obtain ⟨y0, y1, y2, _, _, _⟩ := hrw
    clear hlt hk hbw
    go_wp2
    refine bodyPost_ret (ret_cell_tmp rfl _ _ ⟨w.heap.size, 0, none⟩ (.agg #[.int .u64 (l0 : Int), .int .i64 (l1 : Int), .slice (some ⟨ga, 0, none⟩) k cap]) rfl (by go_simp)) rfl ?_
    refine ⟨some ⟨ga, 0, none⟩, cap, ?_, ?_, (fun x hx => by cases hx; show w.heap.size ≤ ga; have := HLt.out; omega), stored3 HBw.out (Nat.le_refl _) HBw.out.size _ _ _⟩
    · unfold Rc.dSeq Rc.dRow Rc.dN
      rw [HE2.out, if_pos rfl, if_pos rfl, if_pos rfl, ← HL.out.1, ← HL.out.2.1, ← HE.out.2]; rfl
    · unfold Rc.dN
      rw [HE2.out, if_pos rfl, ← HE.out.2]
      exact (HPw.out.congr (fun j hj => Rc.mix_last b g hj)).only (only3 _ _ _ _ _) (fun x hx e => by cases hx; dsimp only at e; have := HLt.out; omega)
  case pos =>
  have hki : (k : Int) < (m : Int) := by omega
  have hcl : wr.cell? ⟨bl, ol + k, none⟩ = some (.string (g k)) := (HR.out.below hbw).at hlt
  have hgk := HG.out k hlt
  have hmx2 : ∀ j, Rc.putData (Rc.mixP b g k) k (g k) j = Rc.mixP b g (k + 1) j := Rc.mix_next b g k
  obtain ⟨s, hsg⟩ : ∃ s, s = g k := ⟨_, rfl⟩
  rw [← hsg] at hcl hgk hmx2
  have HMx2 : Hid (∀ j, Rc.putData (Rc.mixP b g k) k s j = Rc.mixP b g (k + 1) j) := hmx2
  have HCl : Hid _ := fun W => Clone_any s (by omega) W
  have z2 := hrw.k2
  clear hsg hmx2 hxw hrw hbw
  go_upto_region 11 with fail
  have hS : (fun W : World => W.cell? ⟨rb, 2, none⟩ = some (.slice (some ⟨ga, 0, none⟩) m cap)) wr.drew := z2
  refine wp_region_held (S := (fun W : World => W.cell? ⟨rb, 2, none⟩ = some (.slice (some ⟨ga, 0, none⟩) m cap))) HMX.out ?_
  change wpAnyH _ _ _ _ _ _ _ _ wr.drew
  refine held_quiet 0 (v := ?v0q1) rfl (by kernel_rfl) (fun _ _ _ h => h) (by assumption) rfl ?hy0q1 ?rest0q1
  case hy0q1 => (intro wS hSw; (try dsimp only at hSw); go_simp; try with_reducible rfl)
  try simp only [Act.put, List.setIfInBounds_toArray, List.set_cons_zero, List.set_cons_succ]
  refine held_quiet 1 (v := ?v1q2) rfl (by kernel_rfl) (fun _ _ _ h => h) (by assumption) rfl ?hy1q2 ?rest1q2
  case hy1q2 => (intro wS hSw; (try dsimp only at hSw); go_simp; try with_reducible rfl)
  try simp only [Act.put, List.setIfInBounds_toArray, List.set_cons_zero, List.set_cons_succ]
  refine held_quiet 2 (v := ?v2q3) rfl (by kernel_rfl) (fun _ _ _ h => h) (by assumption) rfl ?hy2q3 ?rest2q3
  case hy2q3 => (intro wS hSw; (try dsimp only at hSw); go_simp; try with_reducible rfl)
  try simp only [Act.put, List.setIfInBounds_toArray, List.set_cons_zero, List.set_cons_succ]
  refine held_quiet 3 (v := ?v3q4) rfl (by kernel_rfl) (fun _ _ _ h => h) (by assumption) rfl ?hy3q4 ?rest3q4
  case hy3q4 => (intro wS hSw; (try dsimp only at hSw); go_simp; try with_reducible rfl)
  try simp only [Act.put, List.setIfInBounds_toArray, List.set_cons_zero, List.set_cons_succ]
  refine held_one 4 rfl (by kernel_rfl) ?_
  go_wp2_with (go_at_call 106; refine (HCl.out _).mono ?_; rintro e u1 ⟨rfl, hu1⟩)
  have HBu : Hid (Below wr.heap.size wr u1) := (Below.refl wr.heap.size wr).drew.trans hu1
  have hrwu := HRw.out.below HBu.out HRw.out.lt
  have hSu : (fun W : World => W.cell? ⟨rb, 2, none⟩ = some (.slice (some ⟨ga, 0, none⟩) m cap)) u1 := hrwu.k2
  try refine ⟨hSu, ?_⟩
  have hga3 : ga < wr.heap.size := by
    obtain ⟨bb, oo, eq, hp0⟩ := HPw.out k hlt
    cases eq
    exact hp0.lt
  have HPu : Hid (PartsR u1 (some ⟨ga, 0, none⟩) m (Rc.mixP b g k)) := HPw.out.below HBu.out
  have HFu1 : Hid (∀ j, u1.frozen? ⟨ga, j, none⟩ = false) := fun j => (HBu.out.frozen (p := ⟨ga, j, none⟩) hga3).trans (HFw.out j)
  have HXu : Hid (BoxAt u1 w.heap.size (.int .u64 0) (.int .i64 0) (.slice none 0 0)) := HXw.out.below HBu.out HXw.out.lt
  have HRu : Hid (BoxAt u1 rb (.int .u64 (l0 : Int)) (.int .i64 (l1 : Int)) (.slice (some ⟨ga, 0, none⟩) m cap)) := hrwu
  have HBWu : Hid (Below w.heap.size w u1) := below2 HBw.out HBu.out
  clear hu1 hrwu hS z2
  refine held_quiet 5 (v := ?v5q5) rfl (by kernel_rfl) (fun _ _ _ h => h) (by assumption) rfl ?hy5q5 ?rest5q5
  case hy5q5 => (intro wS hSw; (try dsimp only at hSw); go_simp; try with_reducible rfl)
  try simp only [Act.put, List.setIfInBounds_toArray, List.set_cons_zero, List.set_cons_succ]
  refine held_quiet 6 (v := ?v6q6) rfl (by kernel_rfl) (fun _ _ _ h => h) (by assumption) rfl ?hy6q6 ?rest6q6
  case hy6q6 => (intro wS hSw; (try dsimp only at hSw); go_simp; try with_reducible rfl)
  try simp only [Act.put, List.setIfInBounds_toArray, List.set_cons_zero, List.set_cons_succ]
  have hcd := HPu.out k hlt
  obtain ⟨_, _, eq, hpk⟩ := hcd
  cases eq
  have hp2 := hpk.c2
  rw [Nat.zero_add] at hp2
  have hf2 := HFu1.out (k * 3 + 2)
  clear hpk
  refine held_one 7 rfl (by kernel_rfl) ?_
  go_wp2_with fail
  refine ⟨(World.cell?_setCell_other _ _ _ _ (fun e => by injection e with e2; have := HLt.out; omega)).trans hSu, ?_⟩
  refine held_done (by kernel_rfl) ?_
  go_wp2
  go_roundg (m - (k + 1))
  case measure => omega
  case rel => exact ⟨k + 1, by omega, rfl, by go_num, (HPu.out.putData hlt s).congr (fun j _ => HMx2.out j), fun j => (World.frozen?_setCell _ _ _ _).trans (HFu1.out j), HXu.out.other (by have := HLt.out; omega) _ _, HRu.out.other (by have := HLt.out; omega) _ _, HBWu.out.setCell (p := ⟨ga, k * 3 + 2, none⟩) (by have := HLt.out; show w.heap.size ≤ ga; omega) _⟩
/-- the program's own Decode, of any head and load -/
theorem Decode12_new (b : ByteArray) (aL : Option Addr) (m capL : Nat) (g : Nat → ByteArray) (w : World) (hg : ∀ j, j < m → (g j).size ≤ 100) (hc : m ≤ capL) (hp : RowS w aL m g) :
    Calls Tryz.prog 94 #[.string b, .slice aL m capL] w (DecNew12 w b m g) := by
  by_cases h : Rc.headE b = 0
  · by_cases hm : m = Rc.hN b
    · have m1 := (Rc.head_places h).2.2.2.1
      rcases hp.place with h0 | ⟨bl, ol, rfl⟩
      · omega
      · exact Decode12_loop b bl ol m capL g h hm hc hg w hp
    · exact Decode12_count b aL m capL g h hm w
  · exact Decode12_head b aL m capL g h w
theorem Decode12_any (b : ByteArray) (aL : Option Addr) (m capL : Nat) (g : Nat → ByteArray) (w : World) (hg : ∀ j, j < m → (g j).size ≤ 100) (hc : m ≤ capL) (hp : RowS w aL m g) :
    Calls Tryz.prog 94 #[.string b, .slice aL m capL] w (DecAns12 w b m g) := (Decode12_new b aL m capL g w hg hc hp).mono fun _ _ h => h.ans
/-- what is asked of the program's own package -/
theorem rec_says : RecSays :=
  ⟨fun seq row a n cap f w _ hin _ hp => May12_any (seq : Int) row a n cap f w hin hp,
   fun seq row a n cap f w h0 hin _ hp => Encode12_any seq row a n cap f w h0 hin hp,
   fun b w _ => (Head12_any b w).mono fun _ _ h => h.ans,
   fun b aL m capL g w _ _ hg hc hp => Decode12_any b aL m capL g w hg hc hp⟩
end Go.Proofs.YtjmeiifogblmoaaGreatDoor
