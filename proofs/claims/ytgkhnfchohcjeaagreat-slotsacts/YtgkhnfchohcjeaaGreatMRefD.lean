/- Several texts in one. The walks of the document's own slots: One and Load, on whatever such a drive holds. The walk of the document's own Load. -/
import Derived.Test.YtgkhnfchohcjeaaGreatMRefB
import Derived.Test.YtgkhnfchohcjeaaGreatSlNext
import Derived.Test.YtgkhnfchohcjeaaGreatRef08Dec
import Derived.Deep.Cut
namespace Go.Proofs.YtgkhnfchohcjeaaGreat
open Go.RowKit

theorem info_rsup : (Tryz.prog.info? 39).map (·.size) = some 10 := by kernel_rfl
/-- what the walk asks of a superblock's cells, as the document's own type -/
structure RupL (l : List Value) (s : Su) : Prop where
  len : l.length = 10
  size : l.toArray.size = 10
  one : l.toArray.all (·.oneCell') = true
  ev : l[1]? = some (.int .u64 (s.ev : Int))
  info : (Tryz.prog.info? 39).map (·.size) = some l.length
  infoA : (Tryz.prog.info? 39).map (·.size) = some l.toArray.size
theorem rup_letter (s : Su) : ∃ l, supL s = l ∧ RupL l s := ⟨_, rfl, rfl, rfl, supL_one s, rfl, info_rsup, info_rsup⟩

section
variable {w w' : World} {rp : Nat} {R : Dr} {G : Nat → Prop}
set_option maxRecDepth 100000 in
set_option maxHeartbeats 2000000 in
theorem rOne_no (h : RefAt w rp R G) (hg : R.goes = false) (i : Int) (hr : R.readE i ≠ 0) :
    Calls Tryz.prog 37 #[.pointer (some ⟨rp, 0, none⟩), .int .i64 i] w fun e w' => e = .returned (.tuple #[.agg (supL Sup.none).toArray, .bool false]) ∧ Below w.heap.size w w' := by
  have hR := rRead_any (h.below ((Below.refl w.heap.size w).alloc (Nat.le_refl _) (.cells (supL Sup.none).toArray 39))) hg i
  obtain ⟨r, er⟩ : ∃ r, r = R.readE i := ⟨_, rfl⟩
  obtain ⟨t, et⟩ : ∃ t, t = txt (R.readS i) := ⟨_, rfl⟩
  rw [← er] at hr hR
  rw [← et] at hR
  have hne : ((r : Int) != 0) = true := by simp only [bne_iff_ne, ne_eq]; omega
  have T : Hid _ := there_new w (supL Sup.none).toArray 39 10 (by decide)
  clear er et hr h
  go_enter Tryz.func37, Tryz.ntmps37
  go_wp2_with fail
  refine hR.mono ?_
  rintro e w1 ⟨rfl, rfl⟩
  clear hR
  go_wp2_with (first
    | (refine wpList_store_mid rfl 39 _ _ rfl w.heap.size 0 (supL Sup.none).toArray rfl rfl T.out info_rsup (supL_one _) ?_))
  refine bodyPost_ret (results_cell_slot rfl _ _ w.heap.size 0 (supL Sup.none) _ rfl (World.rangeAt_setCells_same _ _ _ _ T.out) Tryz.underlying39 rfl info_rsup) rfl ⟨rfl, ?_⟩
  exact ((Below.refl _ w).alloc (Nat.le_refl _) _).trans (below_setCells (Nat.le_refl _) _)
set_option maxRecDepth 100000 in
set_option maxHeartbeats 2000000 in
theorem rOne_bad (h : RefAt w rp R G) (hg : R.goes = false) (i : Int) (hr : R.readE i = 0) (hd : Sup.decE (txt (R.readS i)) ≠ 0) :
    Calls Tryz.prog 37 #[.pointer (some ⟨rp, 0, none⟩), .int .i64 i] w fun e w' => e = .returned (.tuple #[.agg (supL Sup.none).toArray, .bool false]) ∧ Below w.heap.size w w' := by
  have hR := rRead_any (h.below ((Below.refl w.heap.size w).alloc (Nat.le_refl _) (.cells (supL Sup.none).toArray 39))) hg i
  rw [hr] at hR
  obtain ⟨t, et⟩ : ∃ t, t = txt (R.readS i) := ⟨_, rfl⟩
  rw [← et] at hR hd
  have hD := fun W => rDecode8_any t W
  obtain ⟨c, ec⟩ : ∃ c, c = Sup.decE t := ⟨_, rfl⟩
  obtain ⟨l, el, L⟩ := rup_letter (Sup.decS t)
  simp only [supV_list] at hD
  rw [el, ← ec] at hD
  rw [← ec] at hd
  have hne : (c != 0) = true := by simp only [bne_iff_ne, ne_eq]; exact hd
  have HL : Hid _ := L
  have T : Hid _ := there_new w (supL Sup.none).toArray 39 10 (by decide)
  have HS : Hid _ := World.size_alloc w (.cells (supL Sup.none).toArray 39)
  clear et ec el hr h L hd
  go_enter Tryz.func37, Tryz.ntmps37
  go_wp2_with fail
  refine hR.mono ?_
  rintro e w1 ⟨rfl, rfl⟩
  clear hR
  go_wp2_with fail
  refine (hD _).mono ?_
  rintro e w2 ⟨rfl, hb2⟩
  have T2 : Hid _ := there_below T.out (by rw [HS.out]; exact Nat.lt_succ_self _) hb2
  have HB2 : Hid (Below w.heap.size w w2) := ((Below.refl w.heap.size w).alloc (Nat.le_refl _) _).trans (hb2.mono (by rw [HS.out]; omega))
  have HL2 : Hid (w.heap.size < w2.heap.size) := Nat.lt_of_lt_of_le (by rw [HS.out]; exact Nat.lt_succ_self _) hb2.size
  clear hD hb2 T HS
  have TN : Hid (∀ C : Array Value, C.size = 10 → (w2.alloc (.cells C 39)).there w2.heap.size 0 l.toArray.size) := fun C hC => by rw [HL.out.size]; exact there_new w2 C _ 10 (by omega)
  go_upto_region 5 with (first
    | (refine wpList_store_mid rfl 39 _ _ rfl w2.heap.size 0 l.toArray rfl rfl (TN.out _ rfl) HL.out.infoA HL.out.one ?_; change wpList _ _ _ _ _ (World.setCells _ _ _ l)))
  obtain ⟨w3, hw3⟩ : ∃ w3, w3 = (w2.alloc (.cells (supL Sup.none).toArray 39)).setCells w2.heap.size 0 l := ⟨_, rfl⟩
  change Code.wp _ _ _ _ ((w2.alloc (.cells (supL Sup.none).toArray 39)).setCells w2.heap.size 0 l)
  rw [← hw3]
  have T3 : Hid (w3.there w.heap.size 0 10) := by rw [hw3]; exact World.there_setCells (World.there_alloc T2.out _) _ _ _
  have HB3 : Hid (Below w.heap.size w w3) := by rw [hw3]; exact HB2.out.trans (((Below.refl _ w2).alloc (Nat.le_of_lt HL2.out) _).trans (below_setCells (Nat.le_of_lt HL2.out) _))
  clear hw3
  go_wp2_with (first
    | (refine wpList_store_mid rfl 39 _ _ rfl w.heap.size 0 (supL Sup.none).toArray rfl rfl T3.out info_rsup (supL_one _) ?_))
  refine bodyPost_ret (results_cell_slot rfl _ _ w.heap.size 0 (supL Sup.none) _ rfl (World.rangeAt_setCells_same _ _ _ _ T3.out) Tryz.underlying39 rfl info_rsup) rfl ⟨rfl, ?_⟩
  exact HB3.out.trans (below_setCells (Nat.le_refl _) _)
set_option maxRecDepth 100000 in
set_option maxHeartbeats 2000000 in
theorem rOne_yes (h : RefAt w rp R G) (hg : R.goes = false) (i : Int) (hr : R.readE i = 0) (hd : Sup.decE (txt (R.readS i)) = 0) :
    Calls Tryz.prog 37 #[.pointer (some ⟨rp, 0, none⟩), .int .i64 i] w fun e w' => e = .returned (.tuple #[.agg (supL (Sup.decS (txt (R.readS i)))).toArray, .bool true]) ∧ Below w.heap.size w w' := by
  have hR := rRead_any (h.below ((Below.refl w.heap.size w).alloc (Nat.le_refl _) (.cells (supL Sup.none).toArray 39))) hg i
  rw [hr] at hR
  obtain ⟨t, et⟩ : ∃ t, t = txt (R.readS i) := ⟨_, rfl⟩
  rw [← et] at hR hd ⊢
  have hD := fun W => rDecode8_any t W
  obtain ⟨l, el, L⟩ := rup_letter (Sup.decS t)
  simp only [supV_list] at hD
  rw [el, hd] at hD
  rw [el]
  have HL : Hid _ := L
  have T : Hid _ := there_new w (supL Sup.none).toArray 39 10 (by decide)
  have HS : Hid _ := World.size_alloc w (.cells (supL Sup.none).toArray 39)
  clear et el hr h L hd
  go_enter Tryz.func37, Tryz.ntmps37
  go_wp2_with fail
  refine hR.mono ?_
  rintro e w1 ⟨rfl, rfl⟩
  clear hR
  go_wp2_with fail
  refine (hD _).mono ?_
  rintro e w2 ⟨rfl, hb2⟩
  have T2 : Hid _ := there_below T.out (by rw [HS.out]; exact Nat.lt_succ_self _) hb2
  have HB2 : Hid (Below w.heap.size w w2) := ((Below.refl w.heap.size w).alloc (Nat.le_refl _) _).trans (hb2.mono (by rw [HS.out]; omega))
  have HL2 : Hid (w.heap.size < w2.heap.size) := Nat.lt_of_lt_of_le (by rw [HS.out]; exact Nat.lt_succ_self _) hb2.size
  clear hD hb2 T HS
  have TN : Hid (∀ C : Array Value, C.size = 10 → (w2.alloc (.cells C 39)).there w2.heap.size 0 l.toArray.size) := fun C hC => by rw [HL.out.size]; exact there_new w2 C _ 10 (by omega)
  go_upto_region 5 with (first
    | (refine wpList_store_mid rfl 39 _ _ rfl w2.heap.size 0 l.toArray rfl rfl (TN.out _ rfl) HL.out.infoA HL.out.one ?_; change wpList _ _ _ _ _ (World.setCells _ _ _ l)))
  obtain ⟨w3, hw3⟩ : ∃ w3, w3 = (w2.alloc (.cells (supL Sup.none).toArray 39)).setCells w2.heap.size 0 l := ⟨_, rfl⟩
  change Code.wp _ _ _ _ ((w2.alloc (.cells (supL Sup.none).toArray 39)).setCells w2.heap.size 0 l)
  rw [← hw3]
  have T3 : Hid (w3.there w.heap.size 0 l.toArray.size) := by rw [hw3, HL.out.size]; exact World.there_setCells (World.there_alloc T2.out _) _ _ _
  have R3 : Hid (w3.rangeAt w2.heap.size 0 l) := by rw [hw3]; exact World.rangeAt_setCells_same _ _ _ _ (TN.out _ rfl)
  have HB3 : Hid (Below w.heap.size w w3) := by rw [hw3]; exact HB2.out.trans (((Below.refl _ w2).alloc (Nat.le_of_lt HL2.out) _).trans (below_setCells (Nat.le_of_lt HL2.out) _))
  clear hw3
  go_wp2_with (first
    | (refine wpList_load_mid rfl 39 _ rfl w2.heap.size 0 rfl l _ R3.out Tryz.underlying39 rfl HL.out.info ?_)
    | (refine wpList_store_mid rfl 39 _ _ rfl w.heap.size 0 l.toArray rfl rfl T3.out HL.out.infoA HL.out.one ?_))
  refine bodyPost_ret (results_cell_slot rfl _ _ w.heap.size 0 l _ rfl (World.rangeAt_setCells_same _ _ _ _ T3.out) Tryz.underlying39 rfl HL.out.info) rfl ⟨rfl, ?_⟩
  exact HB3.out.trans (below_setCells (Nat.le_refl _) _)
theorem rOne_any (h : RefAt w rp R G) (hg : R.goes = false) (i : Int) :
    Calls Tryz.prog 37 #[.pointer (some ⟨rp, 0, none⟩), .int .i64 i] w fun e w' => e = .returned (.tuple #[.agg (supL (R.slS i)).toArray, .bool (R.slB i)]) ∧ Below w.heap.size w w' := by
  by_cases hr : R.readE i = 0
  · by_cases hd : Sup.decE (txt (R.readS i)) = 0
    · have e1 : R.slS i = Sup.decS (txt (R.readS i)) := if_pos hr
      have e2 : R.slB i = true := by unfold Dr.slB; rw [hr, hd]; rfl
      rw [e1, e2]; exact rOne_yes h hg i hr hd
    · have e2 : R.slB i = false := by unfold Dr.slB; rw [hr, show (Sup.decE (txt (R.readS i)) == 0) = false from by simpa using hd]; rfl
      rw [Dr.slS_none e2, e2]; exact rOne_bad h hg i hr hd
  · have e2 : R.slB i = false := by unfold Dr.slB; rw [show (R.readE i == 0) = false from by simpa using hr]; rfl
    rw [Dr.slS_none e2, e2]; exact rOne_no h hg i hr
end
end Go.Proofs.YtgkhnfchohcjeaaGreat

namespace Go.Proofs.YtgkhnfchohcjeaaGreat
open Go.RowKit

section
variable {w w' : World} {rp : Nat} {R : Dr} {G : Nat → Prop}
set_option maxRecDepth 100000 in
set_option maxHeartbeats 1000000 in
theorem rLoad_dead (h : RefAt w rp R G) (hd : R.dead = true) :
    Calls Tryz.prog 26 #[.pointer (some ⟨rp, 0, none⟩)] w fun e w' => e = .returned (.tuple #[.agg (supL Sup.none).toArray, .int .i64 40]) ∧ Below w.heap.size w w' := by
  obtain ⟨c3, _, _, _⟩ := (h.below ((Below.refl w.heap.size w).alloc (Nat.le_refl _) (.cells (supL Sup.none).toArray 39))).flags
  rw [hd] at c3
  have c3' := h.flags.1
  rw [hd] at c3'
  have T : Hid _ := there_new w (supL Sup.none).toArray 39 10 (by decide)
  have hrp := h.lt
  clear h hd
  go_enter Tryz.func26, Tryz.ntmps26
  go_wp2_with (first
    | (refine wpList_store_mid rfl 39 _ _ rfl w.heap.size 0 (supL Sup.none).toArray rfl rfl T.out info_rsup (supL_one _) ?_))
  refine bodyPost_ret (results_cell_slot rfl _ _ w.heap.size 0 (supL Sup.none) _ rfl (World.rangeAt_setCells_same _ _ _ _ T.out) Tryz.underlying39 rfl info_rsup) rfl ⟨rfl, ?_⟩
  exact ((Below.refl _ w).alloc (Nat.le_refl _) _).trans (below_setCells (Nat.le_refl _) _)
set_option maxRecDepth 100000 in
set_option maxHeartbeats 4000000 in
theorem rLoad_live (h : RefAt w rp R G) (hg : R.goes = false) (hd : R.dead = false) :
    Calls Tryz.prog 26 #[.pointer (some ⟨rp, 0, none⟩)] w fun e w' => e = .returned (.tuple #[.agg (supL R.loadS).toArray, .int .i64 (R.loadE : Nat)]) ∧ Below w.heap.size w w' := by
  have hb0 : Below w.heap.size w (w.alloc (.cells (supL Sup.none).toArray 39)) := (Below.refl w.heap.size w).alloc (Nat.le_refl _) _
  have h0 := h.below hb0
  obtain ⟨c3, _, _, _⟩ := h0.flags
  rw [hd] at c3
  have c3' := h.flags.1
  rw [hd] at c3'
  have hrp := h.lt
  have hO := fun (W : World) (i : Int) (h : RefAt W rp R G) => rOne_any h hg i
  have hlS : R.loadS = if R.newest < 0 then Sup.none else R.slS R.newest := by unfold Dr.loadS; rw [hd]; rfl
  have hlE : R.loadE = if R.newest < 0 then 90 else 0 := by unfold Dr.loadE; rw [hd]; rfl
  obtain ⟨s0, es0⟩ : ∃ s, s = R.slS 0 := ⟨_, rfl⟩
  obtain ⟨s1, es1⟩ : ∃ s, s = R.slS 1 := ⟨_, rfl⟩
  obtain ⟨b0, eb0⟩ : ∃ b, b = R.slB 0 := ⟨_, rfl⟩
  obtain ⟨b1, eb1⟩ : ∃ b, b = R.slB 1 := ⟨_, rfl⟩
  have en : R.newest = Dr.newer b0 b1 s0.ev s1.ev := by rw [eb0, eb1, es0, es1]; rfl
  rw [en] at hlS hlE
  obtain ⟨l0, e0, L0⟩ := rup_letter s0
  obtain ⟨l1, e1, L1⟩ := rup_letter s1
  have hO0 := fun W h => hO W 0 h
  have hO1 := fun W h => hO W 1 h
  rw [← es0, ← eb0, e0] at hO0
  rw [← es1, ← eb1, e1] at hO1
  have HE : Hid (R.loadE = (if Dr.newer b0 b1 s0.ev s1.ev < 0 then 90 else 0) ∧ R.loadS = (if Dr.newer b0 b1 s0.ev s1.ev < 0 then Sup.none else R.slS (Dr.newer b0 b1 s0.ev s1.ev)) ∧ supL s0 = l0 ∧ supL s1 = l1 ∧ R.slS 0 = s0 ∧ R.slS 1 = s1) := ⟨hlE, hlS, e0, e1, es0.symm, es1.symm⟩
  have HL0 : Hid _ := L0
  have HL1 : Hid _ := L1
  have H0 : Hid _ := h0
  have HO0 : Hid _ := hO0
  have HO1 : Hid _ := hO1
  have T : Hid _ := there_new w (supL Sup.none).toArray 39 10 (by decide)
  have HS : Hid _ := World.size_alloc w (.cells (supL Sup.none).toArray 39)
  obtain ⟨w0, hw0⟩ : ∃ w0, w0 = w.alloc (.cells (supL Sup.none).toArray 39) := ⟨_, rfl⟩
  have H00 : Hid (RefAt w0 rp R G) := by rw [hw0]; exact H0.out
  have T0 : Hid (w0.there w.heap.size 0 10) := by rw [hw0]; exact T.out
  have HS0 : Hid (w0.heap.size = w.heap.size + 1) := by rw [hw0]; exact HS.out
  have HB0 : Hid (Below w.heap.size w w0) := by rw [hw0]; exact hb0
  clear h h0 hg hd hO hlS hlE es0 es1 eb0 eb1 en e0 e1 L0 L1 hO0 hO1 hb0 T HS H0
  go_enter Tryz.func26, Tryz.ntmps26
  go_wp2_with fail
  change Calls _ _ _ (w.alloc (.cells (supL Sup.none).toArray 39)) _
  rw [← hw0]
  refine (HO0.out w0 H00.out).mono ?_
  rintro e w1 ⟨rfl, hb1⟩
  have T1 : Hid (w1.there w.heap.size 0 10) := there_below T0.out (by rw [HS0.out]; exact Nat.lt_succ_self _) hb1
  have H1 : Hid (RefAt w1 rp R G) := H00.out.below hb1
  have B1 : Hid (Below w.heap.size w w1) := below2 HB0.out hb1
  have S1 : Hid (w.heap.size < w1.heap.size) := Nat.lt_of_lt_of_le (by rw [HS0.out]; exact Nat.lt_succ_self _) hb1.size
  clear hb1 hw0 c3 c3' hrp
  have TN1 : Hid (∀ C : Array Value, C.size = 10 → (w1.alloc (.cells C 39)).there w1.heap.size 0 l0.toArray.size) := fun C hC => by rw [HL0.out.size]; exact there_new w1 C _ 10 (by omega)
  go_upto_region 4 with (first
    | (refine wpList_store_mid rfl 39 _ _ rfl w1.heap.size 0 l0.toArray rfl rfl (TN1.out _ rfl) HL0.out.infoA HL0.out.one ?_; change wpList _ _ _ _ _ (World.setCells _ _ _ l0)))
  obtain ⟨w2, hw2⟩ : ∃ w2, w2 = (w1.alloc (.cells (supL Sup.none).toArray 39)).setCells w1.heap.size 0 l0 := ⟨_, rfl⟩
  change Code.wp _ _ _ _ ((w1.alloc (.cells (supL Sup.none).toArray 39)).setCells w1.heap.size 0 l0)
  rw [← hw2]
  have hb2 : Below w1.heap.size w1 w2 := by rw [hw2]; exact ((Below.refl _ w1).alloc (Nat.le_refl _) _).trans (below_setCells (Nat.le_refl _) _)
  have R2 : Hid (w2.rangeAt w1.heap.size 0 l0) := by rw [hw2]; exact World.rangeAt_setCells_same _ _ _ _ (TN1.out _ rfl)
  have S2 : Hid (w2.heap.size = w1.heap.size + 1) := by show w2.heap.size = _; rw [hw2, size_setCells, World.size_alloc]
  have T2 : Hid (w2.there w.heap.size 0 10) := there_below T1.out S1.out hb2
  have H2 : Hid (RefAt w2 rp R G) := H1.out.below hb2
  have B2 : Hid (Below w.heap.size w w2) := below2 B1.out hb2
  clear hb2 hw2
  go_wp2_with fail
  refine (HO1.out w2 H2.out).mono ?_
  rintro e w3 ⟨rfl, hb3⟩
  have R3 : Hid (w3.rangeAt w1.heap.size 0 l0) := range_below R2.out (by rw [S2.out]; exact Nat.lt_succ_self _) hb3
  have T3 : Hid (w3.there w.heap.size 0 10) := there_below T2.out (by rw [S2.out]; have := S1.out; omega) hb3
  have B3 : Hid (Below w.heap.size w w3) := below2 B2.out hb3
  have S3 : Hid (w1.heap.size < w3.heap.size) := Nat.lt_of_lt_of_le (by rw [S2.out]; exact Nat.lt_succ_self _) hb3.size
  clear hb3
  have TN3 : Hid (∀ C : Array Value, C.size = 10 → (w3.alloc (.cells C 39)).there w3.heap.size 0 l1.toArray.size) := fun C hC => by rw [HL1.out.size]; exact there_new w3 C _ 10 (by omega)
  go_upto_region 5 with (first
    | (refine wpList_store_mid rfl 39 _ _ rfl w3.heap.size 0 l1.toArray rfl rfl (TN3.out _ rfl) HL1.out.infoA HL1.out.one ?_; change wpList _ _ _ _ _ (World.setCells _ _ _ l1)))
  obtain ⟨w4, hw4⟩ : ∃ w4, w4 = (w3.alloc (.cells (supL Sup.none).toArray 39)).setCells w3.heap.size 0 l1 := ⟨_, rfl⟩
  change Code.wp _ _ _ _ ((w3.alloc (.cells (supL Sup.none).toArray 39)).setCells w3.heap.size 0 l1)
  rw [← hw4]
  have R4b : Hid (w4.rangeAt w3.heap.size 0 l1) := by rw [hw4]; exact World.rangeAt_setCells_same _ _ _ _ (TN3.out _ rfl)
  have R4a : Hid (w4.rangeAt w1.heap.size 0 l0) := by rw [hw4]; exact World.rangeAt_setCells_apart (World.rangeAt_alloc R3.out _) _ _ _ (.inl (by have := S3.out; omega))
  have T4 : Hid (w4.there w.heap.size 0 10) := by rw [hw4]; exact World.there_setCells (World.there_alloc T3.out _) _ _ _
  have B4 : Hid (Below w.heap.size w w4) := by rw [hw4]; exact below2 B3.out (((Below.refl _ w3).alloc (Nat.le_refl _) _).trans (below_setCells (Nat.le_refl _) _))
  have hev0 := range_cell R4a.out HL0.out.ev
  have hev1 := range_cell R4b.out HL1.out.ev
  rw [Nat.zero_add] at hev0 hev1
  clear hw4
  cases b0
  case false =>
    cases b1
    case false =>
      have E : Hid (R.loadE = 90 ∧ R.loadS = Sup.none) := ⟨HE.out.1, HE.out.2.1⟩
      clear HE
      go_wp2_with (first
        | (refine wpList_store_mid rfl 39 _ _ rfl w.heap.size 0 (supL Sup.none).toArray rfl rfl T4.out info_rsup (supL_one _) ?_))
      refine bodyPost_ret (results_cell_slot rfl _ _ w.heap.size 0 (supL Sup.none) _ rfl (World.rangeAt_setCells_same _ _ _ _ T4.out) Tryz.underlying39 rfl info_rsup) rfl ⟨by rw [E.out.1, E.out.2]; rfl, ?_⟩
      exact B4.out.trans (below_setCells (Nat.le_refl _) _)
    case true =>
      have E : Hid (R.loadE = 0 ∧ supL R.loadS = l1) := ⟨HE.out.1, by rw [HE.out.2.1]; show supL (R.slS 1) = l1; rw [HE.out.2.2.2.2.2]; exact HE.out.2.2.2.1⟩
      clear HE
      have TT : Hid (w4.there w.heap.size 0 l1.toArray.size) := by rw [HL1.out.size]; exact T4.out
      go_wp2_with (first
        | (refine wpList_load_mid rfl 39 _ rfl w3.heap.size 0 rfl l1 _ R4b.out Tryz.underlying39 rfl HL1.out.info ?_)
        | (refine wpList_store_mid rfl 39 _ _ rfl w.heap.size 0 l1.toArray rfl rfl TT.out HL1.out.infoA HL1.out.one ?_))
      refine bodyPost_ret (results_cell_slot rfl _ _ w.heap.size 0 l1 _ rfl (World.rangeAt_setCells_same _ _ _ _ TT.out) Tryz.underlying39 rfl HL1.out.info) rfl ⟨by rw [E.out.1, E.out.2]; rfl, ?_⟩
      exact B4.out.trans (below_setCells (Nat.le_refl _) _)
  case true =>
    cases b1
    case false =>
      have E : Hid (R.loadE = 0 ∧ supL R.loadS = l0) := ⟨HE.out.1, by rw [HE.out.2.1]; show supL (R.slS 0) = l0; rw [HE.out.2.2.2.2.1]; exact HE.out.2.2.1⟩
      clear HE
      have TT : Hid (w4.there w.heap.size 0 l0.toArray.size) := by rw [HL0.out.size]; exact T4.out
      go_wp2_with (first
        | (refine wpList_load_mid rfl 39 _ rfl w1.heap.size 0 rfl l0 _ R4a.out Tryz.underlying39 rfl HL0.out.info ?_)
        | (refine wpList_store_mid rfl 39 _ _ rfl w.heap.size 0 l0.toArray rfl rfl TT.out HL0.out.infoA HL0.out.one ?_))
      refine bodyPost_ret (results_cell_slot rfl _ _ w.heap.size 0 l0 _ rfl (World.rangeAt_setCells_same _ _ _ _ TT.out) Tryz.underlying39 rfl HL0.out.info) rfl ⟨by rw [E.out.1, E.out.2]; rfl, ?_⟩
      exact B4.out.trans (below_setCells (Nat.le_refl _) _)
    case true =>
      cases hdd : decide (s0.ev < s1.ev)
      case false =>
        have hn : Dr.newer true true s0.ev s1.ev = 0 := by unfold Dr.newer; rw [hdd]; rfl
        have E : Hid (R.loadE = 0 ∧ supL R.loadS = l0) := by
          have q := HE.out
          rw [hn] at q
          exact ⟨q.1, by rw [q.2.1]; show supL (R.slS 0) = l0; rw [q.2.2.2.2.1]; exact q.2.2.1⟩
        have hi : decide ((s0.ev : Int) < (s1.ev : Int)) = false := by rw [decide_eq_false_iff_not] at hdd ⊢; omega
        have hj : ¬ (s0.ev : Int) < (s1.ev : Int) := by rw [decide_eq_false_iff_not] at hdd; omega
        clear HE hn hdd
        have TT : Hid (w4.there w.heap.size 0 l0.toArray.size) := by rw [HL0.out.size]; exact T4.out
        go_wp2_with (first
          | (refine wpList_load_mid rfl 39 _ rfl w1.heap.size 0 rfl l0 _ R4a.out Tryz.underlying39 rfl HL0.out.info ?_)
          | (refine wpList_store_mid rfl 39 _ _ rfl w.heap.size 0 l0.toArray rfl rfl TT.out HL0.out.infoA HL0.out.one ?_))
        refine bodyPost_ret (results_cell_slot rfl _ _ w.heap.size 0 l0 _ rfl (World.rangeAt_setCells_same _ _ _ _ TT.out) Tryz.underlying39 rfl HL0.out.info) rfl ⟨by rw [E.out.1, E.out.2]; rfl, ?_⟩
        exact B4.out.trans (below_setCells (Nat.le_refl _) _)
      case true =>
        have hn : Dr.newer true true s0.ev s1.ev = 1 := by unfold Dr.newer; rw [hdd]; rfl
        have E : Hid (R.loadE = 0 ∧ supL R.loadS = l1) := by
          have q := HE.out
          rw [hn] at q
          exact ⟨q.1, by rw [q.2.1]; show supL (R.slS 1) = l1; rw [q.2.2.2.2.2]; exact q.2.2.2.1⟩
        have hi : decide ((s0.ev : Int) < (s1.ev : Int)) = true := by rw [decide_eq_true_iff] at hdd ⊢; omega
        have hj : (s0.ev : Int) < (s1.ev : Int) := by rw [decide_eq_true_iff] at hdd; omega
        clear HE hn hdd
        have TT : Hid (w4.there w.heap.size 0 l1.toArray.size) := by rw [HL1.out.size]; exact T4.out
        go_wp2_with (first
          | (refine wpList_load_mid rfl 39 _ rfl w3.heap.size 0 rfl l1 _ R4b.out Tryz.underlying39 rfl HL1.out.info ?_)
          | (refine wpList_store_mid rfl 39 _ _ rfl w.heap.size 0 l1.toArray rfl rfl TT.out HL1.out.infoA HL1.out.one ?_))
        refine bodyPost_ret (results_cell_slot rfl _ _ w.heap.size 0 l1 _ rfl (World.rangeAt_setCells_same _ _ _ _ TT.out) Tryz.underlying39 rfl HL1.out.info) rfl ⟨by rw [E.out.1, E.out.2]; rfl, ?_⟩
        exact B4.out.trans (below_setCells (Nat.le_refl _) _)
theorem rLoad_any (h : RefAt w rp R G) (hg : R.goes = false) :
    Calls Tryz.prog 26 #[.pointer (some ⟨rp, 0, none⟩)] w fun e w' => e = .returned (.tuple #[.agg (supL R.loadS).toArray, .int .i64 (R.loadE : Nat)]) ∧ Below w.heap.size w w' := by
  cases hd : R.dead
  case false => exact rLoad_live h hg hd
  case true =>
    have e1 : R.loadE = 40 := by unfold Dr.loadE; rw [if_pos hd]
    have e2 : R.loadS = Sup.none := by unfold Dr.loadS; rw [if_pos hd]
    rw [e1, e2]
    exact rLoad_dead h hd
end
end Go.Proofs.YtgkhnfchohcjeaaGreat

