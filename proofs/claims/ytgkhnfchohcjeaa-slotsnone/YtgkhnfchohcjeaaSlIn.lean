/- The walk of slots' in: the superblock in a slot. -/
import Derived.Test.YtgkhnfchohcjeaaSlSays
namespace Go.Proofs.Ytgkhnfchohcjeaa
open Go.RowKit

set_option maxRecDepth 100000 in
set_option maxHeartbeats 2000000 in
theorem in_none {w : World} {p : Nat} {D : Dr} {F : Nat → Prop} (h : DriveAt w p D F) (i : Int) (hr : D.readE i ≠ 0) :
    Calls Try.prog 21 #[.pointer (some ⟨p, 0, none⟩), .int .i64 i] w fun e w' => e = .returned (.tuple #[.agg (supL Sup.none).toArray, .bool false]) ∧ Below w.heap.size w w' := by
  have hR := read_any (h.below ((Below.refl w.heap.size w).alloc (Nat.le_refl _) (.cells (supL Sup.none).toArray 30))) i
  obtain ⟨r, er⟩ : ∃ r, r = D.readE i := ⟨_, rfl⟩
  obtain ⟨t, et⟩ : ∃ t, t = txt (D.readS i) := ⟨_, rfl⟩
  rw [← er] at hr hR
  rw [← et] at hR
  have hne : ((r : Int) != 0) = true := by simp only [bne_iff_ne, ne_eq]; omega
  have HT : Hid _ := there_new w (supL Sup.none).toArray 30 10 (by decide)
  have HS : Hid _ := World.size_alloc w (.cells (supL Sup.none).toArray 30)
  clear er et hr h
  go_enter Try.func21, Try.ntmps21
  go_wp2_with fail
  refine hR.mono ?_
  rintro e w1 ⟨rfl, hb1⟩
  have T : Hid _ := there_below HT.out (by rw [HS.out]; exact Nat.lt_succ_self _) hb1
  have HB : Hid (Below w.heap.size w w1) := ((Below.refl w.heap.size w).alloc (Nat.le_refl _) _).trans (hb1.mono (by rw [HS.out]; omega))
  clear hR hb1 HT HS
  go_wp2_with (first
    | (refine wpList_store_mid rfl 30 _ _ rfl w.heap.size 0 (supL Sup.none).toArray rfl rfl T.out info_sup (supL_one _) ?_))
  refine bodyPost_ret (results_cell_slot rfl _ _ w.heap.size 0 (supL Sup.none) _ rfl (World.rangeAt_setCells_same _ _ _ _ T.out) Try.underlying30 rfl info_sup) rfl ⟨rfl, ?_⟩
  exact HB.out.trans (below_setCells (Nat.le_refl _) _)
set_option maxRecDepth 100000 in
set_option maxHeartbeats 2000000 in
theorem in_some (X : SupSays) {w : World} {p : Nat} {D : Dr} {F : Nat → Prop} (h : DriveAt w p D F) (i : Int) (hr : D.readE i = 0) :
    Calls Try.prog 21 #[.pointer (some ⟨p, 0, none⟩), .int .i64 i] w fun e w' => e = .returned (.tuple #[.agg (supL (Sup.decS (txt (D.readS i)))).toArray, .bool (Sup.decE (txt (D.readS i)) == 0)]) ∧ Below w.heap.size w w' := by
  have hR := read_any (h.below ((Below.refl w.heap.size w).alloc (Nat.le_refl _) (.cells (supL Sup.none).toArray 30))) i
  rw [hr] at hR
  obtain ⟨t, et⟩ : ∃ t, t = txt (D.readS i) := ⟨_, rfl⟩
  rw [← et] at hR ⊢
  have hD := fun W => X.dec t W
  obtain ⟨l, el, L⟩ := sup_letter (Sup.decS t)
  obtain ⟨c, ec⟩ : ∃ c, c = Sup.decE t := ⟨_, rfl⟩
  rw [el, ← ec] at hD ⊢
  have HL : Hid _ := L
  have HT : Hid _ := there_new w (supL Sup.none).toArray 30 10 (by decide)
  have HS : Hid _ := World.size_alloc w (.cells (supL Sup.none).toArray 30)
  clear ec et el hr h L X
  go_enter Try.func21, Try.ntmps21
  go_wp2_with fail
  refine hR.mono ?_
  rintro e w1 ⟨rfl, hb1⟩
  have T : Hid _ := there_below HT.out (by rw [HS.out]; exact Nat.lt_succ_self _) hb1
  have HB : Hid (Below w.heap.size w w1) := ((Below.refl w.heap.size w).alloc (Nat.le_refl _) _).trans (hb1.mono (by rw [HS.out]; omega))
  have HL1 : Hid (w.heap.size < w1.heap.size) := Nat.lt_of_lt_of_le (by rw [HS.out]; exact Nat.lt_succ_self _) hb1.size
  clear hR hb1 HT HS
  go_wp2_with fail
  refine (hD _).mono ?_
  rintro e w2 ⟨rfl, hb2⟩
  have T2 : Hid _ := there_below T.out HL1.out hb2
  have HB2 : Hid (Below w.heap.size w w2) := HB.out.trans (hb2.mono (Nat.le_of_lt HL1.out))
  have HL2 : Hid (w.heap.size < w2.heap.size) := Nat.lt_of_lt_of_le HL1.out hb2.size
  clear hD hb2 T HB HL1
  have TN : Hid (∀ C : Array Value, C.size = 10 → (w2.alloc (.cells C 30)).there w2.heap.size 0 l.toArray.size) := fun C hC => by rw [HL.out.size]; exact there_new w2 C _ 10 (by omega)
  have TM : Hid (∀ o : Obj, ((w2.alloc o).setCells w2.heap.size 0 l.toArray.toList).there w.heap.size 0 l.toArray.size) := fun o => by rw [HL.out.size]; exact World.there_setCells (World.there_alloc T2.out _) _ _ _
  go_wp2_with (first
    | (refine wpList_store_mid rfl 30 _ _ rfl w2.heap.size 0 l.toArray rfl rfl (TN.out _ rfl) HL.out.infoA HL.out.one ?_)
    | (refine wpList_load_mid rfl 30 _ rfl w2.heap.size 0 rfl l _ (World.rangeAt_setCells_same _ _ _ _ (TN.out _ rfl)) Try.underlying30 rfl HL.out.info ?_)
    | (refine wpList_store_mid rfl 30 _ _ rfl w.heap.size 0 l.toArray rfl rfl (TM.out _) HL.out.infoA HL.out.one ?_))
  refine bodyPost_ret (results_cell_slot rfl _ _ w.heap.size 0 l _ rfl (World.rangeAt_setCells_same _ _ _ _ (TM.out _)) Try.underlying30 rfl HL.out.info) rfl ⟨rfl, ?_⟩
  refine (HB2.out.trans ?_).trans (below_setCells (Nat.le_refl _) _)
  exact ((Below.refl _ w2).alloc (Nat.le_of_lt HL2.out) _).trans (below_setCells (Nat.le_of_lt HL2.out) _)
theorem in_any (X : SupSays) {w : World} {p : Nat} {D : Dr} {F : Nat → Prop} (h : DriveAt w p D F) (i : Int) :
    Calls Try.prog 21 #[.pointer (some ⟨p, 0, none⟩), .int .i64 i] w fun e w' => e = .returned (.tuple #[.agg (supL (D.slS i)).toArray, .bool (D.slB i)]) ∧ Below w.heap.size w w' := by
  unfold Dr.slS Dr.slB
  by_cases hr : D.readE i = 0
  · rw [if_pos hr, hr]
    exact in_some X h i hr
  · rw [if_neg hr, show (D.readE i == 0) = false from by simpa using hr]
    exact in_none h i hr
end Go.Proofs.Ytgkhnfchohcjeaa
