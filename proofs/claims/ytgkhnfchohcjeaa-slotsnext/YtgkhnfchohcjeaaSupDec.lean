/- The walks of super's Decode and Whole. -/
import Derived.Test.YtgkhnfchohcjeaaSupEnc
import Derived.Test.YtgkhnfchohcjeaaSupTaken
import Derived.Test.YtgkhnfchohcjeaaCrcOpen
namespace Go.Proofs.Ytgkhnfchohcjeaa
open Go.RowKit

namespace Sup
theorem head_size {b : ByteArray} (h : b.size = 64) : (Crc.headB b).size = 60 := by unfold Crc.headB; rw [h]; simp; omega
theorem head_take {b : ByteArray} (h : b.size = 64) : ((Crc.headB b).extract 0 31).data.toList = b.data.toList.take 31 := by
  unfold Crc.headB; rw [h]; simp
theorem told_in {b : ByteArray} (h : b.size = 64) : (told b).In := by
  have f := told_fit b h
  exact ⟨f.uu, f.ev, by have := f.c.2; omega, by have := f.nw.2; omega⟩
theorem decE_short {b : ByteArray} (h : b.size ≠ 64) : decE b = 31 := if_pos h
theorem decE_sum {b : ByteArray} (h : b.size = 64) (ho : Crc.opens b.data.toList = false) : decE b = 80 := by unfold decE; rw [if_neg (fun x => x h), ho]; rfl
theorem decE_magic {b : ByteArray} (h : b.size = 64) (ho : Crc.opens b.data.toList = true) (hf : first b ≠ magic) : decE b = 81 := by unfold decE; rw [if_neg (fun x => x h), ho, cond_true, if_pos hf]
theorem decE_arg {b : ByteArray} (h : b.size = 64) (ho : Crc.opens b.data.toList = true) (hf : first b = magic) (hm : mayB (told b) = false) : decE b = 1 := by unfold decE; rw [if_neg (fun x => x h), ho, cond_true, if_neg (fun x => x hf), hm]; rfl
theorem decE_other {b : ByteArray} (h : b.size = 64) (ho : Crc.opens b.data.toList = true) (hf : first b = magic) (hs : secT (told b) ≠ b) : decE b = 1 := by unfold decE; rw [if_neg (fun x => x h), ho, cond_true, if_neg (fun x => x hf), decide_eq_false hs, Bool.and_false]; rfl
theorem decE_good {b : ByteArray} (h : b.size = 64) (ho : Crc.opens b.data.toList = true) (hf : first b = magic) (hm : mayB (told b) = true) (hs : secT (told b) = b) : decE b = 0 := by unfold decE; rw [if_neg (fun x => x h), ho, cond_true, if_neg (fun x => x hf), hm, decide_eq_true hs]; rfl
theorem decS_bad {b : ByteArray} {n : Int} (h : decE b = n) (hn : n ≠ 0) : decS b = none := by unfold decS; rw [if_neg (by rw [h]; exact hn)]
theorem decS_good {b : ByteArray} (h : decE b = 0) : decS b = told b := by unfold decS; rw [if_pos h]
end Sup

/-- two texts compared by their bytes -/
theorem tx_eq (a b : ByteArray) : (a.toList == b.toList) = decide (a = b) := by
  rw [Bool.eq_iff_iff, beq_iff_eq, decide_eq_true_iff, ByteArray.toList_eq, ByteArray.toList_eq]
  exact ⟨fun e => by cases a; cases b; simp only [ByteArray.mk.injEq]; exact Array.toList_inj.1 e, fun e => by rw [e]⟩
/-- what Decode answers where there is no superblock -/
def noSup (n : Int) : Ending := .returned (.tuple #[.agg #[.int .u64 0, .int .u64 0, .int .i64 0, .int .i64 0, .int .i64 0, .int .i64 0, .bool false, .int .i64 0, .int .i64 0, .int .i64 0], .int .i64 n])
theorem noSup_eq {b : ByteArray} {n : Int} (h : Sup.decE b = n) (hn : n ≠ 0) : Ending.returned (.tuple #[supV (Sup.decS b), .int .i64 (Sup.decE b)]) = noSup n := by rw [Sup.decS_bad h hn, h]; rfl

/-- a new superblock's cells, as they are behind a call -/
theorem sup_cells {w w1 : World} (h : Below (w.alloc (.cells #[.int .u64 0, .int .u64 0, .int .i64 0, .int .i64 0, .int .i64 0, .int .i64 0, .bool false, .int .i64 0, .int .i64 0, .int .i64 0] 30)).heap.size (w.alloc (.cells #[.int .u64 0, .int .u64 0, .int .i64 0, .int .i64 0, .int .i64 0, .int .i64 0, .bool false, .int .i64 0, .int .i64 0, .int .i64 0] 30)) w1) :
    w1.heap[w.heap.size]? = some (.cells #[.int .u64 0, .int .u64 0, .int .i64 0, .int .i64 0, .int .i64 0, .int .i64 0, .bool false, .int .i64 0, .int .i64 0, .int .i64 0] 30 (0, 0)) ∧ Below w.heap.size w w1 :=
  ⟨(h.block w.heap.size (by rw [World.size_alloc]; exact Nat.lt_succ_self _)).trans (heap_new w _), ((Below.refl w.heap.size w).alloc (Nat.le_refl _) _).trans (h.mono (by rw [World.size_alloc]; omega))⟩

/-- ten cells of a block set one behind the other -/
theorem set_sup {w : World} {p : Nat} {c0 c1 c2 c3 c4 c5 c6 c7 c8 c9 : Value} {t : TypeId} (h : w.heap[p]? = some (.cells #[c0, c1, c2, c3, c4, c5, c6, c7, c8, c9] t (0, 0))) (v0 v1 v2 v3 v4 v5 v6 v7 v8 v9 : Value) :
    ((((((((((w.setCell ⟨p, 0, none⟩ v0).setCell ⟨p, 1, none⟩ v1).setCell ⟨p, 2, none⟩ v2).setCell ⟨p, 3, none⟩ v3).setCell ⟨p, 4, none⟩ v4).setCell ⟨p, 5, none⟩ v5).setCell ⟨p, 6, none⟩ v6).setCell ⟨p, 7, none⟩ v7).setCell ⟨p, 8, none⟩ v8).setCell ⟨p, 9, none⟩ v9).heap[p]? = some (.cells #[v0, v1, v2, v3, v4, v5, v6, v7, v8, v9] t (0, 0)) ∧ Below p w ((((((((((w.setCell ⟨p, 0, none⟩ v0).setCell ⟨p, 1, none⟩ v1).setCell ⟨p, 2, none⟩ v2).setCell ⟨p, 3, none⟩ v3).setCell ⟨p, 4, none⟩ v4).setCell ⟨p, 5, none⟩ v5).setCell ⟨p, 6, none⟩ v6).setCell ⟨p, 7, none⟩ v7).setCell ⟨p, 8, none⟩ v8).setCell ⟨p, 9, none⟩ v9) := by
  have h0 := Go.Joins.block_setCell h (i := 0) v0
  simp only [List.setIfInBounds_toArray, List.set_cons_zero] at h0
  have h1 := Go.Joins.block_setCell h0 (i := 1) v1
  simp only [List.setIfInBounds_toArray, List.set_cons_zero, List.set_cons_succ] at h1
  have h2 := Go.Joins.block_setCell h1 (i := 2) v2
  simp only [List.setIfInBounds_toArray, List.set_cons_zero, List.set_cons_succ] at h2
  have h3 := Go.Joins.block_setCell h2 (i := 3) v3
  simp only [List.setIfInBounds_toArray, List.set_cons_zero, List.set_cons_succ] at h3
  have h4 := Go.Joins.block_setCell h3 (i := 4) v4
  simp only [List.setIfInBounds_toArray, List.set_cons_zero, List.set_cons_succ] at h4
  have h5 := Go.Joins.block_setCell h4 (i := 5) v5
  simp only [List.setIfInBounds_toArray, List.set_cons_zero, List.set_cons_succ] at h5
  have h6 := Go.Joins.block_setCell h5 (i := 6) v6
  simp only [List.setIfInBounds_toArray, List.set_cons_zero, List.set_cons_succ] at h6
  have h7 := Go.Joins.block_setCell h6 (i := 7) v7
  simp only [List.setIfInBounds_toArray, List.set_cons_zero, List.set_cons_succ] at h7
  have h8 := Go.Joins.block_setCell h7 (i := 8) v8
  simp only [List.setIfInBounds_toArray, List.set_cons_zero, List.set_cons_succ] at h8
  have h9 := Go.Joins.block_setCell h8 (i := 9) v9
  simp only [List.setIfInBounds_toArray, List.set_cons_zero, List.set_cons_succ] at h9
  have b0 := (Below.refl p w).setCell (p := ⟨p, 0, none⟩) (Nat.le_refl _) v0
  have b1 := b0.setCell (p := ⟨p, 1, none⟩) (Nat.le_refl _) v1
  have b2 := b1.setCell (p := ⟨p, 2, none⟩) (Nat.le_refl _) v2
  have b3 := b2.setCell (p := ⟨p, 3, none⟩) (Nat.le_refl _) v3
  have b4 := b3.setCell (p := ⟨p, 4, none⟩) (Nat.le_refl _) v4
  have b5 := b4.setCell (p := ⟨p, 5, none⟩) (Nat.le_refl _) v5
  have b6 := b5.setCell (p := ⟨p, 6, none⟩) (Nat.le_refl _) v6
  have b7 := b6.setCell (p := ⟨p, 7, none⟩) (Nat.le_refl _) v7
  have b8 := b7.setCell (p := ⟨p, 8, none⟩) (Nat.le_refl _) v8
  have b9 := b8.setCell (p := ⟨p, 9, none⟩) (Nat.le_refl _) v9
  exact ⟨h9, b9⟩

set_option maxRecDepth 100000 in
set_option maxHeartbeats 4000000 in
theorem Decode8_short (b : ByteArray) (h : b.size ≠ 64) (w : World) :
    Calls Try.prog 34 #[.string b] w fun e w' => e = noSup 31 ∧ Below w.heap.size w w' := by
  have h1 : ((b.size : Int) != 64) = true := by rw [bne_iff_ne]; omega
  clear h
  unfold noSup
  go_enter Try.func34, Try.ntmps34
  go_wp2
  refine bodyPost_ret (v := .tuple #[.agg #[.int .u64 0, .int .u64 0, .int .i64 0, .int .i64 0, .int .i64 0, .int .i64 0, .bool false, .int .i64 0, .int .i64 0, .int .i64 0], .int .i64 31]) (by simp [results, asAddr]; go_simp; try rfl) rfl ⟨rfl, (Below.refl _ _).alloc (Nat.le_refl _) _⟩
set_option maxRecDepth 100000 in
set_option maxHeartbeats 4000000 in
theorem Decode8_sum (b : ByteArray) (h : b.size = 64) (ho : Crc.opens b.data.toList = false) (w : World) :
    Calls Try.prog 34 #[.string b] w fun e w' => e = noSup 80 ∧ Below w.heap.size w w' := by
  have HO := fun W => Open_no b (by omega) ho W
  have h1 : ((b.size : Int) != 64) = false := by rw [bne_eq_false_iff_eq]; omega
  clear h ho
  unfold noSup
  go_enter Try.func34, Try.ntmps34
  go_wp2_with fail
  refine (HO _).mono ?_
  rintro e w1 ⟨rfl, hb1⟩
  obtain ⟨hp, hb⟩ := sup_cells hb1
  have HB : Hid (Below w.heap.size w w1) := hb
  have HP : Hid _ := hp
  have c0 := Go.Joins.cell_of_block hp 0
  have c1 := Go.Joins.cell_of_block hp 1
  have c2 := Go.Joins.cell_of_block hp 2
  have c3 := Go.Joins.cell_of_block hp 3
  have c4 := Go.Joins.cell_of_block hp 4
  have c5 := Go.Joins.cell_of_block hp 5
  have c6 := Go.Joins.cell_of_block hp 6
  have c7 := Go.Joins.cell_of_block hp 7
  have c8 := Go.Joins.cell_of_block hp 8
  have c9 := Go.Joins.cell_of_block hp 9
  simp only [List.getElem?_toArray, List.getElem?_cons_zero, List.getElem?_cons_succ] at c0 c1 c2 c3 c4 c5 c6 c7 c8 c9
  have hf := Go.Joins.unfrozen_of_block hp
  clear hb1 hp hb
  go_wp2
  obtain ⟨r1, r2⟩ := set_sup HP.out (.int .u64 0) (.int .u64 0) (.int .i64 0) (.int .i64 0) (.int .i64 0) (.int .i64 0) (.bool false) (.int .i64 0) (.int .i64 0) (.int .i64 0)
  have R2 : Hid (Below w.heap.size w ((((((((((w1.setCell ⟨w.heap.size, 0, none⟩ (.int .u64 0)).setCell ⟨w.heap.size, 1, none⟩ (.int .u64 0)).setCell ⟨w.heap.size, 2, none⟩ (.int .i64 0)).setCell ⟨w.heap.size, 3, none⟩ (.int .i64 0)).setCell ⟨w.heap.size, 4, none⟩ (.int .i64 0)).setCell ⟨w.heap.size, 5, none⟩ (.int .i64 0)).setCell ⟨w.heap.size, 6, none⟩ (.bool false)).setCell ⟨w.heap.size, 7, none⟩ (.int .i64 0)).setCell ⟨w.heap.size, 8, none⟩ (.int .i64 0)).setCell ⟨w.heap.size, 9, none⟩ (.int .i64 0))) := HB.out.trans r2
  clear r2
  generalize ((((((((((w1.setCell ⟨w.heap.size, 0, none⟩ (.int .u64 0)).setCell ⟨w.heap.size, 1, none⟩ (.int .u64 0)).setCell ⟨w.heap.size, 2, none⟩ (.int .i64 0)).setCell ⟨w.heap.size, 3, none⟩ (.int .i64 0)).setCell ⟨w.heap.size, 4, none⟩ (.int .i64 0)).setCell ⟨w.heap.size, 5, none⟩ (.int .i64 0)).setCell ⟨w.heap.size, 6, none⟩ (.bool false)).setCell ⟨w.heap.size, 7, none⟩ (.int .i64 0)).setCell ⟨w.heap.size, 8, none⟩ (.int .i64 0)).setCell ⟨w.heap.size, 9, none⟩ (.int .i64 0)) = wz at *
  have d0 := Go.Joins.cell_of_block r1 0
  have d1 := Go.Joins.cell_of_block r1 1
  have d2 := Go.Joins.cell_of_block r1 2
  have d3 := Go.Joins.cell_of_block r1 3
  have d4 := Go.Joins.cell_of_block r1 4
  have d5 := Go.Joins.cell_of_block r1 5
  have d6 := Go.Joins.cell_of_block r1 6
  have d7 := Go.Joins.cell_of_block r1 7
  have d8 := Go.Joins.cell_of_block r1 8
  have d9 := Go.Joins.cell_of_block r1 9
  simp only [List.getElem?_toArray, List.getElem?_cons_zero, List.getElem?_cons_succ] at d0 d1 d2 d3 d4 d5 d6 d7 d8 d9
  clear r1
  refine bodyPost_ret (v := .tuple #[.agg #[.int .u64 0, .int .u64 0, .int .i64 0, .int .i64 0, .int .i64 0, .int .i64 0, .bool false, .int .i64 0, .int .i64 0, .int .i64 0], .int .i64 80]) (by simp [results, asAddr]; go_simp; try rfl) rfl ⟨rfl, R2.out⟩
set_option maxRecDepth 100000 in
set_option maxHeartbeats 4000000 in
theorem Decode8_magic (b : ByteArray) (h : b.size = 64) (ho : Crc.opens b.data.toList = true) (hf : Sup.first b ≠ Sup.magic) (w : World) :
    Calls Try.prog 34 #[.string b] w fun e w' => e = noSup 81 ∧ Below w.heap.size w w' := by
  have HO := fun W => Open_yes b (by omega) ho W
  have HT := fun W => taken_any (Crc.headB b) _ (Sup.head_size h) rfl W
  rw [Sup.head_take h] at HT
  have h1 : ((b.size : Int) != 64) = false := by rw [bne_eq_false_iff_eq]; omega
  rw [← Sup.told_ofL, show (Pk.dec (b.data.toList.take 31) Sup.wL).getD 0 0 = Sup.first b from rfl] at HT
  have h2 : (((Sup.first b : Nat) : Int) != 827610706) = true := by rw [bne_iff_ne]; intro e; exact hf (by have : ((Sup.magic : Nat) : Int) = 827610706 := rfl; omega)
  obtain ⟨f, hff⟩ : ∃ f, Sup.first b = f := ⟨_, rfl⟩
  obtain ⟨s, hs⟩ : ∃ s, Sup.told b = s := ⟨_, rfl⟩
  obtain ⟨t, ht⟩ : ∃ t, Crc.headB b = t := ⟨_, rfl⟩
  rw [hff, hs, ht] at HT
  rw [ht] at HO
  rw [hff] at h2
  clear h ho hf hff hs ht
  unfold blkV at HT
  unfold noSup
  go_enter Try.func34, Try.ntmps34
  go_wp2_with fail
  refine (HO _).mono ?_
  rintro e w1 ⟨rfl, hb1⟩
  obtain ⟨hp1, hb⟩ := sup_cells hb1
  have HB1 : Hid (Below w.heap.size w w1) := hb
  have HP1 : Hid _ := hp1
  have lt1 : w.heap.size < w1.heap.size := (Array.getElem?_eq_some_iff.1 hp1).1
  clear hb1 hp1 hb
  go_wp2_with fail
  refine (HT _).mono ?_
  rintro e w2 ⟨rfl, hb2⟩
  have hp2 := (hb2.block _ lt1).trans HP1.out
  have HP2 : Hid _ := hp2
  have HB2 : Hid (Below w.heap.size w w2) := HB1.out.trans (hb2.mono (Nat.le_of_lt lt1))
  have lt2 : w.heap.size < w2.heap.size := Nat.lt_of_lt_of_le lt1 hb2.size
  clear hb2 HB1 HP1
  have c0 := Go.Joins.cell_of_block hp2 0
  have c1 := Go.Joins.cell_of_block hp2 1
  have c2 := Go.Joins.cell_of_block hp2 2
  have c3 := Go.Joins.cell_of_block hp2 3
  have c4 := Go.Joins.cell_of_block hp2 4
  have c5 := Go.Joins.cell_of_block hp2 5
  have c6 := Go.Joins.cell_of_block hp2 6
  have c7 := Go.Joins.cell_of_block hp2 7
  have c8 := Go.Joins.cell_of_block hp2 8
  have c9 := Go.Joins.cell_of_block hp2 9
  simp only [List.getElem?_toArray, List.getElem?_cons_zero, List.getElem?_cons_succ] at c0 c1 c2 c3 c4 c5 c6 c7 c8 c9
  have hfr := Go.Joins.unfrozen_of_block hp2
  clear hp2
  go_wp2
  obtain ⟨r1, r2⟩ := set_sup HP2.out (.int .u64 0) (.int .u64 0) (.int .i64 0) (.int .i64 0) (.int .i64 0) (.int .i64 0) (.bool false) (.int .i64 0) (.int .i64 0) (.int .i64 0)
  have R2 : Hid (Below w.heap.size w ((((((((((w2.setCell ⟨w.heap.size, 0, none⟩ (.int .u64 0)).setCell ⟨w.heap.size, 1, none⟩ (.int .u64 0)).setCell ⟨w.heap.size, 2, none⟩ (.int .i64 0)).setCell ⟨w.heap.size, 3, none⟩ (.int .i64 0)).setCell ⟨w.heap.size, 4, none⟩ (.int .i64 0)).setCell ⟨w.heap.size, 5, none⟩ (.int .i64 0)).setCell ⟨w.heap.size, 6, none⟩ (.bool false)).setCell ⟨w.heap.size, 7, none⟩ (.int .i64 0)).setCell ⟨w.heap.size, 8, none⟩ (.int .i64 0)).setCell ⟨w.heap.size, 9, none⟩ (.int .i64 0))) := HB2.out.trans r2
  clear r2
  generalize ((((((((((w2.setCell ⟨w.heap.size, 0, none⟩ (.int .u64 0)).setCell ⟨w.heap.size, 1, none⟩ (.int .u64 0)).setCell ⟨w.heap.size, 2, none⟩ (.int .i64 0)).setCell ⟨w.heap.size, 3, none⟩ (.int .i64 0)).setCell ⟨w.heap.size, 4, none⟩ (.int .i64 0)).setCell ⟨w.heap.size, 5, none⟩ (.int .i64 0)).setCell ⟨w.heap.size, 6, none⟩ (.bool false)).setCell ⟨w.heap.size, 7, none⟩ (.int .i64 0)).setCell ⟨w.heap.size, 8, none⟩ (.int .i64 0)).setCell ⟨w.heap.size, 9, none⟩ (.int .i64 0)) = wz at *
  have ltz : w.heap.size < wz.heap.size := (Array.getElem?_eq_some_iff.1 r1).1
  have r1 := (Below.heap_alloc wz (Obj.cells #[.int .u64 (f : Int), .int .u64 (s.uu : Int), .int .u64 (s.ev : Int), .int .i64 s.role, .int .i64 s.c, .int .i64 s.k, .int .i64 s.r, .bool s.cl, .int .i64 s.b, .int .i64 s.nw, .int .i64 s.g] 67) _ ltz).trans r1
  have R2 : Hid (Below w.heap.size w (wz.alloc (Obj.cells #[.int .u64 (f : Int), .int .u64 (s.uu : Int), .int .u64 (s.ev : Int), .int .i64 s.role, .int .i64 s.c, .int .i64 s.k, .int .i64 s.r, .bool s.cl, .int .i64 s.b, .int .i64 s.nw, .int .i64 s.g] 67))) := R2.out.alloc (Nat.le_of_lt ltz) _
  clear ltz
  generalize wz.alloc (Obj.cells #[.int .u64 (f : Int), .int .u64 (s.uu : Int), .int .u64 (s.ev : Int), .int .i64 s.role, .int .i64 s.c, .int .i64 s.k, .int .i64 s.r, .bool s.cl, .int .i64 s.b, .int .i64 s.nw, .int .i64 s.g] 67) = wy at *
  have d0 := Go.Joins.cell_of_block r1 0
  have d1 := Go.Joins.cell_of_block r1 1
  have d2 := Go.Joins.cell_of_block r1 2
  have d3 := Go.Joins.cell_of_block r1 3
  have d4 := Go.Joins.cell_of_block r1 4
  have d5 := Go.Joins.cell_of_block r1 5
  have d6 := Go.Joins.cell_of_block r1 6
  have d7 := Go.Joins.cell_of_block r1 7
  have d8 := Go.Joins.cell_of_block r1 8
  have d9 := Go.Joins.cell_of_block r1 9
  simp only [List.getElem?_toArray, List.getElem?_cons_zero, List.getElem?_cons_succ] at d0 d1 d2 d3 d4 d5 d6 d7 d8 d9
  clear r1
  refine bodyPost_ret (v := .tuple #[.agg #[.int .u64 0, .int .u64 0, .int .i64 0, .int .i64 0, .int .i64 0, .int .i64 0, .bool false, .int .i64 0, .int .i64 0, .int .i64 0], .int .i64 81]) (by simp [results, asAddr]; go_simp; try rfl) rfl ⟨rfl, R2.out⟩
set_option maxRecDepth 100000 in
set_option maxHeartbeats 4000000 in
theorem Decode8_arg (b : ByteArray) (h : b.size = 64) (ho : Crc.opens b.data.toList = true) (hf : Sup.first b = Sup.magic) (hx : Sup.mayB (Sup.told b) = false) (w : World) :
    Calls Try.prog 34 #[.string b] w fun e w' => e = noSup 1 ∧ Below w.heap.size w w' := by
  have HO := fun W => Open_yes b (by omega) ho W
  have HT := fun W => taken_any (Crc.headB b) _ (Sup.head_size h) rfl W
  rw [Sup.head_take h] at HT
  have h1 : ((b.size : Int) != 64) = false := by rw [bne_eq_false_iff_eq]; omega
  rw [← Sup.told_ofL, show (Pk.dec (b.data.toList.take 31) Sup.wL).getD 0 0 = Sup.first b from rfl, hf] at HT
  have HE := fun W => Encode8_any (Sup.told b) (Sup.told_in h) W
  obtain ⟨f, hff⟩ : ∃ f, Sup.magic = f := ⟨_, rfl⟩
  have h2 : ((f : Int) != 827610706) = false := by rw [← hff]; rfl
  rw [show Sup.encE (Sup.told b) = 1 by simp [Sup.encE, hx], show Sup.encT (Sup.told b) = ⟨#[]⟩ by simp [Sup.encT, hx]] at HE
  obtain ⟨s, hs⟩ : ∃ s, Sup.told b = s := ⟨_, rfl⟩
  obtain ⟨t, ht⟩ : ∃ t, Crc.headB b = t := ⟨_, rfl⟩
  rw [hff, hs, ht] at HT
  rw [hs] at HE
  rw [ht] at HO
  clear h ho hf hff hs ht hx
  unfold blkV at HT
  unfold supV at HE
  unfold noSup
  go_enter Try.func34, Try.ntmps34
  go_wp2_with fail
  refine (HO _).mono ?_
  rintro e w1 ⟨rfl, hb1⟩
  obtain ⟨hp1, hb⟩ := sup_cells hb1
  have HB1 : Hid (Below w.heap.size w w1) := hb
  have HP1 : Hid _ := hp1
  have lt1 : w.heap.size < w1.heap.size := (Array.getElem?_eq_some_iff.1 hp1).1
  clear hb1 hp1 hb
  go_wp2_with fail
  refine (HT _).mono ?_
  rintro e w2 ⟨rfl, hb2⟩
  have hp2 := (hb2.block _ lt1).trans HP1.out
  have HP2 : Hid _ := hp2
  have HB2 : Hid (Below w.heap.size w w2) := HB1.out.trans (hb2.mono (Nat.le_of_lt lt1))
  have lt2 : w.heap.size < w2.heap.size := Nat.lt_of_lt_of_le lt1 hb2.size
  clear hb2 HB1 HP1
  have szA : (w2.alloc (Obj.cells #[.int .u64 (f : Int), .int .u64 (s.uu : Int), .int .u64 (s.ev : Int), .int .i64 s.role, .int .i64 s.c, .int .i64 s.k, .int .i64 s.r, .bool s.cl, .int .i64 s.b, .int .i64 s.nw, .int .i64 s.g] 67)).heap.size = w2.heap.size + 1 := World.size_alloc ..
  have HQA : Hid ((w2.alloc (Obj.cells #[.int .u64 (f : Int), .int .u64 (s.uu : Int), .int .u64 (s.ev : Int), .int .i64 s.role, .int .i64 s.c, .int .i64 s.k, .int .i64 s.r, .bool s.cl, .int .i64 s.b, .int .i64 s.nw, .int .i64 s.g] 67)).heap[w2.heap.size]? = some (Obj.cells #[.int .u64 (f : Int), .int .u64 (s.uu : Int), .int .u64 (s.ev : Int), .int .i64 s.role, .int .i64 s.c, .int .i64 s.k, .int .i64 s.r, .bool s.cl, .int .i64 s.b, .int .i64 s.nw, .int .i64 s.g] 67)) := heap_new w2 _
  have HPA : Hid _ := (Below.heap_alloc w2 (Obj.cells #[.int .u64 (f : Int), .int .u64 (s.uu : Int), .int .u64 (s.ev : Int), .int .i64 s.role, .int .i64 s.c, .int .i64 s.k, .int .i64 s.r, .bool s.cl, .int .i64 s.b, .int .i64 s.nw, .int .i64 s.g] 67) _ lt2).trans HP2.out
  have HBA : Hid (Below w.heap.size w (w2.alloc (Obj.cells #[.int .u64 (f : Int), .int .u64 (s.uu : Int), .int .u64 (s.ev : Int), .int .i64 s.role, .int .i64 s.c, .int .i64 s.k, .int .i64 s.r, .bool s.cl, .int .i64 s.b, .int .i64 s.nw, .int .i64 s.g] 67))) := HB2.out.alloc (Nat.le_of_lt lt2) _
  clear hp2
  go_wp2_with fail
  refine (HE _).mono ?_
  rintro e w3 ⟨rfl, hb3⟩
  have hp3 := (hb3.block w.heap.size (by rw [szA]; omega)).trans HPA.out
  have hq3 := (hb3.block w2.heap.size (by rw [szA]; omega)).trans HQA.out
  have HP3 : Hid _ := hp3
  have HB3 : Hid (Below w.heap.size w w3) := HBA.out.trans (hb3.mono (by rw [szA]; omega))
  have c0 := Go.Joins.cell_of_block hp3 0
  have c1 := Go.Joins.cell_of_block hp3 1
  have c2 := Go.Joins.cell_of_block hp3 2
  have c3 := Go.Joins.cell_of_block hp3 3
  have c4 := Go.Joins.cell_of_block hp3 4
  have c5 := Go.Joins.cell_of_block hp3 5
  have c6 := Go.Joins.cell_of_block hp3 6
  have c7 := Go.Joins.cell_of_block hp3 7
  have c8 := Go.Joins.cell_of_block hp3 8
  have c9 := Go.Joins.cell_of_block hp3 9
  simp only [List.getElem?_toArray, List.getElem?_cons_zero, List.getElem?_cons_succ] at c0 c1 c2 c3 c4 c5 c6 c7 c8 c9
  have hfr := Go.Joins.unfrozen_of_block hp3
  have q1 := Go.Joins.cell_of_block hq3 1
  have q2 := Go.Joins.cell_of_block hq3 2
  have q3 := Go.Joins.cell_of_block hq3 3
  have q4 := Go.Joins.cell_of_block hq3 4
  have q5 := Go.Joins.cell_of_block hq3 5
  have q6 := Go.Joins.cell_of_block hq3 6
  have q7 := Go.Joins.cell_of_block hq3 7
  have q8 := Go.Joins.cell_of_block hq3 8
  have q9 := Go.Joins.cell_of_block hq3 9
  have q10 := Go.Joins.cell_of_block hq3 10
  simp only [List.getElem?_toArray, List.getElem?_cons_zero, List.getElem?_cons_succ] at q1 q2 q3 q4 q5 q6 q7 q8 q9 q10
  clear hp3 hq3 hb3 szA HQA HPA HBA
  go_wp2
  obtain ⟨r1, r2⟩ := set_sup HP3.out (.int .u64 0) (.int .u64 0) (.int .i64 0) (.int .i64 0) (.int .i64 0) (.int .i64 0) (.bool false) (.int .i64 0) (.int .i64 0) (.int .i64 0)
  have R2 : Hid (Below w.heap.size w ((((((((((w3.setCell ⟨w.heap.size, 0, none⟩ (.int .u64 0)).setCell ⟨w.heap.size, 1, none⟩ (.int .u64 0)).setCell ⟨w.heap.size, 2, none⟩ (.int .i64 0)).setCell ⟨w.heap.size, 3, none⟩ (.int .i64 0)).setCell ⟨w.heap.size, 4, none⟩ (.int .i64 0)).setCell ⟨w.heap.size, 5, none⟩ (.int .i64 0)).setCell ⟨w.heap.size, 6, none⟩ (.bool false)).setCell ⟨w.heap.size, 7, none⟩ (.int .i64 0)).setCell ⟨w.heap.size, 8, none⟩ (.int .i64 0)).setCell ⟨w.heap.size, 9, none⟩ (.int .i64 0))) := HB3.out.trans r2
  clear r2
  generalize ((((((((((w3.setCell ⟨w.heap.size, 0, none⟩ (.int .u64 0)).setCell ⟨w.heap.size, 1, none⟩ (.int .u64 0)).setCell ⟨w.heap.size, 2, none⟩ (.int .i64 0)).setCell ⟨w.heap.size, 3, none⟩ (.int .i64 0)).setCell ⟨w.heap.size, 4, none⟩ (.int .i64 0)).setCell ⟨w.heap.size, 5, none⟩ (.int .i64 0)).setCell ⟨w.heap.size, 6, none⟩ (.bool false)).setCell ⟨w.heap.size, 7, none⟩ (.int .i64 0)).setCell ⟨w.heap.size, 8, none⟩ (.int .i64 0)).setCell ⟨w.heap.size, 9, none⟩ (.int .i64 0)) = wz at *
  have d0 := Go.Joins.cell_of_block r1 0
  have d1 := Go.Joins.cell_of_block r1 1
  have d2 := Go.Joins.cell_of_block r1 2
  have d3 := Go.Joins.cell_of_block r1 3
  have d4 := Go.Joins.cell_of_block r1 4
  have d5 := Go.Joins.cell_of_block r1 5
  have d6 := Go.Joins.cell_of_block r1 6
  have d7 := Go.Joins.cell_of_block r1 7
  have d8 := Go.Joins.cell_of_block r1 8
  have d9 := Go.Joins.cell_of_block r1 9
  simp only [List.getElem?_toArray, List.getElem?_cons_zero, List.getElem?_cons_succ] at d0 d1 d2 d3 d4 d5 d6 d7 d8 d9
  clear r1
  refine bodyPost_ret (v := .tuple #[.agg #[.int .u64 0, .int .u64 0, .int .i64 0, .int .i64 0, .int .i64 0, .int .i64 0, .bool false, .int .i64 0, .int .i64 0, .int .i64 0], .int .i64 1]) (by simp [results, asAddr]; go_simp; try rfl) rfl ⟨rfl, R2.out⟩
set_option maxRecDepth 100000 in
set_option maxHeartbeats 4000000 in
theorem Decode8_other (b : ByteArray) (h : b.size = 64) (ho : Crc.opens b.data.toList = true) (hf : Sup.first b = Sup.magic) (hm : Sup.mayB (Sup.told b) = true) (hx : Sup.secT (Sup.told b) ≠ b) (w : World) :
    Calls Try.prog 34 #[.string b] w fun e w' => e = noSup 1 ∧ Below w.heap.size w w' := by
  have HO := fun W => Open_yes b (by omega) ho W
  have HT := fun W => taken_any (Crc.headB b) _ (Sup.head_size h) rfl W
  rw [Sup.head_take h] at HT
  have h1 : ((b.size : Int) != 64) = false := by rw [bne_eq_false_iff_eq]; omega
  rw [← Sup.told_ofL, show (Pk.dec (b.data.toList.take 31) Sup.wL).getD 0 0 = Sup.first b from rfl, hf] at HT
  have HE := fun W => Encode8_any (Sup.told b) (Sup.told_in h) W
  obtain ⟨f, hff⟩ : ∃ f, Sup.magic = f := ⟨_, rfl⟩
  have h2 : ((f : Int) != 827610706) = false := by rw [← hff]; rfl
  rw [show Sup.encE (Sup.told b) = 0 by simp [Sup.encE, hm], show Sup.encT (Sup.told b) = Sup.secT (Sup.told b) by simp [Sup.encT, hm]] at HE
  obtain ⟨T, hT⟩ : ∃ T, Sup.secT (Sup.told b) = T := ⟨_, rfl⟩
  rw [hT] at HE hx
  have hne : (T.toList == b.toList) = false := by rw [tx_eq]; exact decide_eq_false hx
  clear hm hT
  obtain ⟨s, hs⟩ : ∃ s, Sup.told b = s := ⟨_, rfl⟩
  obtain ⟨t, ht⟩ : ∃ t, Crc.headB b = t := ⟨_, rfl⟩
  rw [hff, hs, ht] at HT
  rw [hs] at HE
  rw [ht] at HO
  clear h ho hf hff hs ht hx
  unfold blkV at HT
  unfold supV at HE
  unfold noSup
  go_enter Try.func34, Try.ntmps34
  go_wp2_with fail
  refine (HO _).mono ?_
  rintro e w1 ⟨rfl, hb1⟩
  obtain ⟨hp1, hb⟩ := sup_cells hb1
  have HB1 : Hid (Below w.heap.size w w1) := hb
  have HP1 : Hid _ := hp1
  have lt1 : w.heap.size < w1.heap.size := (Array.getElem?_eq_some_iff.1 hp1).1
  clear hb1 hp1 hb
  go_wp2_with fail
  refine (HT _).mono ?_
  rintro e w2 ⟨rfl, hb2⟩
  have hp2 := (hb2.block _ lt1).trans HP1.out
  have HP2 : Hid _ := hp2
  have HB2 : Hid (Below w.heap.size w w2) := HB1.out.trans (hb2.mono (Nat.le_of_lt lt1))
  have lt2 : w.heap.size < w2.heap.size := Nat.lt_of_lt_of_le lt1 hb2.size
  clear hb2 HB1 HP1
  have szA : (w2.alloc (Obj.cells #[.int .u64 (f : Int), .int .u64 (s.uu : Int), .int .u64 (s.ev : Int), .int .i64 s.role, .int .i64 s.c, .int .i64 s.k, .int .i64 s.r, .bool s.cl, .int .i64 s.b, .int .i64 s.nw, .int .i64 s.g] 67)).heap.size = w2.heap.size + 1 := World.size_alloc ..
  have HQA : Hid ((w2.alloc (Obj.cells #[.int .u64 (f : Int), .int .u64 (s.uu : Int), .int .u64 (s.ev : Int), .int .i64 s.role, .int .i64 s.c, .int .i64 s.k, .int .i64 s.r, .bool s.cl, .int .i64 s.b, .int .i64 s.nw, .int .i64 s.g] 67)).heap[w2.heap.size]? = some (Obj.cells #[.int .u64 (f : Int), .int .u64 (s.uu : Int), .int .u64 (s.ev : Int), .int .i64 s.role, .int .i64 s.c, .int .i64 s.k, .int .i64 s.r, .bool s.cl, .int .i64 s.b, .int .i64 s.nw, .int .i64 s.g] 67)) := heap_new w2 _
  have HPA : Hid _ := (Below.heap_alloc w2 (Obj.cells #[.int .u64 (f : Int), .int .u64 (s.uu : Int), .int .u64 (s.ev : Int), .int .i64 s.role, .int .i64 s.c, .int .i64 s.k, .int .i64 s.r, .bool s.cl, .int .i64 s.b, .int .i64 s.nw, .int .i64 s.g] 67) _ lt2).trans HP2.out
  have HBA : Hid (Below w.heap.size w (w2.alloc (Obj.cells #[.int .u64 (f : Int), .int .u64 (s.uu : Int), .int .u64 (s.ev : Int), .int .i64 s.role, .int .i64 s.c, .int .i64 s.k, .int .i64 s.r, .bool s.cl, .int .i64 s.b, .int .i64 s.nw, .int .i64 s.g] 67))) := HB2.out.alloc (Nat.le_of_lt lt2) _
  clear hp2
  go_wp2_with fail
  refine (HE _).mono ?_
  rintro e w3 ⟨rfl, hb3⟩
  have hp3 := (hb3.block w.heap.size (by rw [szA]; omega)).trans HPA.out
  have hq3 := (hb3.block w2.heap.size (by rw [szA]; omega)).trans HQA.out
  have HP3 : Hid _ := hp3
  have HB3 : Hid (Below w.heap.size w w3) := HBA.out.trans (hb3.mono (by rw [szA]; omega))
  have c0 := Go.Joins.cell_of_block hp3 0
  have c1 := Go.Joins.cell_of_block hp3 1
  have c2 := Go.Joins.cell_of_block hp3 2
  have c3 := Go.Joins.cell_of_block hp3 3
  have c4 := Go.Joins.cell_of_block hp3 4
  have c5 := Go.Joins.cell_of_block hp3 5
  have c6 := Go.Joins.cell_of_block hp3 6
  have c7 := Go.Joins.cell_of_block hp3 7
  have c8 := Go.Joins.cell_of_block hp3 8
  have c9 := Go.Joins.cell_of_block hp3 9
  simp only [List.getElem?_toArray, List.getElem?_cons_zero, List.getElem?_cons_succ] at c0 c1 c2 c3 c4 c5 c6 c7 c8 c9
  have hfr := Go.Joins.unfrozen_of_block hp3
  have q1 := Go.Joins.cell_of_block hq3 1
  have q2 := Go.Joins.cell_of_block hq3 2
  have q3 := Go.Joins.cell_of_block hq3 3
  have q4 := Go.Joins.cell_of_block hq3 4
  have q5 := Go.Joins.cell_of_block hq3 5
  have q6 := Go.Joins.cell_of_block hq3 6
  have q7 := Go.Joins.cell_of_block hq3 7
  have q8 := Go.Joins.cell_of_block hq3 8
  have q9 := Go.Joins.cell_of_block hq3 9
  have q10 := Go.Joins.cell_of_block hq3 10
  simp only [List.getElem?_toArray, List.getElem?_cons_zero, List.getElem?_cons_succ] at q1 q2 q3 q4 q5 q6 q7 q8 q9 q10
  clear hp3 hq3 hb3 szA HQA HPA HBA
  go_wp2
  obtain ⟨r1, r2⟩ := set_sup HP3.out (.int .u64 0) (.int .u64 0) (.int .i64 0) (.int .i64 0) (.int .i64 0) (.int .i64 0) (.bool false) (.int .i64 0) (.int .i64 0) (.int .i64 0)
  have R2 : Hid (Below w.heap.size w ((((((((((w3.setCell ⟨w.heap.size, 0, none⟩ (.int .u64 0)).setCell ⟨w.heap.size, 1, none⟩ (.int .u64 0)).setCell ⟨w.heap.size, 2, none⟩ (.int .i64 0)).setCell ⟨w.heap.size, 3, none⟩ (.int .i64 0)).setCell ⟨w.heap.size, 4, none⟩ (.int .i64 0)).setCell ⟨w.heap.size, 5, none⟩ (.int .i64 0)).setCell ⟨w.heap.size, 6, none⟩ (.bool false)).setCell ⟨w.heap.size, 7, none⟩ (.int .i64 0)).setCell ⟨w.heap.size, 8, none⟩ (.int .i64 0)).setCell ⟨w.heap.size, 9, none⟩ (.int .i64 0))) := HB3.out.trans r2
  clear r2
  generalize ((((((((((w3.setCell ⟨w.heap.size, 0, none⟩ (.int .u64 0)).setCell ⟨w.heap.size, 1, none⟩ (.int .u64 0)).setCell ⟨w.heap.size, 2, none⟩ (.int .i64 0)).setCell ⟨w.heap.size, 3, none⟩ (.int .i64 0)).setCell ⟨w.heap.size, 4, none⟩ (.int .i64 0)).setCell ⟨w.heap.size, 5, none⟩ (.int .i64 0)).setCell ⟨w.heap.size, 6, none⟩ (.bool false)).setCell ⟨w.heap.size, 7, none⟩ (.int .i64 0)).setCell ⟨w.heap.size, 8, none⟩ (.int .i64 0)).setCell ⟨w.heap.size, 9, none⟩ (.int .i64 0)) = wz at *
  have d0 := Go.Joins.cell_of_block r1 0
  have d1 := Go.Joins.cell_of_block r1 1
  have d2 := Go.Joins.cell_of_block r1 2
  have d3 := Go.Joins.cell_of_block r1 3
  have d4 := Go.Joins.cell_of_block r1 4
  have d5 := Go.Joins.cell_of_block r1 5
  have d6 := Go.Joins.cell_of_block r1 6
  have d7 := Go.Joins.cell_of_block r1 7
  have d8 := Go.Joins.cell_of_block r1 8
  have d9 := Go.Joins.cell_of_block r1 9
  simp only [List.getElem?_toArray, List.getElem?_cons_zero, List.getElem?_cons_succ] at d0 d1 d2 d3 d4 d5 d6 d7 d8 d9
  clear r1
  refine bodyPost_ret (v := .tuple #[.agg #[.int .u64 0, .int .u64 0, .int .i64 0, .int .i64 0, .int .i64 0, .int .i64 0, .bool false, .int .i64 0, .int .i64 0, .int .i64 0], .int .i64 1]) (by simp [results, asAddr]; go_simp; try rfl) rfl ⟨rfl, R2.out⟩
set_option maxRecDepth 100000 in
set_option maxHeartbeats 4000000 in
theorem Decode8_good (b : ByteArray) (h : b.size = 64) (ho : Crc.opens b.data.toList = true) (hf : Sup.first b = Sup.magic) (hm : Sup.mayB (Sup.told b) = true) (hx : Sup.secT (Sup.told b) = b) (w : World) :
    Calls Try.prog 34 #[.string b] w fun e w' => e = .returned (.tuple #[supV (Sup.told b), .int .i64 0]) ∧ Below w.heap.size w w' := by
  have HO := fun W => Open_yes b (by omega) ho W
  have HT := fun W => taken_any (Crc.headB b) _ (Sup.head_size h) rfl W
  rw [Sup.head_take h] at HT
  have h1 : ((b.size : Int) != 64) = false := by rw [bne_eq_false_iff_eq]; omega
  rw [← Sup.told_ofL, show (Pk.dec (b.data.toList.take 31) Sup.wL).getD 0 0 = Sup.first b from rfl, hf] at HT
  have HE := fun W => Encode8_any (Sup.told b) (Sup.told_in h) W
  obtain ⟨f, hff⟩ : ∃ f, Sup.magic = f := ⟨_, rfl⟩
  have h2 : ((f : Int) != 827610706) = false := by rw [← hff]; rfl
  rw [show Sup.encE (Sup.told b) = 0 by simp [Sup.encE, hm], show Sup.encT (Sup.told b) = b by simp [Sup.encT, hm, hx]] at HE
  clear hm
  obtain ⟨s, hs⟩ : ∃ s, Sup.told b = s := ⟨_, rfl⟩
  obtain ⟨t, ht⟩ : ∃ t, Crc.headB b = t := ⟨_, rfl⟩
  rw [hff, hs, ht] at HT
  rw [hs] at HE
  rw [ht] at HO
  rw [hs]
  clear h ho hf hff hs ht hx
  unfold blkV at HT
  unfold supV at HE ⊢
  go_enter Try.func34, Try.ntmps34
  go_wp2_with fail
  refine (HO _).mono ?_
  rintro e w1 ⟨rfl, hb1⟩
  obtain ⟨hp1, hb⟩ := sup_cells hb1
  have HB1 : Hid (Below w.heap.size w w1) := hb
  have HP1 : Hid _ := hp1
  have lt1 : w.heap.size < w1.heap.size := (Array.getElem?_eq_some_iff.1 hp1).1
  clear hb1 hp1 hb
  go_wp2_with fail
  refine (HT _).mono ?_
  rintro e w2 ⟨rfl, hb2⟩
  have hp2 := (hb2.block _ lt1).trans HP1.out
  have HP2 : Hid _ := hp2
  have HB2 : Hid (Below w.heap.size w w2) := HB1.out.trans (hb2.mono (Nat.le_of_lt lt1))
  have lt2 : w.heap.size < w2.heap.size := Nat.lt_of_lt_of_le lt1 hb2.size
  clear hb2 HB1 HP1
  have szA : (w2.alloc (Obj.cells #[.int .u64 (f : Int), .int .u64 (s.uu : Int), .int .u64 (s.ev : Int), .int .i64 s.role, .int .i64 s.c, .int .i64 s.k, .int .i64 s.r, .bool s.cl, .int .i64 s.b, .int .i64 s.nw, .int .i64 s.g] 67)).heap.size = w2.heap.size + 1 := World.size_alloc ..
  have HQA : Hid ((w2.alloc (Obj.cells #[.int .u64 (f : Int), .int .u64 (s.uu : Int), .int .u64 (s.ev : Int), .int .i64 s.role, .int .i64 s.c, .int .i64 s.k, .int .i64 s.r, .bool s.cl, .int .i64 s.b, .int .i64 s.nw, .int .i64 s.g] 67)).heap[w2.heap.size]? = some (Obj.cells #[.int .u64 (f : Int), .int .u64 (s.uu : Int), .int .u64 (s.ev : Int), .int .i64 s.role, .int .i64 s.c, .int .i64 s.k, .int .i64 s.r, .bool s.cl, .int .i64 s.b, .int .i64 s.nw, .int .i64 s.g] 67)) := heap_new w2 _
  have HPA : Hid _ := (Below.heap_alloc w2 (Obj.cells #[.int .u64 (f : Int), .int .u64 (s.uu : Int), .int .u64 (s.ev : Int), .int .i64 s.role, .int .i64 s.c, .int .i64 s.k, .int .i64 s.r, .bool s.cl, .int .i64 s.b, .int .i64 s.nw, .int .i64 s.g] 67) _ lt2).trans HP2.out
  have HBA : Hid (Below w.heap.size w (w2.alloc (Obj.cells #[.int .u64 (f : Int), .int .u64 (s.uu : Int), .int .u64 (s.ev : Int), .int .i64 s.role, .int .i64 s.c, .int .i64 s.k, .int .i64 s.r, .bool s.cl, .int .i64 s.b, .int .i64 s.nw, .int .i64 s.g] 67))) := HB2.out.alloc (Nat.le_of_lt lt2) _
  clear hp2
  go_wp2_with fail
  refine (HE _).mono ?_
  rintro e w3 ⟨rfl, hb3⟩
  have hp3 := (hb3.block w.heap.size (by rw [szA]; omega)).trans HPA.out
  have hq3 := (hb3.block w2.heap.size (by rw [szA]; omega)).trans HQA.out
  have HP3 : Hid _ := hp3
  have HB3 : Hid (Below w.heap.size w w3) := HBA.out.trans (hb3.mono (by rw [szA]; omega))
  have c0 := Go.Joins.cell_of_block hp3 0
  have c1 := Go.Joins.cell_of_block hp3 1
  have c2 := Go.Joins.cell_of_block hp3 2
  have c3 := Go.Joins.cell_of_block hp3 3
  have c4 := Go.Joins.cell_of_block hp3 4
  have c5 := Go.Joins.cell_of_block hp3 5
  have c6 := Go.Joins.cell_of_block hp3 6
  have c7 := Go.Joins.cell_of_block hp3 7
  have c8 := Go.Joins.cell_of_block hp3 8
  have c9 := Go.Joins.cell_of_block hp3 9
  simp only [List.getElem?_toArray, List.getElem?_cons_zero, List.getElem?_cons_succ] at c0 c1 c2 c3 c4 c5 c6 c7 c8 c9
  have hfr := Go.Joins.unfrozen_of_block hp3
  have q1 := Go.Joins.cell_of_block hq3 1
  have q2 := Go.Joins.cell_of_block hq3 2
  have q3 := Go.Joins.cell_of_block hq3 3
  have q4 := Go.Joins.cell_of_block hq3 4
  have q5 := Go.Joins.cell_of_block hq3 5
  have q6 := Go.Joins.cell_of_block hq3 6
  have q7 := Go.Joins.cell_of_block hq3 7
  have q8 := Go.Joins.cell_of_block hq3 8
  have q9 := Go.Joins.cell_of_block hq3 9
  have q10 := Go.Joins.cell_of_block hq3 10
  simp only [List.getElem?_toArray, List.getElem?_cons_zero, List.getElem?_cons_succ] at q1 q2 q3 q4 q5 q6 q7 q8 q9 q10
  clear hp3 hq3 hb3 szA HQA HPA HBA
  go_wp2
  obtain ⟨r1, r2⟩ := set_sup HP3.out (.int .u64 (s.uu : Int)) (.int .u64 (s.ev : Int)) (.int .i64 s.role) (.int .i64 s.c) (.int .i64 s.k) (.int .i64 s.r) (.bool s.cl) (.int .i64 s.b) (.int .i64 s.nw) (.int .i64 s.g)
  have R2 : Hid (Below w.heap.size w ((((((((((w3.setCell ⟨w.heap.size, 0, none⟩ (.int .u64 (s.uu : Int))).setCell ⟨w.heap.size, 1, none⟩ (.int .u64 (s.ev : Int))).setCell ⟨w.heap.size, 2, none⟩ (.int .i64 s.role)).setCell ⟨w.heap.size, 3, none⟩ (.int .i64 s.c)).setCell ⟨w.heap.size, 4, none⟩ (.int .i64 s.k)).setCell ⟨w.heap.size, 5, none⟩ (.int .i64 s.r)).setCell ⟨w.heap.size, 6, none⟩ (.bool s.cl)).setCell ⟨w.heap.size, 7, none⟩ (.int .i64 s.b)).setCell ⟨w.heap.size, 8, none⟩ (.int .i64 s.nw)).setCell ⟨w.heap.size, 9, none⟩ (.int .i64 s.g))) := HB3.out.trans r2
  clear r2
  generalize ((((((((((w3.setCell ⟨w.heap.size, 0, none⟩ (.int .u64 (s.uu : Int))).setCell ⟨w.heap.size, 1, none⟩ (.int .u64 (s.ev : Int))).setCell ⟨w.heap.size, 2, none⟩ (.int .i64 s.role)).setCell ⟨w.heap.size, 3, none⟩ (.int .i64 s.c)).setCell ⟨w.heap.size, 4, none⟩ (.int .i64 s.k)).setCell ⟨w.heap.size, 5, none⟩ (.int .i64 s.r)).setCell ⟨w.heap.size, 6, none⟩ (.bool s.cl)).setCell ⟨w.heap.size, 7, none⟩ (.int .i64 s.b)).setCell ⟨w.heap.size, 8, none⟩ (.int .i64 s.nw)).setCell ⟨w.heap.size, 9, none⟩ (.int .i64 s.g)) = wz at *
  have d0 := Go.Joins.cell_of_block r1 0
  have d1 := Go.Joins.cell_of_block r1 1
  have d2 := Go.Joins.cell_of_block r1 2
  have d3 := Go.Joins.cell_of_block r1 3
  have d4 := Go.Joins.cell_of_block r1 4
  have d5 := Go.Joins.cell_of_block r1 5
  have d6 := Go.Joins.cell_of_block r1 6
  have d7 := Go.Joins.cell_of_block r1 7
  have d8 := Go.Joins.cell_of_block r1 8
  have d9 := Go.Joins.cell_of_block r1 9
  simp only [List.getElem?_toArray, List.getElem?_cons_zero, List.getElem?_cons_succ] at d0 d1 d2 d3 d4 d5 d6 d7 d8 d9
  clear r1
  refine bodyPost_ret (v := .tuple #[.agg #[.int .u64 (s.uu : Int), .int .u64 (s.ev : Int), .int .i64 s.role, .int .i64 s.c, .int .i64 s.k, .int .i64 s.r, .bool s.cl, .int .i64 s.b, .int .i64 s.nw, .int .i64 s.g], .int .i64 0]) (by simp [results, asAddr]; go_simp; try rfl) rfl ⟨rfl, R2.out⟩

theorem Decode8_any (b : ByteArray) (w : World) :
    Calls Try.prog 34 #[.string b] w fun e w' => e = .returned (.tuple #[supV (Sup.decS b), .int .i64 (Sup.decE b)]) ∧ Below w.heap.size w w' := by
  by_cases h : b.size = 64
  case neg => rw [noSup_eq (Sup.decE_short h) (by decide)]; exact Decode8_short b h w
  cases ho : Crc.opens b.data.toList
  case false => rw [noSup_eq (Sup.decE_sum h ho) (by decide)]; exact Decode8_sum b h ho w
  by_cases hf : Sup.first b = Sup.magic
  case neg => rw [noSup_eq (Sup.decE_magic h ho hf) (by decide)]; exact Decode8_magic b h ho hf w
  cases hm : Sup.mayB (Sup.told b)
  case false => rw [noSup_eq (Sup.decE_arg h ho hf hm) (by decide)]; exact Decode8_arg b h ho hf hm w
  by_cases hx : Sup.secT (Sup.told b) = b
  case neg => rw [noSup_eq (Sup.decE_other h ho hf hx) (by decide)]; exact Decode8_other b h ho hf hm hx w
  rw [Sup.decS_good (Sup.decE_good h ho hf hm hx), Sup.decE_good h ho hf hm hx]
  exact Decode8_good b h ho hf hm hx w
end Go.Proofs.Ytgkhnfchohcjeaa
