/- The walk of the document's own Decode of a superblock. -/
import Derived.Test.YtgkhnfchohcjeaaGreatRef08Enc
import Derived.Test.YtgkhnfchohcjeaaGreatRef02Open
namespace Go.Proofs.YtgkhnfchohcjeaaGreat
open Go.RowKit

theorem rsup_cells {w w1 : World} (h : Below (w.alloc (.cells #[.int .u64 0, .int .u64 0, .int .i64 0, .int .i64 0, .int .i64 0, .int .i64 0, .bool false, .int .i64 0, .int .i64 0, .int .i64 0] 39)).heap.size (w.alloc (.cells #[.int .u64 0, .int .u64 0, .int .i64 0, .int .i64 0, .int .i64 0, .int .i64 0, .bool false, .int .i64 0, .int .i64 0, .int .i64 0] 39)) w1) :
    w1.heap[w.heap.size]? = some (.cells #[.int .u64 0, .int .u64 0, .int .i64 0, .int .i64 0, .int .i64 0, .int .i64 0, .bool false, .int .i64 0, .int .i64 0, .int .i64 0] 39 (0, 0)) ∧ Below w.heap.size w w1 :=
  ⟨(h.block w.heap.size (by rw [World.size_alloc]; exact Nat.lt_succ_self _)).trans (heap_new w _), ((Below.refl w.heap.size w).alloc (Nat.le_refl _) _).trans (h.mono (by rw [World.size_alloc]; omega))⟩
set_option maxRecDepth 100000 in
set_option maxHeartbeats 8000000 in
theorem rDecode8_short (b : ByteArray) (h : b.size ≠ 64) (w : World) :
    Calls Tryz.prog 56 #[.string b] w fun e w' => e = noSup 31 ∧ Below w.heap.size w w' := by
  have h1 : ((b.size : Int) != 64) = true := by rw [bne_iff_ne]; omega
  clear h
  unfold noSup
  go_enter Tryz.func56, Tryz.ntmps56
  go_wp2
  refine bodyPost_ret (v := .tuple #[.agg #[.int .u64 0, .int .u64 0, .int .i64 0, .int .i64 0, .int .i64 0, .int .i64 0, .bool false, .int .i64 0, .int .i64 0, .int .i64 0], .int .i64 31]) (by simp [results, asAddr]; go_simp; try rfl) rfl ⟨rfl, (Below.refl _ _).alloc (Nat.le_refl _) _⟩
set_option maxRecDepth 100000 in
set_option maxHeartbeats 8000000 in
theorem rDecode8_sum (b : ByteArray) (h : b.size = 64) (ho : Crc.opens b.data.toList = false) (w : World) :
    Calls Tryz.prog 56 #[.string b] w fun e w' => e = noSup 80 ∧ Below w.heap.size w w' := by
  have HO := fun W => refOpen_no b (by omega) ho W
  have h1 : ((b.size : Int) != 64) = false := by rw [bne_eq_false_iff_eq]; omega
  clear h ho
  unfold noSup
  go_enter Tryz.func56, Tryz.ntmps56
  go_wp2_with fail
  refine (HO _).mono ?_
  rintro e w1 ⟨rfl, hb1⟩
  obtain ⟨hp, hb⟩ := rsup_cells hb1
  have HB : Hid (Below w.heap.size w w1) := hb
  have HP : Hid _ := hp
  have c0 := Go.Joins.cell_of_block hp 0
  have c1 := Go.Joins.cell_of_block hp 1
  have c2 := Go.Joins.cell_of_block hp 2
  have c3 := Go.Joins.cell_of_block hp 3
  have c4 := Go.Joins.cell_of_block hp 4
  have c5 := Go.Joins.cell_of_block hp 5
  have c6 := Go.Joins.cell_of_block hp 6
  have c7 := Go.Joins.cell_of_block hp 7
  have c8 := Go.Joins.cell_of_block hp 8
  have c9 := Go.Joins.cell_of_block hp 9
  simp only [List.getElem?_toArray, List.getElem?_cons_zero, List.getElem?_cons_succ] at c0 c1 c2 c3 c4 c5 c6 c7 c8 c9
  have hf := Go.Joins.unfrozen_of_block hp
  clear hb1 hp hb
  go_wp2
  obtain ⟨r1, r2⟩ := set_sup HP.out (.int .u64 0) (.int .u64 0) (.int .i64 0) (.int .i64 0) (.int .i64 0) (.int .i64 0) (.bool false) (.int .i64 0) (.int .i64 0) (.int .i64 0)
  have R2 : Hid (Below w.heap.size w ((((((((((w1.setCell ⟨w.heap.size, 0, none⟩ (.int .u64 0)).setCell ⟨w.heap.size, 1, none⟩ (.int .u64 0)).setCell ⟨w.heap.size, 2, none⟩ (.int .i64 0)).setCell ⟨w.heap.size, 3, none⟩ (.int .i64 0)).setCell ⟨w.heap.size, 4, none⟩ (.int .i64 0)).setCell ⟨w.heap.size, 5, none⟩ (.int .i64 0)).setCell ⟨w.heap.size, 6, none⟩ (.bool false)).setCell ⟨w.heap.size, 7, none⟩ (.int .i64 0)).setCell ⟨w.heap.size, 8, none⟩ (.int .i64 0)).setCell ⟨w.heap.size, 9, none⟩ (.int .i64 0))) := HB.out.trans r2
  clear r2
  generalize ((((((((((w1.setCell ⟨w.heap.size, 0, none⟩ (.int .u64 0)).setCell ⟨w.heap.size, 1, none⟩ (.int .u64 0)).setCell ⟨w.heap.size, 2, none⟩ (.int .i64 0)).setCell ⟨w.heap.size, 3, none⟩ (.int .i64 0)).setCell ⟨w.heap.size, 4, none⟩ (.int .i64 0)).setCell ⟨w.heap.size, 5, none⟩ (.int .i64 0)).setCell ⟨w.heap.size, 6, none⟩ (.bool false)).setCell ⟨w.heap.size, 7, none⟩ (.int .i64 0)).setCell ⟨w.heap.size, 8, none⟩ (.int .i64 0)).setCell ⟨w.heap.size, 9, none⟩ (.int .i64 0)) = wz at *
  have d0 := Go.Joins.cell_of_block r1 0
  have d1 := Go.Joins.cell_of_block r1 1
  have d2 := Go.Joins.cell_of_block r1 2
  have d3 := Go.Joins.cell_of_block r1 3
  have d4 := Go.Joins.cell_of_block r1 4
  have d5 := Go.Joins.cell_of_block r1 5
  have d6 := Go.Joins.cell_of_block r1 6
  have d7 := Go.Joins.cell_of_block r1 7
  have d8 := Go.Joins.cell_of_block r1 8
  have d9 := Go.Joins.cell_of_block r1 9
  simp only [List.getElem?_toArray, List.getElem?_cons_zero, List.getElem?_cons_succ] at d0 d1 d2 d3 d4 d5 d6 d7 d8 d9
  clear r1
  refine bodyPost_ret (v := .tuple #[.agg #[.int .u64 0, .int .u64 0, .int .i64 0, .int .i64 0, .int .i64 0, .int .i64 0, .bool false, .int .i64 0, .int .i64 0, .int .i64 0], .int .i64 80]) (by simp [results, asAddr]; go_simp; try rfl) rfl ⟨rfl, R2.out⟩
set_option maxRecDepth 100000 in
set_option maxHeartbeats 8000000 in
theorem rDecode8_magic (b t u : ByteArray) (h : b.size = 64) (ho : Crc.opens b.data.toList = true) (ht : Crc.headB b = t) (htu : t.extract 0 31 = u) (l0 l1 l2 l3 l4 l5 l6 l7 l8 l9 l10 : Nat) (hL : Pk.dec u.data.toList Sup.wL = [l0, l1, l2, l3, l4, l5, l6, l7, l8, l9, l10]) (hf : l0 ≠ Sup.magic) (w : World) :
    Calls Tryz.prog 56 #[.string b] w fun e w' => e = noSup 81 ∧ Below w.heap.size w w' := by
  have HO := fun W => refOpen_yes b (by omega) ho W
  rw [ht] at HO
  have ts : t.size = 60 := by rw [← ht]; exact Sup.head_size h
  have hu31 : u.data.toList.length = Pk.offs Sup.wL Sup.wL.length := by rw [← htu, Sup.wL_offs]; simp; omega
  have hD := fun (x : Option Addr) (cx : Nat) (W : World) (h : RowI .i64 W x 11 (fun j => Sup.wL.getD j 0)) => refDecode_any u Sup.wL (by have : u.data.toList.length = 31 := hu31.trans Sup.wL_offs; unfold maxLen; simp at this; have e : u.size = u.data.size := rfl; omega) (by decide) x cx W h
  have hfit := Pk.dec_fit Sup.wL_ok hu31
  unfold DecAns at hD
  rw [Pk.decE_yes Sup.wL_ok hu31, hL, show Sup.wL.length = 11 from rfl] at hD
  rw [show [l0, l1, l2, l3, l4, l5, l6, l7, l8, l9, l10].length = 11 from rfl] at hD
  rw [hL] at hfit
  have w3 : IntKind.i64.wrap (l3 : Int) = (l3 : Int) := by have := Pk.fit_at hfit (j := 3) (by decide); have : l3 < 256 ^ Pk.wd Sup.wL 3 := this; have : l3 < 256 ^ 1 := this; rw [IntKind.wrap_i64]; omega
  have w4 : IntKind.i64.wrap (l4 : Int) = (l4 : Int) := by have := Pk.fit_at hfit (j := 4) (by decide); have : l4 < 256 ^ Pk.wd Sup.wL 4 := this; have : l4 < 256 ^ 1 := this; rw [IntKind.wrap_i64]; omega
  have w5 : IntKind.i64.wrap (l5 : Int) = (l5 : Int) := by have := Pk.fit_at hfit (j := 5) (by decide); have : l5 < 256 ^ Pk.wd Sup.wL 5 := this; have : l5 < 256 ^ 1 := this; rw [IntKind.wrap_i64]; omega
  have w6 : IntKind.i64.wrap (l6 : Int) = (l6 : Int) := by have := Pk.fit_at hfit (j := 6) (by decide); have : l6 < 256 ^ Pk.wd Sup.wL 6 := this; have : l6 < 256 ^ 2 := this; rw [IntKind.wrap_i64]; omega
  have w8 : IntKind.i64.wrap (l8 : Int) = (l8 : Int) := by have := Pk.fit_at hfit (j := 8) (by decide); have : l8 < 256 ^ Pk.wd Sup.wL 8 := this; have : l8 < 256 ^ 2 := this; rw [IntKind.wrap_i64]; omega
  have w9 : IntKind.i64.wrap (l9 : Int) = (l9 : Int) := by have := Pk.fit_at hfit (j := 9) (by decide); have : l9 < 256 ^ Pk.wd Sup.wL 9 := this; have : l9 < 256 ^ 1 := this; rw [IntKind.wrap_i64]; omega
  have w10 : IntKind.i64.wrap (l10 : Int) = (l10 : Int) := by have := Pk.fit_at hfit (j := 10) (by decide); have : l10 < 256 ^ Pk.wd Sup.wL 10 := this; have : l10 < 256 ^ 2 := this; rw [IntKind.wrap_i64]; omega
  have h1 : ((b.size : Int) != 64) = false := by rw [bne_eq_false_iff_eq]; omega
  have tsi : (t.size : Int) = 60 := by omega
  have HMX : Hid (Tryz.prog.follows .mixedOrders = true) := by show _ = _; kernel_rfl
  have HW := rWidths_any
  have HD : Hid _ := hD
  have h2 : ((l0 : Int) != 827610706) = true := by rw [bne_iff_ne]; intro e; exact hf (by have : ((Sup.magic : Nat) : Int) = 827610706 := rfl; omega)
  unfold noSup
  clear h ho ht hL hf hu31 hfit hD ts
  go_enter Tryz.func56, Tryz.ntmps56
  go_wp2_with fail
  refine (HO _).mono ?_
  rintro e w1 ⟨rfl, hb1⟩
  obtain ⟨hp1, hb⟩ := rsup_cells hb1
  have HB1 : Hid (Below w.heap.size w w1) := hb
  have HP1 : Hid _ := hp1
  have lt1 : w.heap.size < w1.heap.size := (Array.getElem?_eq_some_iff.1 hp1).1
  clear hb1 hp1 hb
  go_wp2_with fail
  refine wp_region_held (S := fun _ => True) HMX.out ?_
  have hS0 : (fun _ : World => True) w1.drew := trivial
  change wpAnyH _ _ _ _ _ _ _ _ w1.drew
  refine held_quiet 0 (v := ?v0q1) rfl (by kernel_rfl) (fun _ _ _ h => h) (by assumption) rfl ?hy0q1 ?rest0q1
  case hy0q1 => (intro wS hSw; (try dsimp only at hSw); go_simp; try with_reducible rfl)
  try simp only [Act.put, List.setIfInBounds_toArray, List.set_cons_zero, List.set_cons_succ]
  refine held_quiet 1 (v := ?v1q2) rfl (by kernel_rfl) (fun _ _ _ h => h) (by assumption) rfl ?hy1q2 ?rest1q2
  case hy1q2 => (intro wS hSw; (try dsimp only at hSw); go_simp; try with_reducible rfl)
  try simp only [Act.put, List.setIfInBounds_toArray, List.set_cons_zero, List.set_cons_succ]
  refine held_one 2 rfl (by kernel_rfl) ?_
  go_wp2_with fail
  refine (HW _).mono ?_
  rintro e w2 ⟨rfl, rw2, hb2⟩
  have hb2 : Below w1.heap.size w1 w2 := (Below.refl _ w1).drew.trans hb2
  have HB2 : Hid (Below w1.heap.size w1 w2) := hb2
  have hE := HD.out _ 11 _ rw2
  clear rw2 hb2 HD
  go_wp2
  try refine ⟨trivial, ?_⟩
  refine held_one 3 rfl (by kernel_rfl) ?_
  go_wp2_with fail
  refine hE.mono ?_
  rintro e w3 ⟨n0, cn, rfl, rn, hb3⟩
  have HB3 : Hid (Below w1.heap.size w1 w3) := HB2.out.trans (hb3.mono HB2.out.size)
  clear hE hb3
  obtain ⟨nb, no, en, q0⟩ := rn 0 (by decide)
  subst en
  have hnc : ∀ j, j < 11 → w3.cell? ⟨nb, no + j, none⟩ = some (.int .u64 (([l0, l1, l2, l3, l4, l5, l6, l7, l8, l9, l10].getD j 0 : Nat) : Int)) := by
    intro j hj
    obtain ⟨b', o', e, hc⟩ := rn j hj
    simp only [Option.some.injEq, Addr.mk.injEq, and_true] at e
    obtain ⟨rfl, rfl⟩ := e
    exact hc
  have n0 := hnc 0 (by decide)
  have n1 := hnc 1 (by decide)
  have n2 := hnc 2 (by decide)
  have n3 := hnc 3 (by decide)
  have n4 := hnc 4 (by decide)
  have n5 := hnc 5 (by decide)
  have n6 := hnc 6 (by decide)
  have n7 := hnc 7 (by decide)
  have n8 := hnc 8 (by decide)
  have n9 := hnc 9 (by decide)
  have n10 := hnc 10 (by decide)
  simp only [Nat.add_zero, List.getD_cons_zero, List.getD_cons_succ] at n0 n1 n2 n3 n4 n5 n6 n7 n8 n9 n10
  have HP3 : Hid _ := (HB3.out.block _ lt1).trans HP1.out
  have HQ3 : Hid (Below w.heap.size w w3) := HB1.out.trans (HB3.out.mono (Nat.le_of_lt lt1))
  have lt3 : w.heap.size < w3.heap.size := Nat.lt_of_lt_of_le lt1 HB3.out.size
  clear rn q0 hnc HB1 HB2 HB3 HP1
  go_wp2
  try refine ⟨trivial, ?_⟩
  refine held_quiet 4 (v := ?v4q3) rfl (by kernel_rfl) (fun _ _ _ h => h) (by assumption) rfl ?hy4q3 ?rest4q3
  case hy4q3 => (intro wS hSw; (try dsimp only at hSw); go_simp; try with_reducible rfl)
  try simp only [Act.put, List.setIfInBounds_toArray, List.set_cons_zero, List.set_cons_succ]
  refine held_quiet 5 (v := ?v5q4) rfl (by kernel_rfl) (fun _ _ _ h => h) (by assumption) rfl ?hy5q4 ?rest5q4
  case hy5q4 => (intro wS hSw; (try dsimp only at hSw); go_simp; try with_reducible rfl)
  try simp only [Act.put, List.setIfInBounds_toArray, List.set_cons_zero, List.set_cons_succ]
  refine held_quiet 6 (v := ?v6q5) rfl (by kernel_rfl) (fun _ _ _ h => h) (by assumption) rfl ?hy6q5 ?rest6q5
  case hy6q5 => (intro wS hSw; (try dsimp only at hSw); go_simp; try with_reducible rfl)
  try simp only [Act.put, List.setIfInBounds_toArray, List.set_cons_zero, List.set_cons_succ]
  refine held_quiet 7 (v := ?v7q6) rfl (by kernel_rfl) (fun _ _ _ h => h) (by assumption) rfl ?hy7q6 ?rest7q6
  case hy7q6 => (intro wS hSw; (try dsimp only at hSw); go_simp; try with_reducible rfl)
  try simp only [Act.put, List.setIfInBounds_toArray, List.set_cons_zero, List.set_cons_succ]
  refine held_quiet 8 (v := ?v8q7) rfl (by kernel_rfl) (fun _ _ _ h => h) (by assumption) rfl ?hy8q7 ?rest8q7
  case hy8q7 => (intro wS hSw; (try dsimp only at hSw); go_simp; try with_reducible rfl)
  try simp only [Act.put, List.setIfInBounds_toArray, List.set_cons_zero, List.set_cons_succ]
  refine held_done (by kernel_rfl) ?_
  have hp3 := HP3.out
  have c0 := Go.Joins.cell_of_block hp3 0
  have c1 := Go.Joins.cell_of_block hp3 1
  have c2 := Go.Joins.cell_of_block hp3 2
  have c3 := Go.Joins.cell_of_block hp3 3
  have c4 := Go.Joins.cell_of_block hp3 4
  have c5 := Go.Joins.cell_of_block hp3 5
  have c6 := Go.Joins.cell_of_block hp3 6
  have c7 := Go.Joins.cell_of_block hp3 7
  have c8 := Go.Joins.cell_of_block hp3 8
  have c9 := Go.Joins.cell_of_block hp3 9
  simp only [List.getElem?_toArray, List.getElem?_cons_zero, List.getElem?_cons_succ] at c0 c1 c2 c3 c4 c5 c6 c7 c8 c9
  have hfr := Go.Joins.unfrozen_of_block hp3
  clear hp3
  go_wp2
  obtain ⟨r1, r2⟩ := set_sup HP3.out (.int .u64 0) (.int .u64 0) (.int .i64 0) (.int .i64 0) (.int .i64 0) (.int .i64 0) (.bool false) (.int .i64 0) (.int .i64 0) (.int .i64 0)
  have R2 : Hid (Below w.heap.size w ((((((((((w3.setCell ⟨w.heap.size, 0, none⟩ (.int .u64 0)).setCell ⟨w.heap.size, 1, none⟩ (.int .u64 0)).setCell ⟨w.heap.size, 2, none⟩ (.int .i64 0)).setCell ⟨w.heap.size, 3, none⟩ (.int .i64 0)).setCell ⟨w.heap.size, 4, none⟩ (.int .i64 0)).setCell ⟨w.heap.size, 5, none⟩ (.int .i64 0)).setCell ⟨w.heap.size, 6, none⟩ (.bool false)).setCell ⟨w.heap.size, 7, none⟩ (.int .i64 0)).setCell ⟨w.heap.size, 8, none⟩ (.int .i64 0)).setCell ⟨w.heap.size, 9, none⟩ (.int .i64 0))) := HQ3.out.trans r2
  clear r2
  generalize ((((((((((w3.setCell ⟨w.heap.size, 0, none⟩ (.int .u64 0)).setCell ⟨w.heap.size, 1, none⟩ (.int .u64 0)).setCell ⟨w.heap.size, 2, none⟩ (.int .i64 0)).setCell ⟨w.heap.size, 3, none⟩ (.int .i64 0)).setCell ⟨w.heap.size, 4, none⟩ (.int .i64 0)).setCell ⟨w.heap.size, 5, none⟩ (.int .i64 0)).setCell ⟨w.heap.size, 6, none⟩ (.bool false)).setCell ⟨w.heap.size, 7, none⟩ (.int .i64 0)).setCell ⟨w.heap.size, 8, none⟩ (.int .i64 0)).setCell ⟨w.heap.size, 9, none⟩ (.int .i64 0)) = wz at *
  have d0 := Go.Joins.cell_of_block r1 0
  have d1 := Go.Joins.cell_of_block r1 1
  have d2 := Go.Joins.cell_of_block r1 2
  have d3 := Go.Joins.cell_of_block r1 3
  have d4 := Go.Joins.cell_of_block r1 4
  have d5 := Go.Joins.cell_of_block r1 5
  have d6 := Go.Joins.cell_of_block r1 6
  have d7 := Go.Joins.cell_of_block r1 7
  have d8 := Go.Joins.cell_of_block r1 8
  have d9 := Go.Joins.cell_of_block r1 9
  simp only [List.getElem?_toArray, List.getElem?_cons_zero, List.getElem?_cons_succ] at d0 d1 d2 d3 d4 d5 d6 d7 d8 d9
  clear r1
  refine bodyPost_ret (v := .tuple #[.agg #[.int .u64 0, .int .u64 0, .int .i64 0, .int .i64 0, .int .i64 0, .int .i64 0, .bool false, .int .i64 0, .int .i64 0, .int .i64 0], .int .i64 81]) (by simp [results, asAddr]; go_simp; try rfl) rfl ⟨rfl, R2.out⟩
set_option maxRecDepth 100000 in
set_option maxHeartbeats 8000000 in
theorem rDecode8_arg (b t u : ByteArray) (h : b.size = 64) (ho : Crc.opens b.data.toList = true) (ht : Crc.headB b = t) (htu : t.extract 0 31 = u) (l0 l1 l2 l3 l4 l5 l6 l7 l8 l9 l10 : Nat) (cl : Bool) (hL : Pk.dec u.data.toList Sup.wL = [l0, l1, l2, l3, l4, l5, l6, l7, l8, l9, l10]) (hcl : ((l7 : Int) == 1) = cl) (hI : Su.In ⟨l1, l2, (l3 : Int), (l4 : Int), (l5 : Int), (l6 : Int), cl, (l8 : Int), (l9 : Int), (l10 : Int)⟩) (hf : l0 = Sup.magic) (hx : Sup.mayB ⟨l1, l2, (l3 : Int), (l4 : Int), (l5 : Int), (l6 : Int), cl, (l8 : Int), (l9 : Int), (l10 : Int)⟩ = false) (w : World) :
    Calls Tryz.prog 56 #[.string b] w fun e w' => e = noSup 1 ∧ Below w.heap.size w w' := by
  have HO := fun W => refOpen_yes b (by omega) ho W
  rw [ht] at HO
  have ts : t.size = 60 := by rw [← ht]; exact Sup.head_size h
  have hu31 : u.data.toList.length = Pk.offs Sup.wL Sup.wL.length := by rw [← htu, Sup.wL_offs]; simp; omega
  have hD := fun (x : Option Addr) (cx : Nat) (W : World) (h : RowI .i64 W x 11 (fun j => Sup.wL.getD j 0)) => refDecode_any u Sup.wL (by have : u.data.toList.length = 31 := hu31.trans Sup.wL_offs; unfold maxLen; simp at this; have e : u.size = u.data.size := rfl; omega) (by decide) x cx W h
  have hfit := Pk.dec_fit Sup.wL_ok hu31
  unfold DecAns at hD
  rw [Pk.decE_yes Sup.wL_ok hu31, hL, show Sup.wL.length = 11 from rfl] at hD
  rw [show [l0, l1, l2, l3, l4, l5, l6, l7, l8, l9, l10].length = 11 from rfl] at hD
  rw [hL] at hfit
  have w3 : IntKind.i64.wrap (l3 : Int) = (l3 : Int) := by have := Pk.fit_at hfit (j := 3) (by decide); have : l3 < 256 ^ Pk.wd Sup.wL 3 := this; have : l3 < 256 ^ 1 := this; rw [IntKind.wrap_i64]; omega
  have w4 : IntKind.i64.wrap (l4 : Int) = (l4 : Int) := by have := Pk.fit_at hfit (j := 4) (by decide); have : l4 < 256 ^ Pk.wd Sup.wL 4 := this; have : l4 < 256 ^ 1 := this; rw [IntKind.wrap_i64]; omega
  have w5 : IntKind.i64.wrap (l5 : Int) = (l5 : Int) := by have := Pk.fit_at hfit (j := 5) (by decide); have : l5 < 256 ^ Pk.wd Sup.wL 5 := this; have : l5 < 256 ^ 1 := this; rw [IntKind.wrap_i64]; omega
  have w6 : IntKind.i64.wrap (l6 : Int) = (l6 : Int) := by have := Pk.fit_at hfit (j := 6) (by decide); have : l6 < 256 ^ Pk.wd Sup.wL 6 := this; have : l6 < 256 ^ 2 := this; rw [IntKind.wrap_i64]; omega
  have w8 : IntKind.i64.wrap (l8 : Int) = (l8 : Int) := by have := Pk.fit_at hfit (j := 8) (by decide); have : l8 < 256 ^ Pk.wd Sup.wL 8 := this; have : l8 < 256 ^ 2 := this; rw [IntKind.wrap_i64]; omega
  have w9 : IntKind.i64.wrap (l9 : Int) = (l9 : Int) := by have := Pk.fit_at hfit (j := 9) (by decide); have : l9 < 256 ^ Pk.wd Sup.wL 9 := this; have : l9 < 256 ^ 1 := this; rw [IntKind.wrap_i64]; omega
  have w10 : IntKind.i64.wrap (l10 : Int) = (l10 : Int) := by have := Pk.fit_at hfit (j := 10) (by decide); have : l10 < 256 ^ Pk.wd Sup.wL 10 := this; have : l10 < 256 ^ 2 := this; rw [IntKind.wrap_i64]; omega
  have h1 : ((b.size : Int) != 64) = false := by rw [bne_eq_false_iff_eq]; omega
  have tsi : (t.size : Int) = 60 := by omega
  have HMX : Hid (Tryz.prog.follows .mixedOrders = true) := by show _ = _; kernel_rfl
  have HW := rWidths_any
  have HD : Hid _ := hD
  have HE := fun W => rEncode8_any ⟨l1, l2, (l3 : Int), (l4 : Int), (l5 : Int), (l6 : Int), cl, (l8 : Int), (l9 : Int), (l10 : Int)⟩ hI W
  have h2 : ((l0 : Int) != 827610706) = false := by rw [hf]; rfl
  rw [show Sup.encE ⟨l1, l2, (l3 : Int), (l4 : Int), (l5 : Int), (l6 : Int), cl, (l8 : Int), (l9 : Int), (l10 : Int)⟩ = 1 by simp [Sup.encE, hx], show Sup.encT ⟨l1, l2, (l3 : Int), (l4 : Int), (l5 : Int), (l6 : Int), cl, (l8 : Int), (l9 : Int), (l10 : Int)⟩ = ⟨#[]⟩ by simp [Sup.encT, hx]] at HE
  clear hx
  unfold supV at HE
  dsimp only at HE
  unfold noSup
  clear h ho ht hL hf hI hu31 hfit hD ts
  go_enter Tryz.func56, Tryz.ntmps56
  go_wp2_with fail
  refine (HO _).mono ?_
  rintro e w1 ⟨rfl, hb1⟩
  obtain ⟨hp1, hb⟩ := rsup_cells hb1
  have HB1 : Hid (Below w.heap.size w w1) := hb
  have HP1 : Hid _ := hp1
  have lt1 : w.heap.size < w1.heap.size := (Array.getElem?_eq_some_iff.1 hp1).1
  clear hb1 hp1 hb
  go_wp2_with fail
  refine wp_region_held (S := fun _ => True) HMX.out ?_
  have hS0 : (fun _ : World => True) w1.drew := trivial
  change wpAnyH _ _ _ _ _ _ _ _ w1.drew
  refine held_quiet 0 (v := ?v0q8) rfl (by kernel_rfl) (fun _ _ _ h => h) (by assumption) rfl ?hy0q8 ?rest0q8
  case hy0q8 => (intro wS hSw; (try dsimp only at hSw); go_simp; try with_reducible rfl)
  try simp only [Act.put, List.setIfInBounds_toArray, List.set_cons_zero, List.set_cons_succ]
  refine held_quiet 1 (v := ?v1q9) rfl (by kernel_rfl) (fun _ _ _ h => h) (by assumption) rfl ?hy1q9 ?rest1q9
  case hy1q9 => (intro wS hSw; (try dsimp only at hSw); go_simp; try with_reducible rfl)
  try simp only [Act.put, List.setIfInBounds_toArray, List.set_cons_zero, List.set_cons_succ]
  refine held_one 2 rfl (by kernel_rfl) ?_
  go_wp2_with fail
  refine (HW _).mono ?_
  rintro e w2 ⟨rfl, rw2, hb2⟩
  have hb2 : Below w1.heap.size w1 w2 := (Below.refl _ w1).drew.trans hb2
  have HB2 : Hid (Below w1.heap.size w1 w2) := hb2
  have hE := HD.out _ 11 _ rw2
  clear rw2 hb2 HD
  go_wp2
  try refine ⟨trivial, ?_⟩
  refine held_one 3 rfl (by kernel_rfl) ?_
  go_wp2_with fail
  refine hE.mono ?_
  rintro e w3 ⟨n0, cn, rfl, rn, hb3⟩
  have HB3 : Hid (Below w1.heap.size w1 w3) := HB2.out.trans (hb3.mono HB2.out.size)
  clear hE hb3
  obtain ⟨nb, no, en, q0⟩ := rn 0 (by decide)
  subst en
  have hnc : ∀ j, j < 11 → w3.cell? ⟨nb, no + j, none⟩ = some (.int .u64 (([l0, l1, l2, l3, l4, l5, l6, l7, l8, l9, l10].getD j 0 : Nat) : Int)) := by
    intro j hj
    obtain ⟨b', o', e, hc⟩ := rn j hj
    simp only [Option.some.injEq, Addr.mk.injEq, and_true] at e
    obtain ⟨rfl, rfl⟩ := e
    exact hc
  have n0 := hnc 0 (by decide)
  have n1 := hnc 1 (by decide)
  have n2 := hnc 2 (by decide)
  have n3 := hnc 3 (by decide)
  have n4 := hnc 4 (by decide)
  have n5 := hnc 5 (by decide)
  have n6 := hnc 6 (by decide)
  have n7 := hnc 7 (by decide)
  have n8 := hnc 8 (by decide)
  have n9 := hnc 9 (by decide)
  have n10 := hnc 10 (by decide)
  simp only [Nat.add_zero, List.getD_cons_zero, List.getD_cons_succ] at n0 n1 n2 n3 n4 n5 n6 n7 n8 n9 n10
  have HP3 : Hid _ := (HB3.out.block _ lt1).trans HP1.out
  have HQ3 : Hid (Below w.heap.size w w3) := HB1.out.trans (HB3.out.mono (Nat.le_of_lt lt1))
  have lt3 : w.heap.size < w3.heap.size := Nat.lt_of_lt_of_le lt1 HB3.out.size
  clear rn q0 hnc HB1 HB2 HB3 HP1
  go_wp2
  try refine ⟨trivial, ?_⟩
  refine held_quiet 4 (v := ?v4q10) rfl (by kernel_rfl) (fun _ _ _ h => h) (by assumption) rfl ?hy4q10 ?rest4q10
  case hy4q10 => (intro wS hSw; (try dsimp only at hSw); go_simp; try with_reducible rfl)
  try simp only [Act.put, List.setIfInBounds_toArray, List.set_cons_zero, List.set_cons_succ]
  refine held_quiet 5 (v := ?v5q11) rfl (by kernel_rfl) (fun _ _ _ h => h) (by assumption) rfl ?hy5q11 ?rest5q11
  case hy5q11 => (intro wS hSw; (try dsimp only at hSw); go_simp; try with_reducible rfl)
  try simp only [Act.put, List.setIfInBounds_toArray, List.set_cons_zero, List.set_cons_succ]
  refine held_quiet 6 (v := ?v6q12) rfl (by kernel_rfl) (fun _ _ _ h => h) (by assumption) rfl ?hy6q12 ?rest6q12
  case hy6q12 => (intro wS hSw; (try dsimp only at hSw); go_simp; try with_reducible rfl)
  try simp only [Act.put, List.setIfInBounds_toArray, List.set_cons_zero, List.set_cons_succ]
  refine held_quiet 7 (v := ?v7q13) rfl (by kernel_rfl) (fun _ _ _ h => h) (by assumption) rfl ?hy7q13 ?rest7q13
  case hy7q13 => (intro wS hSw; (try dsimp only at hSw); go_simp; try with_reducible rfl)
  try simp only [Act.put, List.setIfInBounds_toArray, List.set_cons_zero, List.set_cons_succ]
  refine held_quiet 8 (v := ?v8q14) rfl (by kernel_rfl) (fun _ _ _ h => h) (by assumption) rfl ?hy8q14 ?rest8q14
  case hy8q14 => (intro wS hSw; (try dsimp only at hSw); go_simp; try with_reducible rfl)
  try simp only [Act.put, List.setIfInBounds_toArray, List.set_cons_zero, List.set_cons_succ]
  refine held_done (by kernel_rfl) ?_
  go_wp2_with fail
  refine wp_region_held (S := fun W => W.cell? ⟨nb, no + 1, none⟩ = some (.int .u64 (l1 : Int)) ∧ W.cell? ⟨nb, no + 2, none⟩ = some (.int .u64 (l2 : Int)) ∧ W.cell? ⟨nb, no + 3, none⟩ = some (.int .u64 (l3 : Int)) ∧ W.cell? ⟨nb, no + 4, none⟩ = some (.int .u64 (l4 : Int)) ∧ W.cell? ⟨nb, no + 5, none⟩ = some (.int .u64 (l5 : Int)) ∧ W.cell? ⟨nb, no + 6, none⟩ = some (.int .u64 (l6 : Int)) ∧ W.cell? ⟨nb, no + 7, none⟩ = some (.int .u64 (l7 : Int)) ∧ W.cell? ⟨nb, no + 8, none⟩ = some (.int .u64 (l8 : Int)) ∧ W.cell? ⟨nb, no + 9, none⟩ = some (.int .u64 (l9 : Int)) ∧ W.cell? ⟨nb, no + 10, none⟩ = some (.int .u64 (l10 : Int))) HMX.out ?_
  have hS1 : (fun W : World => W.cell? ⟨nb, no + 1, none⟩ = some (.int .u64 (l1 : Int)) ∧ W.cell? ⟨nb, no + 2, none⟩ = some (.int .u64 (l2 : Int)) ∧ W.cell? ⟨nb, no + 3, none⟩ = some (.int .u64 (l3 : Int)) ∧ W.cell? ⟨nb, no + 4, none⟩ = some (.int .u64 (l4 : Int)) ∧ W.cell? ⟨nb, no + 5, none⟩ = some (.int .u64 (l5 : Int)) ∧ W.cell? ⟨nb, no + 6, none⟩ = some (.int .u64 (l6 : Int)) ∧ W.cell? ⟨nb, no + 7, none⟩ = some (.int .u64 (l7 : Int)) ∧ W.cell? ⟨nb, no + 8, none⟩ = some (.int .u64 (l8 : Int)) ∧ W.cell? ⟨nb, no + 9, none⟩ = some (.int .u64 (l9 : Int)) ∧ W.cell? ⟨nb, no + 10, none⟩ = some (.int .u64 (l10 : Int))) w3.drew := ⟨n1, n2, n3, n4, n5, n6, n7, n8, n9, n10⟩
  change wpAnyH _ _ _ _ _ _ _ _ w3.drew
  refine held_quiet 0 (v := ?v0q15) rfl (by kernel_rfl) (fun _ _ _ h => h) (by assumption) rfl ?hy0q15 ?rest0q15
  case hy0q15 => (intro wS hSw; (try dsimp only at hSw); go_simp; try with_reducible rfl)
  try simp only [Act.put, List.setIfInBounds_toArray, List.set_cons_zero, List.set_cons_succ]
  refine held_quiet 1 (v := ?v1q16) rfl (by kernel_rfl) (fun _ _ _ h => h) (by assumption) rfl ?hy1q16 ?rest1q16
  case hy1q16 => (intro wS hSw; (try dsimp only at hSw); go_simp; try with_reducible rfl)
  try simp only [Act.put, List.setIfInBounds_toArray, List.set_cons_zero, List.set_cons_succ]
  refine held_quiet 2 (v := ?v2q17) rfl (by kernel_rfl) (fun _ _ _ h => h) (by assumption) rfl ?hy2q17 ?rest2q17
  case hy2q17 => (intro wS hSw; (try dsimp only at hSw); go_simp; try with_reducible rfl)
  try simp only [Act.put, List.setIfInBounds_toArray, List.set_cons_zero, List.set_cons_succ]
  refine held_quiet 3 (v := ?v3q18) rfl (by kernel_rfl) (fun _ _ _ h => h) (by assumption) rfl ?hy3q18 ?rest3q18
  case hy3q18 => (intro wS hSw; (try dsimp only at hSw); go_simp; try with_reducible rfl)
  try simp only [Act.put, List.setIfInBounds_toArray, List.set_cons_zero, List.set_cons_succ]
  refine held_quiet 4 (v := ?v4q19) rfl (by kernel_rfl) (fun _ _ _ h => h) (by assumption) rfl ?hy4q19 ?rest4q19
  case hy4q19 => (intro wS hSw; (try dsimp only at hSw); go_simp; try with_reducible rfl)
  try simp only [Act.put, List.setIfInBounds_toArray, List.set_cons_zero, List.set_cons_succ]
  refine held_quiet 5 (v := ?v5q20) rfl (by kernel_rfl) (fun _ _ _ h => h) (by assumption) rfl ?hy5q20 ?rest5q20
  case hy5q20 => (intro wS hSw; (try dsimp only at hSw); go_simp; try with_reducible rfl)
  try simp only [Act.put, List.setIfInBounds_toArray, List.set_cons_zero, List.set_cons_succ]
  refine held_quiet 6 (v := ?v6q21) rfl (by kernel_rfl) (fun _ _ _ h => h) (by assumption) rfl ?hy6q21 ?rest6q21
  case hy6q21 => (intro wS hSw; (try dsimp only at hSw); go_simp; try with_reducible rfl)
  try simp only [Act.put, List.setIfInBounds_toArray, List.set_cons_zero, List.set_cons_succ]
  refine held_quiet 7 (v := ?v7q22) rfl (by kernel_rfl) (fun _ _ _ h => h) (by assumption) rfl ?hy7q22 ?rest7q22
  case hy7q22 => (intro wS hSw; (try dsimp only at hSw); go_simp; try with_reducible rfl)
  try simp only [Act.put, List.setIfInBounds_toArray, List.set_cons_zero, List.set_cons_succ]
  refine held_quiet 8 (v := ?v8q23) rfl (by kernel_rfl) (fun _ _ _ h => h) (by assumption) rfl ?hy8q23 ?rest8q23
  case hy8q23 => (intro wS hSw; (try dsimp only at hSw); go_simp; try with_reducible rfl)
  try simp only [Act.put, List.setIfInBounds_toArray, List.set_cons_zero, List.set_cons_succ]
  refine held_quiet 9 (v := ?v9q24) rfl (by kernel_rfl) (fun _ _ _ h => h) (by assumption) rfl ?hy9q24 ?rest9q24
  case hy9q24 => (intro wS hSw; (try dsimp only at hSw); go_simp; try with_reducible rfl)
  try simp only [Act.put, List.setIfInBounds_toArray, List.set_cons_zero, List.set_cons_succ]
  refine held_quiet 10 (v := ?v10q25) rfl (by kernel_rfl) (fun _ _ _ h => h) (by assumption) rfl ?hy10q25 ?rest10q25
  case hy10q25 => (intro wS hSw; (try dsimp only at hSw); go_simp; try with_reducible rfl)
  try simp only [Act.put, List.setIfInBounds_toArray, List.set_cons_zero, List.set_cons_succ]
  refine held_quiet 11 (v := ?v11q26) rfl (by kernel_rfl) (fun _ _ _ h => h) (by assumption) rfl ?hy11q26 ?rest11q26
  case hy11q26 => (intro wS hSw; (try dsimp only at hSw); go_simp; try with_reducible rfl)
  try simp only [Act.put, List.setIfInBounds_toArray, List.set_cons_zero, List.set_cons_succ]
  refine held_quiet 12 (v := ?v12q27) rfl (by kernel_rfl) (fun _ _ _ h => h) (by assumption) rfl ?hy12q27 ?rest12q27
  case hy12q27 => (intro wS hSw; (try dsimp only at hSw); go_simp; try with_reducible rfl)
  try simp only [Act.put, List.setIfInBounds_toArray, List.set_cons_zero, List.set_cons_succ]
  refine held_quiet 13 (v := ?v13q28) rfl (by kernel_rfl) (fun _ _ _ h => h) (by assumption) rfl ?hy13q28 ?rest13q28
  case hy13q28 => (intro wS hSw; (try dsimp only at hSw); go_simp; try with_reducible rfl)
  try simp only [Act.put, List.setIfInBounds_toArray, List.set_cons_zero, List.set_cons_succ]
  refine held_quiet 14 (v := ?v14q29) rfl (by kernel_rfl) (fun _ _ _ h => h) (by assumption) rfl ?hy14q29 ?rest14q29
  case hy14q29 => (intro wS hSw; (try dsimp only at hSw); go_simp; try with_reducible rfl)
  try simp only [Act.put, List.setIfInBounds_toArray, List.set_cons_zero, List.set_cons_succ]
  refine held_quiet 15 (v := ?v15q30) rfl (by kernel_rfl) (fun _ _ _ h => h) (by assumption) rfl ?hy15q30 ?rest15q30
  case hy15q30 => (intro wS hSw; (try dsimp only at hSw); go_simp; try with_reducible rfl)
  try simp only [Act.put, List.setIfInBounds_toArray, List.set_cons_zero, List.set_cons_succ]
  refine held_quiet 16 (v := ?v16q31) rfl (by kernel_rfl) (fun _ _ _ h => h) (by assumption) rfl ?hy16q31 ?rest16q31
  case hy16q31 => (intro wS hSw; (try dsimp only at hSw); go_simp; try with_reducible rfl)
  try simp only [Act.put, List.setIfInBounds_toArray, List.set_cons_zero, List.set_cons_succ]
  refine held_quiet 17 (v := ?v17q32) rfl (by kernel_rfl) (fun _ _ _ h => h) (by assumption) rfl ?hy17q32 ?rest17q32
  case hy17q32 => (intro wS hSw; (try dsimp only at hSw); go_simp; try with_reducible rfl)
  try simp only [Act.put, List.setIfInBounds_toArray, List.set_cons_zero, List.set_cons_succ]
  refine held_quiet 18 (v := ?v18q33) rfl (by kernel_rfl) (fun _ _ _ h => h) (by assumption) rfl ?hy18q33 ?rest18q33
  case hy18q33 => (intro wS hSw; (try dsimp only at hSw); go_simp; try with_reducible rfl)
  try simp only [Act.put, List.setIfInBounds_toArray, List.set_cons_zero, List.set_cons_succ]
  refine held_quiet 19 (v := ?v19q34) rfl (by kernel_rfl) (fun _ _ _ h => h) (by assumption) rfl ?hy19q34 ?rest19q34
  case hy19q34 => (intro wS hSw; (try dsimp only at hSw); go_simp; try with_reducible rfl)
  try simp only [Act.put, List.setIfInBounds_toArray, List.set_cons_zero, List.set_cons_succ]
  refine held_quiet 20 (v := ?v20q35) rfl (by kernel_rfl) (fun _ _ _ h => h) (by assumption) rfl ?hy20q35 ?rest20q35
  case hy20q35 => (intro wS hSw; (try dsimp only at hSw); go_simp; try with_reducible rfl)
  try simp only [Act.put, List.setIfInBounds_toArray, List.set_cons_zero, List.set_cons_succ]
  refine held_quiet 21 (v := ?v21q36) rfl (by kernel_rfl) (fun _ _ _ h => h) (by assumption) rfl ?hy21q36 ?rest21q36
  case hy21q36 => (intro wS hSw; (try dsimp only at hSw); go_simp; try with_reducible rfl)
  try simp only [Act.put, List.setIfInBounds_toArray, List.set_cons_zero, List.set_cons_succ]
  refine held_quiet 22 (v := ?v22q37) rfl (by kernel_rfl) (fun _ _ _ h => h) (by assumption) rfl ?hy22q37 ?rest22q37
  case hy22q37 => (intro wS hSw; (try dsimp only at hSw); go_simp; try with_reducible rfl)
  try simp only [Act.put, List.setIfInBounds_toArray, List.set_cons_zero, List.set_cons_succ]
  refine held_quiet 23 (v := ?v23q38) rfl (by kernel_rfl) (fun _ _ _ h => h) (by assumption) rfl ?hy23q38 ?rest23q38
  case hy23q38 => (intro wS hSw; (try dsimp only at hSw); go_simp; try with_reducible rfl)
  try simp only [Act.put, List.setIfInBounds_toArray, List.set_cons_zero, List.set_cons_succ]
  refine held_quiet 24 (v := ?v24q39) rfl (by kernel_rfl) (fun _ _ _ h => h) (by assumption) rfl ?hy24q39 ?rest24q39
  case hy24q39 => (intro wS hSw; (try dsimp only at hSw); go_simp; try with_reducible rfl)
  try simp only [Act.put, List.setIfInBounds_toArray, List.set_cons_zero, List.set_cons_succ]
  refine held_quiet 25 (v := ?v25q40) rfl (by kernel_rfl) (fun _ _ _ h => h) (by assumption) rfl ?hy25q40 ?rest25q40
  case hy25q40 => (intro wS hSw; (try dsimp only at hSw); go_simp; try with_reducible rfl)
  try simp only [Act.put, List.setIfInBounds_toArray, List.set_cons_zero, List.set_cons_succ]
  refine held_quiet 26 (v := ?v26q41) rfl (by kernel_rfl) (fun _ _ _ h => h) (by assumption) rfl ?hy26q41 ?rest26q41
  case hy26q41 => (intro wS hSw; (try dsimp only at hSw); go_simp; try with_reducible rfl)
  try simp only [Act.put, List.setIfInBounds_toArray, List.set_cons_zero, List.set_cons_succ]
  refine held_quiet 27 (v := ?v27q42) rfl (by kernel_rfl) (fun _ _ _ h => h) (by assumption) rfl ?hy27q42 ?rest27q42
  case hy27q42 => (intro wS hSw; (try dsimp only at hSw); go_simp; try with_reducible rfl)
  try simp only [Act.put, List.setIfInBounds_toArray, List.set_cons_zero, List.set_cons_succ]
  refine held_quiet 28 (v := ?v28q43) rfl (by kernel_rfl) (fun _ _ _ h => h) (by assumption) rfl ?hy28q43 ?rest28q43
  case hy28q43 => (intro wS hSw; (try dsimp only at hSw); go_simp; try with_reducible rfl)
  try simp only [Act.put, List.setIfInBounds_toArray, List.set_cons_zero, List.set_cons_succ]
  refine held_quiet 29 (v := ?v29q44) rfl (by kernel_rfl) (fun _ _ _ h => h) (by assumption) rfl ?hy29q44 ?rest29q44
  case hy29q44 => (intro wS hSw; (try dsimp only at hSw); go_simp; try with_reducible rfl)
  try simp only [Act.put, List.setIfInBounds_toArray, List.set_cons_zero, List.set_cons_succ]
  refine held_quiet 30 (v := ?v30q45) rfl (by kernel_rfl) (fun _ _ _ h => h) (by assumption) rfl ?hy30q45 ?rest30q45
  case hy30q45 => (intro wS hSw; (try dsimp only at hSw); go_simp; try with_reducible rfl)
  try simp only [Act.put, List.setIfInBounds_toArray, List.set_cons_zero, List.set_cons_succ]
  refine held_quiet 31 (v := ?v31q46) rfl (by kernel_rfl) (fun _ _ _ h => h) (by assumption) rfl ?hy31q46 ?rest31q46
  case hy31q46 => (intro wS hSw; (try dsimp only at hSw); go_simp; try with_reducible rfl)
  try simp only [Act.put, List.setIfInBounds_toArray, List.set_cons_zero, List.set_cons_succ]
  refine held_quiet 32 (v := ?v32q47) rfl (by kernel_rfl) (fun _ _ _ h => h) (by assumption) rfl ?hy32q47 ?rest32q47
  case hy32q47 => (intro wS hSw; (try dsimp only at hSw); go_simp; try with_reducible rfl)
  try simp only [Act.put, List.setIfInBounds_toArray, List.set_cons_zero, List.set_cons_succ]
  refine held_quiet 33 (v := ?v33q48) rfl (by kernel_rfl) (fun _ _ _ h => h) (by assumption) rfl ?hy33q48 ?rest33q48
  case hy33q48 => (intro wS hSw; (try dsimp only at hSw); go_simp; try with_reducible rfl)
  try simp only [Act.put, List.setIfInBounds_toArray, List.set_cons_zero, List.set_cons_succ]
  refine held_quiet 34 (v := ?v34q49) rfl (by kernel_rfl) (fun _ _ _ h => h) (by assumption) rfl ?hy34q49 ?rest34q49
  case hy34q49 => (intro wS hSw; (try dsimp only at hSw); go_simp; try with_reducible rfl)
  try simp only [Act.put, List.setIfInBounds_toArray, List.set_cons_zero, List.set_cons_succ]
  refine held_quiet 35 (v := ?v35q50) rfl (by kernel_rfl) (fun _ _ _ h => h) (by assumption) rfl ?hy35q50 ?rest35q50
  case hy35q50 => (intro wS hSw; (try dsimp only at hSw); go_simp; try with_reducible rfl)
  try simp only [Act.put, List.setIfInBounds_toArray, List.set_cons_zero, List.set_cons_succ]
  refine held_quiet 36 (v := ?v36q51) rfl (by kernel_rfl) (fun _ _ _ h => h) (by assumption) rfl ?hy36q51 ?rest36q51
  case hy36q51 => (intro wS hSw; (try dsimp only at hSw); go_simp; try with_reducible rfl)
  try simp only [Act.put, List.setIfInBounds_toArray, List.set_cons_zero, List.set_cons_succ]
  refine held_quiet 37 (v := ?v37q52) rfl (by kernel_rfl) (fun _ _ _ h => h) (by assumption) rfl ?hy37q52 ?rest37q52
  case hy37q52 => (intro wS hSw; (try dsimp only at hSw); go_simp; try with_reducible rfl)
  try simp only [Act.put, List.setIfInBounds_toArray, List.set_cons_zero, List.set_cons_succ]
  refine held_quiet 38 (v := ?v38q53) rfl (by kernel_rfl) (fun _ _ _ h => h) (by assumption) rfl ?hy38q53 ?rest38q53
  case hy38q53 => (intro wS hSw; (try dsimp only at hSw); go_simp; try with_reducible rfl)
  try simp only [Act.put, List.setIfInBounds_toArray, List.set_cons_zero, List.set_cons_succ]
  refine held_quiet 39 (v := ?v39q54) rfl (by kernel_rfl) (fun _ _ _ h => h) (by assumption) rfl ?hy39q54 ?rest39q54
  case hy39q54 => (intro wS hSw; (try dsimp only at hSw); go_simp; try with_reducible rfl)
  try simp only [Act.put, List.setIfInBounds_toArray, List.set_cons_zero, List.set_cons_succ]
  refine held_one 40 rfl (by kernel_rfl) ?_
  go_wp2
  have sA : ∀ (O : Obj) j v, w3.cell? ⟨nb, j, none⟩ = some v → (w3.alloc O).cell? ⟨nb, j, none⟩ = some v := fun O j v h => (((Below.refl _ w3).alloc (Nat.le_refl _) O).cell (p := ⟨nb, j, none⟩) (World.block_lt_of_cell? w3 _ h)).trans h
  try refine ⟨⟨sA _ _ _ n1, sA _ _ _ n2, sA _ _ _ n3, sA _ _ _ n4, sA _ _ _ n5, sA _ _ _ n6, sA _ _ _ n7, sA _ _ _ n8, sA _ _ _ n9, sA _ _ _ n10⟩, ?_⟩
  refine held_one 41 rfl (by kernel_rfl) ?_
  go_wp2
  try refine ⟨⟨sA _ _ _ n1, sA _ _ _ n2, sA _ _ _ n3, sA _ _ _ n4, sA _ _ _ n5, sA _ _ _ n6, sA _ _ _ n7, sA _ _ _ n8, sA _ _ _ n9, sA _ _ _ n10⟩, ?_⟩
  refine held_done (by kernel_rfl) ?_
  have szA : (w3.alloc (Obj.cells #[.int .u64 (l1 : Int), .int .u64 (l2 : Int), .int .i64 (l3 : Int), .int .i64 (l4 : Int), .int .i64 (l5 : Int), .int .i64 (l6 : Int), .bool cl, .int .i64 (l8 : Int), .int .i64 (l9 : Int), .int .i64 (l10 : Int)] 39)).heap.size = w3.heap.size + 1 := World.size_alloc ..
  have HQA : Hid ((w3.alloc (Obj.cells #[.int .u64 (l1 : Int), .int .u64 (l2 : Int), .int .i64 (l3 : Int), .int .i64 (l4 : Int), .int .i64 (l5 : Int), .int .i64 (l6 : Int), .bool cl, .int .i64 (l8 : Int), .int .i64 (l9 : Int), .int .i64 (l10 : Int)] 39)).heap[w3.heap.size]? = some (Obj.cells #[.int .u64 (l1 : Int), .int .u64 (l2 : Int), .int .i64 (l3 : Int), .int .i64 (l4 : Int), .int .i64 (l5 : Int), .int .i64 (l6 : Int), .bool cl, .int .i64 (l8 : Int), .int .i64 (l9 : Int), .int .i64 (l10 : Int)] 39)) := heap_new w3 _
  have HPA : Hid _ := (Below.heap_alloc w3 (Obj.cells #[.int .u64 (l1 : Int), .int .u64 (l2 : Int), .int .i64 (l3 : Int), .int .i64 (l4 : Int), .int .i64 (l5 : Int), .int .i64 (l6 : Int), .bool cl, .int .i64 (l8 : Int), .int .i64 (l9 : Int), .int .i64 (l10 : Int)] 39) _ lt3).trans HP3.out
  have HBA : Hid (Below w.heap.size w (w3.alloc (Obj.cells #[.int .u64 (l1 : Int), .int .u64 (l2 : Int), .int .i64 (l3 : Int), .int .i64 (l4 : Int), .int .i64 (l5 : Int), .int .i64 (l6 : Int), .bool cl, .int .i64 (l8 : Int), .int .i64 (l9 : Int), .int .i64 (l10 : Int)] 39))) := HQ3.out.alloc (Nat.le_of_lt lt3) _
  clear n0 n1 n2 n3 n4 n5 n6 n7 n8 n9 n10 hS1 sA
  go_wp2_with fail
  refine (HE _).mono ?_
  rintro e w4 ⟨rfl, hb4⟩
  have hb4 : Below (w3.alloc (Obj.cells #[.int .u64 (l1 : Int), .int .u64 (l2 : Int), .int .i64 (l3 : Int), .int .i64 (l4 : Int), .int .i64 (l5 : Int), .int .i64 (l6 : Int), .bool cl, .int .i64 (l8 : Int), .int .i64 (l9 : Int), .int .i64 (l10 : Int)] 39)).heap.size (w3.alloc (Obj.cells #[.int .u64 (l1 : Int), .int .u64 (l2 : Int), .int .i64 (l3 : Int), .int .i64 (l4 : Int), .int .i64 (l5 : Int), .int .i64 (l6 : Int), .bool cl, .int .i64 (l8 : Int), .int .i64 (l9 : Int), .int .i64 (l10 : Int)] 39)) w4 := (Below.refl _ (w3.alloc (Obj.cells #[.int .u64 (l1 : Int), .int .u64 (l2 : Int), .int .i64 (l3 : Int), .int .i64 (l4 : Int), .int .i64 (l5 : Int), .int .i64 (l6 : Int), .bool cl, .int .i64 (l8 : Int), .int .i64 (l9 : Int), .int .i64 (l10 : Int)] 39))).drew.trans hb4
  have hp4 := (hb4.block w.heap.size (by rw [szA]; omega)).trans HPA.out
  have hq4 := (hb4.block w3.heap.size (by rw [szA]; omega)).trans HQA.out
  have HP4 : Hid _ := hp4
  have HB4 : Hid (Below w.heap.size w w4) := HBA.out.trans (hb4.mono (by rw [szA]; omega))
  have c0 := Go.Joins.cell_of_block hp4 0
  have c1 := Go.Joins.cell_of_block hp4 1
  have c2 := Go.Joins.cell_of_block hp4 2
  have c3 := Go.Joins.cell_of_block hp4 3
  have c4 := Go.Joins.cell_of_block hp4 4
  have c5 := Go.Joins.cell_of_block hp4 5
  have c6 := Go.Joins.cell_of_block hp4 6
  have c7 := Go.Joins.cell_of_block hp4 7
  have c8 := Go.Joins.cell_of_block hp4 8
  have c9 := Go.Joins.cell_of_block hp4 9
  simp only [List.getElem?_toArray, List.getElem?_cons_zero, List.getElem?_cons_succ] at c0 c1 c2 c3 c4 c5 c6 c7 c8 c9
  have hfr := Go.Joins.unfrozen_of_block hp4
  have q0 := Go.Joins.cell_of_block hq4 0
  have q1 := Go.Joins.cell_of_block hq4 1
  have q2 := Go.Joins.cell_of_block hq4 2
  have q3 := Go.Joins.cell_of_block hq4 3
  have q4 := Go.Joins.cell_of_block hq4 4
  have q5 := Go.Joins.cell_of_block hq4 5
  have q6 := Go.Joins.cell_of_block hq4 6
  have q7 := Go.Joins.cell_of_block hq4 7
  have q8 := Go.Joins.cell_of_block hq4 8
  have q9 := Go.Joins.cell_of_block hq4 9
  simp only [List.getElem?_toArray, List.getElem?_cons_zero, List.getElem?_cons_succ] at q0 q1 q2 q3 q4 q5 q6 q7 q8 q9
  clear hp4 hq4 hb4 szA HQA HPA HBA
  go_wp2
  obtain ⟨r1, r2⟩ := set_sup HP4.out (.int .u64 0) (.int .u64 0) (.int .i64 0) (.int .i64 0) (.int .i64 0) (.int .i64 0) (.bool false) (.int .i64 0) (.int .i64 0) (.int .i64 0)
  have R2 : Hid (Below w.heap.size w ((((((((((w4.setCell ⟨w.heap.size, 0, none⟩ (.int .u64 0)).setCell ⟨w.heap.size, 1, none⟩ (.int .u64 0)).setCell ⟨w.heap.size, 2, none⟩ (.int .i64 0)).setCell ⟨w.heap.size, 3, none⟩ (.int .i64 0)).setCell ⟨w.heap.size, 4, none⟩ (.int .i64 0)).setCell ⟨w.heap.size, 5, none⟩ (.int .i64 0)).setCell ⟨w.heap.size, 6, none⟩ (.bool false)).setCell ⟨w.heap.size, 7, none⟩ (.int .i64 0)).setCell ⟨w.heap.size, 8, none⟩ (.int .i64 0)).setCell ⟨w.heap.size, 9, none⟩ (.int .i64 0))) := HB4.out.trans r2
  clear r2
  generalize ((((((((((w4.setCell ⟨w.heap.size, 0, none⟩ (.int .u64 0)).setCell ⟨w.heap.size, 1, none⟩ (.int .u64 0)).setCell ⟨w.heap.size, 2, none⟩ (.int .i64 0)).setCell ⟨w.heap.size, 3, none⟩ (.int .i64 0)).setCell ⟨w.heap.size, 4, none⟩ (.int .i64 0)).setCell ⟨w.heap.size, 5, none⟩ (.int .i64 0)).setCell ⟨w.heap.size, 6, none⟩ (.bool false)).setCell ⟨w.heap.size, 7, none⟩ (.int .i64 0)).setCell ⟨w.heap.size, 8, none⟩ (.int .i64 0)).setCell ⟨w.heap.size, 9, none⟩ (.int .i64 0)) = wz at *
  have d0 := Go.Joins.cell_of_block r1 0
  have d1 := Go.Joins.cell_of_block r1 1
  have d2 := Go.Joins.cell_of_block r1 2
  have d3 := Go.Joins.cell_of_block r1 3
  have d4 := Go.Joins.cell_of_block r1 4
  have d5 := Go.Joins.cell_of_block r1 5
  have d6 := Go.Joins.cell_of_block r1 6
  have d7 := Go.Joins.cell_of_block r1 7
  have d8 := Go.Joins.cell_of_block r1 8
  have d9 := Go.Joins.cell_of_block r1 9
  simp only [List.getElem?_toArray, List.getElem?_cons_zero, List.getElem?_cons_succ] at d0 d1 d2 d3 d4 d5 d6 d7 d8 d9
  clear r1
  refine bodyPost_ret (v := .tuple #[.agg #[.int .u64 0, .int .u64 0, .int .i64 0, .int .i64 0, .int .i64 0, .int .i64 0, .bool false, .int .i64 0, .int .i64 0, .int .i64 0], .int .i64 1]) (by simp [results, asAddr]; go_simp; try rfl) rfl ⟨rfl, R2.out⟩
set_option maxRecDepth 100000 in
set_option maxHeartbeats 8000000 in
theorem rDecode8_other (b t u : ByteArray) (h : b.size = 64) (ho : Crc.opens b.data.toList = true) (ht : Crc.headB b = t) (htu : t.extract 0 31 = u) (l0 l1 l2 l3 l4 l5 l6 l7 l8 l9 l10 : Nat) (cl : Bool) (hL : Pk.dec u.data.toList Sup.wL = [l0, l1, l2, l3, l4, l5, l6, l7, l8, l9, l10]) (hcl : ((l7 : Int) == 1) = cl) (hI : Su.In ⟨l1, l2, (l3 : Int), (l4 : Int), (l5 : Int), (l6 : Int), cl, (l8 : Int), (l9 : Int), (l10 : Int)⟩) (hf : l0 = Sup.magic) (hm : Sup.mayB ⟨l1, l2, (l3 : Int), (l4 : Int), (l5 : Int), (l6 : Int), cl, (l8 : Int), (l9 : Int), (l10 : Int)⟩ = true) (hx : Sup.secT ⟨l1, l2, (l3 : Int), (l4 : Int), (l5 : Int), (l6 : Int), cl, (l8 : Int), (l9 : Int), (l10 : Int)⟩ ≠ b) (w : World) :
    Calls Tryz.prog 56 #[.string b] w fun e w' => e = noSup 1 ∧ Below w.heap.size w w' := by
  have HO := fun W => refOpen_yes b (by omega) ho W
  rw [ht] at HO
  have ts : t.size = 60 := by rw [← ht]; exact Sup.head_size h
  have hu31 : u.data.toList.length = Pk.offs Sup.wL Sup.wL.length := by rw [← htu, Sup.wL_offs]; simp; omega
  have hD := fun (x : Option Addr) (cx : Nat) (W : World) (h : RowI .i64 W x 11 (fun j => Sup.wL.getD j 0)) => refDecode_any u Sup.wL (by have : u.data.toList.length = 31 := hu31.trans Sup.wL_offs; unfold maxLen; simp at this; have e : u.size = u.data.size := rfl; omega) (by decide) x cx W h
  have hfit := Pk.dec_fit Sup.wL_ok hu31
  unfold DecAns at hD
  rw [Pk.decE_yes Sup.wL_ok hu31, hL, show Sup.wL.length = 11 from rfl] at hD
  rw [show [l0, l1, l2, l3, l4, l5, l6, l7, l8, l9, l10].length = 11 from rfl] at hD
  rw [hL] at hfit
  have w3 : IntKind.i64.wrap (l3 : Int) = (l3 : Int) := by have := Pk.fit_at hfit (j := 3) (by decide); have : l3 < 256 ^ Pk.wd Sup.wL 3 := this; have : l3 < 256 ^ 1 := this; rw [IntKind.wrap_i64]; omega
  have w4 : IntKind.i64.wrap (l4 : Int) = (l4 : Int) := by have := Pk.fit_at hfit (j := 4) (by decide); have : l4 < 256 ^ Pk.wd Sup.wL 4 := this; have : l4 < 256 ^ 1 := this; rw [IntKind.wrap_i64]; omega
  have w5 : IntKind.i64.wrap (l5 : Int) = (l5 : Int) := by have := Pk.fit_at hfit (j := 5) (by decide); have : l5 < 256 ^ Pk.wd Sup.wL 5 := this; have : l5 < 256 ^ 1 := this; rw [IntKind.wrap_i64]; omega
  have w6 : IntKind.i64.wrap (l6 : Int) = (l6 : Int) := by have := Pk.fit_at hfit (j := 6) (by decide); have : l6 < 256 ^ Pk.wd Sup.wL 6 := this; have : l6 < 256 ^ 2 := this; rw [IntKind.wrap_i64]; omega
  have w8 : IntKind.i64.wrap (l8 : Int) = (l8 : Int) := by have := Pk.fit_at hfit (j := 8) (by decide); have : l8 < 256 ^ Pk.wd Sup.wL 8 := this; have : l8 < 256 ^ 2 := this; rw [IntKind.wrap_i64]; omega
  have w9 : IntKind.i64.wrap (l9 : Int) = (l9 : Int) := by have := Pk.fit_at hfit (j := 9) (by decide); have : l9 < 256 ^ Pk.wd Sup.wL 9 := this; have : l9 < 256 ^ 1 := this; rw [IntKind.wrap_i64]; omega
  have w10 : IntKind.i64.wrap (l10 : Int) = (l10 : Int) := by have := Pk.fit_at hfit (j := 10) (by decide); have : l10 < 256 ^ Pk.wd Sup.wL 10 := this; have : l10 < 256 ^ 2 := this; rw [IntKind.wrap_i64]; omega
  have h1 : ((b.size : Int) != 64) = false := by rw [bne_eq_false_iff_eq]; omega
  have tsi : (t.size : Int) = 60 := by omega
  have HMX : Hid (Tryz.prog.follows .mixedOrders = true) := by show _ = _; kernel_rfl
  have HW := rWidths_any
  have HD : Hid _ := hD
  have HE := fun W => rEncode8_any ⟨l1, l2, (l3 : Int), (l4 : Int), (l5 : Int), (l6 : Int), cl, (l8 : Int), (l9 : Int), (l10 : Int)⟩ hI W
  have h2 : ((l0 : Int) != 827610706) = false := by rw [hf]; rfl
  rw [show Sup.encE ⟨l1, l2, (l3 : Int), (l4 : Int), (l5 : Int), (l6 : Int), cl, (l8 : Int), (l9 : Int), (l10 : Int)⟩ = 0 by simp [Sup.encE, hm], show Sup.encT ⟨l1, l2, (l3 : Int), (l4 : Int), (l5 : Int), (l6 : Int), cl, (l8 : Int), (l9 : Int), (l10 : Int)⟩ = Sup.secT ⟨l1, l2, (l3 : Int), (l4 : Int), (l5 : Int), (l6 : Int), cl, (l8 : Int), (l9 : Int), (l10 : Int)⟩ by simp [Sup.encT, hm]] at HE
  obtain ⟨X, hX⟩ : ∃ X, Sup.secT ⟨l1, l2, (l3 : Int), (l4 : Int), (l5 : Int), (l6 : Int), cl, (l8 : Int), (l9 : Int), (l10 : Int)⟩ = X := ⟨_, rfl⟩
  rw [hX] at HE hx
  have hne : (X.toList == b.toList) = false := by rw [tx_eq]; exact decide_eq_false hx
  clear hm hX hx
  unfold supV at HE
  dsimp only at HE
  unfold noSup
  clear h ho ht hL hf hI hu31 hfit hD ts
  go_enter Tryz.func56, Tryz.ntmps56
  go_wp2_with fail
  refine (HO _).mono ?_
  rintro e w1 ⟨rfl, hb1⟩
  obtain ⟨hp1, hb⟩ := rsup_cells hb1
  have HB1 : Hid (Below w.heap.size w w1) := hb
  have HP1 : Hid _ := hp1
  have lt1 : w.heap.size < w1.heap.size := (Array.getElem?_eq_some_iff.1 hp1).1
  clear hb1 hp1 hb
  go_wp2_with fail
  refine wp_region_held (S := fun _ => True) HMX.out ?_
  have hS0 : (fun _ : World => True) w1.drew := trivial
  change wpAnyH _ _ _ _ _ _ _ _ w1.drew
  refine held_quiet 0 (v := ?v0q55) rfl (by kernel_rfl) (fun _ _ _ h => h) (by assumption) rfl ?hy0q55 ?rest0q55
  case hy0q55 => (intro wS hSw; (try dsimp only at hSw); go_simp; try with_reducible rfl)
  try simp only [Act.put, List.setIfInBounds_toArray, List.set_cons_zero, List.set_cons_succ]
  refine held_quiet 1 (v := ?v1q56) rfl (by kernel_rfl) (fun _ _ _ h => h) (by assumption) rfl ?hy1q56 ?rest1q56
  case hy1q56 => (intro wS hSw; (try dsimp only at hSw); go_simp; try with_reducible rfl)
  try simp only [Act.put, List.setIfInBounds_toArray, List.set_cons_zero, List.set_cons_succ]
  refine held_one 2 rfl (by kernel_rfl) ?_
  go_wp2_with fail
  refine (HW _).mono ?_
  rintro e w2 ⟨rfl, rw2, hb2⟩
  have hb2 : Below w1.heap.size w1 w2 := (Below.refl _ w1).drew.trans hb2
  have HB2 : Hid (Below w1.heap.size w1 w2) := hb2
  have hE := HD.out _ 11 _ rw2
  clear rw2 hb2 HD
  go_wp2
  try refine ⟨trivial, ?_⟩
  refine held_one 3 rfl (by kernel_rfl) ?_
  go_wp2_with fail
  refine hE.mono ?_
  rintro e w3 ⟨n0, cn, rfl, rn, hb3⟩
  have HB3 : Hid (Below w1.heap.size w1 w3) := HB2.out.trans (hb3.mono HB2.out.size)
  clear hE hb3
  obtain ⟨nb, no, en, q0⟩ := rn 0 (by decide)
  subst en
  have hnc : ∀ j, j < 11 → w3.cell? ⟨nb, no + j, none⟩ = some (.int .u64 (([l0, l1, l2, l3, l4, l5, l6, l7, l8, l9, l10].getD j 0 : Nat) : Int)) := by
    intro j hj
    obtain ⟨b', o', e, hc⟩ := rn j hj
    simp only [Option.some.injEq, Addr.mk.injEq, and_true] at e
    obtain ⟨rfl, rfl⟩ := e
    exact hc
  have n0 := hnc 0 (by decide)
  have n1 := hnc 1 (by decide)
  have n2 := hnc 2 (by decide)
  have n3 := hnc 3 (by decide)
  have n4 := hnc 4 (by decide)
  have n5 := hnc 5 (by decide)
  have n6 := hnc 6 (by decide)
  have n7 := hnc 7 (by decide)
  have n8 := hnc 8 (by decide)
  have n9 := hnc 9 (by decide)
  have n10 := hnc 10 (by decide)
  simp only [Nat.add_zero, List.getD_cons_zero, List.getD_cons_succ] at n0 n1 n2 n3 n4 n5 n6 n7 n8 n9 n10
  have HP3 : Hid _ := (HB3.out.block _ lt1).trans HP1.out
  have HQ3 : Hid (Below w.heap.size w w3) := HB1.out.trans (HB3.out.mono (Nat.le_of_lt lt1))
  have lt3 : w.heap.size < w3.heap.size := Nat.lt_of_lt_of_le lt1 HB3.out.size
  clear rn q0 hnc HB1 HB2 HB3 HP1
  go_wp2
  try refine ⟨trivial, ?_⟩
  refine held_quiet 4 (v := ?v4q57) rfl (by kernel_rfl) (fun _ _ _ h => h) (by assumption) rfl ?hy4q57 ?rest4q57
  case hy4q57 => (intro wS hSw; (try dsimp only at hSw); go_simp; try with_reducible rfl)
  try simp only [Act.put, List.setIfInBounds_toArray, List.set_cons_zero, List.set_cons_succ]
  refine held_quiet 5 (v := ?v5q58) rfl (by kernel_rfl) (fun _ _ _ h => h) (by assumption) rfl ?hy5q58 ?rest5q58
  case hy5q58 => (intro wS hSw; (try dsimp only at hSw); go_simp; try with_reducible rfl)
  try simp only [Act.put, List.setIfInBounds_toArray, List.set_cons_zero, List.set_cons_succ]
  refine held_quiet 6 (v := ?v6q59) rfl (by kernel_rfl) (fun _ _ _ h => h) (by assumption) rfl ?hy6q59 ?rest6q59
  case hy6q59 => (intro wS hSw; (try dsimp only at hSw); go_simp; try with_reducible rfl)
  try simp only [Act.put, List.setIfInBounds_toArray, List.set_cons_zero, List.set_cons_succ]
  refine held_quiet 7 (v := ?v7q60) rfl (by kernel_rfl) (fun _ _ _ h => h) (by assumption) rfl ?hy7q60 ?rest7q60
  case hy7q60 => (intro wS hSw; (try dsimp only at hSw); go_simp; try with_reducible rfl)
  try simp only [Act.put, List.setIfInBounds_toArray, List.set_cons_zero, List.set_cons_succ]
  refine held_quiet 8 (v := ?v8q61) rfl (by kernel_rfl) (fun _ _ _ h => h) (by assumption) rfl ?hy8q61 ?rest8q61
  case hy8q61 => (intro wS hSw; (try dsimp only at hSw); go_simp; try with_reducible rfl)
  try simp only [Act.put, List.setIfInBounds_toArray, List.set_cons_zero, List.set_cons_succ]
  refine held_done (by kernel_rfl) ?_
  go_wp2_with fail
  refine wp_region_held (S := fun W => W.cell? ⟨nb, no + 1, none⟩ = some (.int .u64 (l1 : Int)) ∧ W.cell? ⟨nb, no + 2, none⟩ = some (.int .u64 (l2 : Int)) ∧ W.cell? ⟨nb, no + 3, none⟩ = some (.int .u64 (l3 : Int)) ∧ W.cell? ⟨nb, no + 4, none⟩ = some (.int .u64 (l4 : Int)) ∧ W.cell? ⟨nb, no + 5, none⟩ = some (.int .u64 (l5 : Int)) ∧ W.cell? ⟨nb, no + 6, none⟩ = some (.int .u64 (l6 : Int)) ∧ W.cell? ⟨nb, no + 7, none⟩ = some (.int .u64 (l7 : Int)) ∧ W.cell? ⟨nb, no + 8, none⟩ = some (.int .u64 (l8 : Int)) ∧ W.cell? ⟨nb, no + 9, none⟩ = some (.int .u64 (l9 : Int)) ∧ W.cell? ⟨nb, no + 10, none⟩ = some (.int .u64 (l10 : Int))) HMX.out ?_
  have hS1 : (fun W : World => W.cell? ⟨nb, no + 1, none⟩ = some (.int .u64 (l1 : Int)) ∧ W.cell? ⟨nb, no + 2, none⟩ = some (.int .u64 (l2 : Int)) ∧ W.cell? ⟨nb, no + 3, none⟩ = some (.int .u64 (l3 : Int)) ∧ W.cell? ⟨nb, no + 4, none⟩ = some (.int .u64 (l4 : Int)) ∧ W.cell? ⟨nb, no + 5, none⟩ = some (.int .u64 (l5 : Int)) ∧ W.cell? ⟨nb, no + 6, none⟩ = some (.int .u64 (l6 : Int)) ∧ W.cell? ⟨nb, no + 7, none⟩ = some (.int .u64 (l7 : Int)) ∧ W.cell? ⟨nb, no + 8, none⟩ = some (.int .u64 (l8 : Int)) ∧ W.cell? ⟨nb, no + 9, none⟩ = some (.int .u64 (l9 : Int)) ∧ W.cell? ⟨nb, no + 10, none⟩ = some (.int .u64 (l10 : Int))) w3.drew := ⟨n1, n2, n3, n4, n5, n6, n7, n8, n9, n10⟩
  change wpAnyH _ _ _ _ _ _ _ _ w3.drew
  refine held_quiet 0 (v := ?v0q62) rfl (by kernel_rfl) (fun _ _ _ h => h) (by assumption) rfl ?hy0q62 ?rest0q62
  case hy0q62 => (intro wS hSw; (try dsimp only at hSw); go_simp; try with_reducible rfl)
  try simp only [Act.put, List.setIfInBounds_toArray, List.set_cons_zero, List.set_cons_succ]
  refine held_quiet 1 (v := ?v1q63) rfl (by kernel_rfl) (fun _ _ _ h => h) (by assumption) rfl ?hy1q63 ?rest1q63
  case hy1q63 => (intro wS hSw; (try dsimp only at hSw); go_simp; try with_reducible rfl)
  try simp only [Act.put, List.setIfInBounds_toArray, List.set_cons_zero, List.set_cons_succ]
  refine held_quiet 2 (v := ?v2q64) rfl (by kernel_rfl) (fun _ _ _ h => h) (by assumption) rfl ?hy2q64 ?rest2q64
  case hy2q64 => (intro wS hSw; (try dsimp only at hSw); go_simp; try with_reducible rfl)
  try simp only [Act.put, List.setIfInBounds_toArray, List.set_cons_zero, List.set_cons_succ]
  refine held_quiet 3 (v := ?v3q65) rfl (by kernel_rfl) (fun _ _ _ h => h) (by assumption) rfl ?hy3q65 ?rest3q65
  case hy3q65 => (intro wS hSw; (try dsimp only at hSw); go_simp; try with_reducible rfl)
  try simp only [Act.put, List.setIfInBounds_toArray, List.set_cons_zero, List.set_cons_succ]
  refine held_quiet 4 (v := ?v4q66) rfl (by kernel_rfl) (fun _ _ _ h => h) (by assumption) rfl ?hy4q66 ?rest4q66
  case hy4q66 => (intro wS hSw; (try dsimp only at hSw); go_simp; try with_reducible rfl)
  try simp only [Act.put, List.setIfInBounds_toArray, List.set_cons_zero, List.set_cons_succ]
  refine held_quiet 5 (v := ?v5q67) rfl (by kernel_rfl) (fun _ _ _ h => h) (by assumption) rfl ?hy5q67 ?rest5q67
  case hy5q67 => (intro wS hSw; (try dsimp only at hSw); go_simp; try with_reducible rfl)
  try simp only [Act.put, List.setIfInBounds_toArray, List.set_cons_zero, List.set_cons_succ]
  refine held_quiet 6 (v := ?v6q68) rfl (by kernel_rfl) (fun _ _ _ h => h) (by assumption) rfl ?hy6q68 ?rest6q68
  case hy6q68 => (intro wS hSw; (try dsimp only at hSw); go_simp; try with_reducible rfl)
  try simp only [Act.put, List.setIfInBounds_toArray, List.set_cons_zero, List.set_cons_succ]
  refine held_quiet 7 (v := ?v7q69) rfl (by kernel_rfl) (fun _ _ _ h => h) (by assumption) rfl ?hy7q69 ?rest7q69
  case hy7q69 => (intro wS hSw; (try dsimp only at hSw); go_simp; try with_reducible rfl)
  try simp only [Act.put, List.setIfInBounds_toArray, List.set_cons_zero, List.set_cons_succ]
  refine held_quiet 8 (v := ?v8q70) rfl (by kernel_rfl) (fun _ _ _ h => h) (by assumption) rfl ?hy8q70 ?rest8q70
  case hy8q70 => (intro wS hSw; (try dsimp only at hSw); go_simp; try with_reducible rfl)
  try simp only [Act.put, List.setIfInBounds_toArray, List.set_cons_zero, List.set_cons_succ]
  refine held_quiet 9 (v := ?v9q71) rfl (by kernel_rfl) (fun _ _ _ h => h) (by assumption) rfl ?hy9q71 ?rest9q71
  case hy9q71 => (intro wS hSw; (try dsimp only at hSw); go_simp; try with_reducible rfl)
  try simp only [Act.put, List.setIfInBounds_toArray, List.set_cons_zero, List.set_cons_succ]
  refine held_quiet 10 (v := ?v10q72) rfl (by kernel_rfl) (fun _ _ _ h => h) (by assumption) rfl ?hy10q72 ?rest10q72
  case hy10q72 => (intro wS hSw; (try dsimp only at hSw); go_simp; try with_reducible rfl)
  try simp only [Act.put, List.setIfInBounds_toArray, List.set_cons_zero, List.set_cons_succ]
  refine held_quiet 11 (v := ?v11q73) rfl (by kernel_rfl) (fun _ _ _ h => h) (by assumption) rfl ?hy11q73 ?rest11q73
  case hy11q73 => (intro wS hSw; (try dsimp only at hSw); go_simp; try with_reducible rfl)
  try simp only [Act.put, List.setIfInBounds_toArray, List.set_cons_zero, List.set_cons_succ]
  refine held_quiet 12 (v := ?v12q74) rfl (by kernel_rfl) (fun _ _ _ h => h) (by assumption) rfl ?hy12q74 ?rest12q74
  case hy12q74 => (intro wS hSw; (try dsimp only at hSw); go_simp; try with_reducible rfl)
  try simp only [Act.put, List.setIfInBounds_toArray, List.set_cons_zero, List.set_cons_succ]
  refine held_quiet 13 (v := ?v13q75) rfl (by kernel_rfl) (fun _ _ _ h => h) (by assumption) rfl ?hy13q75 ?rest13q75
  case hy13q75 => (intro wS hSw; (try dsimp only at hSw); go_simp; try with_reducible rfl)
  try simp only [Act.put, List.setIfInBounds_toArray, List.set_cons_zero, List.set_cons_succ]
  refine held_quiet 14 (v := ?v14q76) rfl (by kernel_rfl) (fun _ _ _ h => h) (by assumption) rfl ?hy14q76 ?rest14q76
  case hy14q76 => (intro wS hSw; (try dsimp only at hSw); go_simp; try with_reducible rfl)
  try simp only [Act.put, List.setIfInBounds_toArray, List.set_cons_zero, List.set_cons_succ]
  refine held_quiet 15 (v := ?v15q77) rfl (by kernel_rfl) (fun _ _ _ h => h) (by assumption) rfl ?hy15q77 ?rest15q77
  case hy15q77 => (intro wS hSw; (try dsimp only at hSw); go_simp; try with_reducible rfl)
  try simp only [Act.put, List.setIfInBounds_toArray, List.set_cons_zero, List.set_cons_succ]
  refine held_quiet 16 (v := ?v16q78) rfl (by kernel_rfl) (fun _ _ _ h => h) (by assumption) rfl ?hy16q78 ?rest16q78
  case hy16q78 => (intro wS hSw; (try dsimp only at hSw); go_simp; try with_reducible rfl)
  try simp only [Act.put, List.setIfInBounds_toArray, List.set_cons_zero, List.set_cons_succ]
  refine held_quiet 17 (v := ?v17q79) rfl (by kernel_rfl) (fun _ _ _ h => h) (by assumption) rfl ?hy17q79 ?rest17q79
  case hy17q79 => (intro wS hSw; (try dsimp only at hSw); go_simp; try with_reducible rfl)
  try simp only [Act.put, List.setIfInBounds_toArray, List.set_cons_zero, List.set_cons_succ]
  refine held_quiet 18 (v := ?v18q80) rfl (by kernel_rfl) (fun _ _ _ h => h) (by assumption) rfl ?hy18q80 ?rest18q80
  case hy18q80 => (intro wS hSw; (try dsimp only at hSw); go_simp; try with_reducible rfl)
  try simp only [Act.put, List.setIfInBounds_toArray, List.set_cons_zero, List.set_cons_succ]
  refine held_quiet 19 (v := ?v19q81) rfl (by kernel_rfl) (fun _ _ _ h => h) (by assumption) rfl ?hy19q81 ?rest19q81
  case hy19q81 => (intro wS hSw; (try dsimp only at hSw); go_simp; try with_reducible rfl)
  try simp only [Act.put, List.setIfInBounds_toArray, List.set_cons_zero, List.set_cons_succ]
  refine held_quiet 20 (v := ?v20q82) rfl (by kernel_rfl) (fun _ _ _ h => h) (by assumption) rfl ?hy20q82 ?rest20q82
  case hy20q82 => (intro wS hSw; (try dsimp only at hSw); go_simp; try with_reducible rfl)
  try simp only [Act.put, List.setIfInBounds_toArray, List.set_cons_zero, List.set_cons_succ]
  refine held_quiet 21 (v := ?v21q83) rfl (by kernel_rfl) (fun _ _ _ h => h) (by assumption) rfl ?hy21q83 ?rest21q83
  case hy21q83 => (intro wS hSw; (try dsimp only at hSw); go_simp; try with_reducible rfl)
  try simp only [Act.put, List.setIfInBounds_toArray, List.set_cons_zero, List.set_cons_succ]
  refine held_quiet 22 (v := ?v22q84) rfl (by kernel_rfl) (fun _ _ _ h => h) (by assumption) rfl ?hy22q84 ?rest22q84
  case hy22q84 => (intro wS hSw; (try dsimp only at hSw); go_simp; try with_reducible rfl)
  try simp only [Act.put, List.setIfInBounds_toArray, List.set_cons_zero, List.set_cons_succ]
  refine held_quiet 23 (v := ?v23q85) rfl (by kernel_rfl) (fun _ _ _ h => h) (by assumption) rfl ?hy23q85 ?rest23q85
  case hy23q85 => (intro wS hSw; (try dsimp only at hSw); go_simp; try with_reducible rfl)
  try simp only [Act.put, List.setIfInBounds_toArray, List.set_cons_zero, List.set_cons_succ]
  refine held_quiet 24 (v := ?v24q86) rfl (by kernel_rfl) (fun _ _ _ h => h) (by assumption) rfl ?hy24q86 ?rest24q86
  case hy24q86 => (intro wS hSw; (try dsimp only at hSw); go_simp; try with_reducible rfl)
  try simp only [Act.put, List.setIfInBounds_toArray, List.set_cons_zero, List.set_cons_succ]
  refine held_quiet 25 (v := ?v25q87) rfl (by kernel_rfl) (fun _ _ _ h => h) (by assumption) rfl ?hy25q87 ?rest25q87
  case hy25q87 => (intro wS hSw; (try dsimp only at hSw); go_simp; try with_reducible rfl)
  try simp only [Act.put, List.setIfInBounds_toArray, List.set_cons_zero, List.set_cons_succ]
  refine held_quiet 26 (v := ?v26q88) rfl (by kernel_rfl) (fun _ _ _ h => h) (by assumption) rfl ?hy26q88 ?rest26q88
  case hy26q88 => (intro wS hSw; (try dsimp only at hSw); go_simp; try with_reducible rfl)
  try simp only [Act.put, List.setIfInBounds_toArray, List.set_cons_zero, List.set_cons_succ]
  refine held_quiet 27 (v := ?v27q89) rfl (by kernel_rfl) (fun _ _ _ h => h) (by assumption) rfl ?hy27q89 ?rest27q89
  case hy27q89 => (intro wS hSw; (try dsimp only at hSw); go_simp; try with_reducible rfl)
  try simp only [Act.put, List.setIfInBounds_toArray, List.set_cons_zero, List.set_cons_succ]
  refine held_quiet 28 (v := ?v28q90) rfl (by kernel_rfl) (fun _ _ _ h => h) (by assumption) rfl ?hy28q90 ?rest28q90
  case hy28q90 => (intro wS hSw; (try dsimp only at hSw); go_simp; try with_reducible rfl)
  try simp only [Act.put, List.setIfInBounds_toArray, List.set_cons_zero, List.set_cons_succ]
  refine held_quiet 29 (v := ?v29q91) rfl (by kernel_rfl) (fun _ _ _ h => h) (by assumption) rfl ?hy29q91 ?rest29q91
  case hy29q91 => (intro wS hSw; (try dsimp only at hSw); go_simp; try with_reducible rfl)
  try simp only [Act.put, List.setIfInBounds_toArray, List.set_cons_zero, List.set_cons_succ]
  refine held_quiet 30 (v := ?v30q92) rfl (by kernel_rfl) (fun _ _ _ h => h) (by assumption) rfl ?hy30q92 ?rest30q92
  case hy30q92 => (intro wS hSw; (try dsimp only at hSw); go_simp; try with_reducible rfl)
  try simp only [Act.put, List.setIfInBounds_toArray, List.set_cons_zero, List.set_cons_succ]
  refine held_quiet 31 (v := ?v31q93) rfl (by kernel_rfl) (fun _ _ _ h => h) (by assumption) rfl ?hy31q93 ?rest31q93
  case hy31q93 => (intro wS hSw; (try dsimp only at hSw); go_simp; try with_reducible rfl)
  try simp only [Act.put, List.setIfInBounds_toArray, List.set_cons_zero, List.set_cons_succ]
  refine held_quiet 32 (v := ?v32q94) rfl (by kernel_rfl) (fun _ _ _ h => h) (by assumption) rfl ?hy32q94 ?rest32q94
  case hy32q94 => (intro wS hSw; (try dsimp only at hSw); go_simp; try with_reducible rfl)
  try simp only [Act.put, List.setIfInBounds_toArray, List.set_cons_zero, List.set_cons_succ]
  refine held_quiet 33 (v := ?v33q95) rfl (by kernel_rfl) (fun _ _ _ h => h) (by assumption) rfl ?hy33q95 ?rest33q95
  case hy33q95 => (intro wS hSw; (try dsimp only at hSw); go_simp; try with_reducible rfl)
  try simp only [Act.put, List.setIfInBounds_toArray, List.set_cons_zero, List.set_cons_succ]
  refine held_quiet 34 (v := ?v34q96) rfl (by kernel_rfl) (fun _ _ _ h => h) (by assumption) rfl ?hy34q96 ?rest34q96
  case hy34q96 => (intro wS hSw; (try dsimp only at hSw); go_simp; try with_reducible rfl)
  try simp only [Act.put, List.setIfInBounds_toArray, List.set_cons_zero, List.set_cons_succ]
  refine held_quiet 35 (v := ?v35q97) rfl (by kernel_rfl) (fun _ _ _ h => h) (by assumption) rfl ?hy35q97 ?rest35q97
  case hy35q97 => (intro wS hSw; (try dsimp only at hSw); go_simp; try with_reducible rfl)
  try simp only [Act.put, List.setIfInBounds_toArray, List.set_cons_zero, List.set_cons_succ]
  refine held_quiet 36 (v := ?v36q98) rfl (by kernel_rfl) (fun _ _ _ h => h) (by assumption) rfl ?hy36q98 ?rest36q98
  case hy36q98 => (intro wS hSw; (try dsimp only at hSw); go_simp; try with_reducible rfl)
  try simp only [Act.put, List.setIfInBounds_toArray, List.set_cons_zero, List.set_cons_succ]
  refine held_quiet 37 (v := ?v37q99) rfl (by kernel_rfl) (fun _ _ _ h => h) (by assumption) rfl ?hy37q99 ?rest37q99
  case hy37q99 => (intro wS hSw; (try dsimp only at hSw); go_simp; try with_reducible rfl)
  try simp only [Act.put, List.setIfInBounds_toArray, List.set_cons_zero, List.set_cons_succ]
  refine held_quiet 38 (v := ?v38q100) rfl (by kernel_rfl) (fun _ _ _ h => h) (by assumption) rfl ?hy38q100 ?rest38q100
  case hy38q100 => (intro wS hSw; (try dsimp only at hSw); go_simp; try with_reducible rfl)
  try simp only [Act.put, List.setIfInBounds_toArray, List.set_cons_zero, List.set_cons_succ]
  refine held_quiet 39 (v := ?v39q101) rfl (by kernel_rfl) (fun _ _ _ h => h) (by assumption) rfl ?hy39q101 ?rest39q101
  case hy39q101 => (intro wS hSw; (try dsimp only at hSw); go_simp; try with_reducible rfl)
  try simp only [Act.put, List.setIfInBounds_toArray, List.set_cons_zero, List.set_cons_succ]
  refine held_one 40 rfl (by kernel_rfl) ?_
  go_wp2
  have sA : ∀ (O : Obj) j v, w3.cell? ⟨nb, j, none⟩ = some v → (w3.alloc O).cell? ⟨nb, j, none⟩ = some v := fun O j v h => (((Below.refl _ w3).alloc (Nat.le_refl _) O).cell (p := ⟨nb, j, none⟩) (World.block_lt_of_cell? w3 _ h)).trans h
  try refine ⟨⟨sA _ _ _ n1, sA _ _ _ n2, sA _ _ _ n3, sA _ _ _ n4, sA _ _ _ n5, sA _ _ _ n6, sA _ _ _ n7, sA _ _ _ n8, sA _ _ _ n9, sA _ _ _ n10⟩, ?_⟩
  refine held_one 41 rfl (by kernel_rfl) ?_
  go_wp2
  try refine ⟨⟨sA _ _ _ n1, sA _ _ _ n2, sA _ _ _ n3, sA _ _ _ n4, sA _ _ _ n5, sA _ _ _ n6, sA _ _ _ n7, sA _ _ _ n8, sA _ _ _ n9, sA _ _ _ n10⟩, ?_⟩
  refine held_done (by kernel_rfl) ?_
  have szA : (w3.alloc (Obj.cells #[.int .u64 (l1 : Int), .int .u64 (l2 : Int), .int .i64 (l3 : Int), .int .i64 (l4 : Int), .int .i64 (l5 : Int), .int .i64 (l6 : Int), .bool cl, .int .i64 (l8 : Int), .int .i64 (l9 : Int), .int .i64 (l10 : Int)] 39)).heap.size = w3.heap.size + 1 := World.size_alloc ..
  have HQA : Hid ((w3.alloc (Obj.cells #[.int .u64 (l1 : Int), .int .u64 (l2 : Int), .int .i64 (l3 : Int), .int .i64 (l4 : Int), .int .i64 (l5 : Int), .int .i64 (l6 : Int), .bool cl, .int .i64 (l8 : Int), .int .i64 (l9 : Int), .int .i64 (l10 : Int)] 39)).heap[w3.heap.size]? = some (Obj.cells #[.int .u64 (l1 : Int), .int .u64 (l2 : Int), .int .i64 (l3 : Int), .int .i64 (l4 : Int), .int .i64 (l5 : Int), .int .i64 (l6 : Int), .bool cl, .int .i64 (l8 : Int), .int .i64 (l9 : Int), .int .i64 (l10 : Int)] 39)) := heap_new w3 _
  have HPA : Hid _ := (Below.heap_alloc w3 (Obj.cells #[.int .u64 (l1 : Int), .int .u64 (l2 : Int), .int .i64 (l3 : Int), .int .i64 (l4 : Int), .int .i64 (l5 : Int), .int .i64 (l6 : Int), .bool cl, .int .i64 (l8 : Int), .int .i64 (l9 : Int), .int .i64 (l10 : Int)] 39) _ lt3).trans HP3.out
  have HBA : Hid (Below w.heap.size w (w3.alloc (Obj.cells #[.int .u64 (l1 : Int), .int .u64 (l2 : Int), .int .i64 (l3 : Int), .int .i64 (l4 : Int), .int .i64 (l5 : Int), .int .i64 (l6 : Int), .bool cl, .int .i64 (l8 : Int), .int .i64 (l9 : Int), .int .i64 (l10 : Int)] 39))) := HQ3.out.alloc (Nat.le_of_lt lt3) _
  clear n0 n1 n2 n3 n4 n5 n6 n7 n8 n9 n10 hS1 sA
  go_wp2_with fail
  refine (HE _).mono ?_
  rintro e w4 ⟨rfl, hb4⟩
  have hb4 : Below (w3.alloc (Obj.cells #[.int .u64 (l1 : Int), .int .u64 (l2 : Int), .int .i64 (l3 : Int), .int .i64 (l4 : Int), .int .i64 (l5 : Int), .int .i64 (l6 : Int), .bool cl, .int .i64 (l8 : Int), .int .i64 (l9 : Int), .int .i64 (l10 : Int)] 39)).heap.size (w3.alloc (Obj.cells #[.int .u64 (l1 : Int), .int .u64 (l2 : Int), .int .i64 (l3 : Int), .int .i64 (l4 : Int), .int .i64 (l5 : Int), .int .i64 (l6 : Int), .bool cl, .int .i64 (l8 : Int), .int .i64 (l9 : Int), .int .i64 (l10 : Int)] 39)) w4 := (Below.refl _ (w3.alloc (Obj.cells #[.int .u64 (l1 : Int), .int .u64 (l2 : Int), .int .i64 (l3 : Int), .int .i64 (l4 : Int), .int .i64 (l5 : Int), .int .i64 (l6 : Int), .bool cl, .int .i64 (l8 : Int), .int .i64 (l9 : Int), .int .i64 (l10 : Int)] 39))).drew.trans hb4
  have hp4 := (hb4.block w.heap.size (by rw [szA]; omega)).trans HPA.out
  have hq4 := (hb4.block w3.heap.size (by rw [szA]; omega)).trans HQA.out
  have HP4 : Hid _ := hp4
  have HB4 : Hid (Below w.heap.size w w4) := HBA.out.trans (hb4.mono (by rw [szA]; omega))
  have c0 := Go.Joins.cell_of_block hp4 0
  have c1 := Go.Joins.cell_of_block hp4 1
  have c2 := Go.Joins.cell_of_block hp4 2
  have c3 := Go.Joins.cell_of_block hp4 3
  have c4 := Go.Joins.cell_of_block hp4 4
  have c5 := Go.Joins.cell_of_block hp4 5
  have c6 := Go.Joins.cell_of_block hp4 6
  have c7 := Go.Joins.cell_of_block hp4 7
  have c8 := Go.Joins.cell_of_block hp4 8
  have c9 := Go.Joins.cell_of_block hp4 9
  simp only [List.getElem?_toArray, List.getElem?_cons_zero, List.getElem?_cons_succ] at c0 c1 c2 c3 c4 c5 c6 c7 c8 c9
  have hfr := Go.Joins.unfrozen_of_block hp4
  have q0 := Go.Joins.cell_of_block hq4 0
  have q1 := Go.Joins.cell_of_block hq4 1
  have q2 := Go.Joins.cell_of_block hq4 2
  have q3 := Go.Joins.cell_of_block hq4 3
  have q4 := Go.Joins.cell_of_block hq4 4
  have q5 := Go.Joins.cell_of_block hq4 5
  have q6 := Go.Joins.cell_of_block hq4 6
  have q7 := Go.Joins.cell_of_block hq4 7
  have q8 := Go.Joins.cell_of_block hq4 8
  have q9 := Go.Joins.cell_of_block hq4 9
  simp only [List.getElem?_toArray, List.getElem?_cons_zero, List.getElem?_cons_succ] at q0 q1 q2 q3 q4 q5 q6 q7 q8 q9
  clear hp4 hq4 hb4 szA HQA HPA HBA
  go_wp2
  obtain ⟨r1, r2⟩ := set_sup HP4.out (.int .u64 0) (.int .u64 0) (.int .i64 0) (.int .i64 0) (.int .i64 0) (.int .i64 0) (.bool false) (.int .i64 0) (.int .i64 0) (.int .i64 0)
  have R2 : Hid (Below w.heap.size w ((((((((((w4.setCell ⟨w.heap.size, 0, none⟩ (.int .u64 0)).setCell ⟨w.heap.size, 1, none⟩ (.int .u64 0)).setCell ⟨w.heap.size, 2, none⟩ (.int .i64 0)).setCell ⟨w.heap.size, 3, none⟩ (.int .i64 0)).setCell ⟨w.heap.size, 4, none⟩ (.int .i64 0)).setCell ⟨w.heap.size, 5, none⟩ (.int .i64 0)).setCell ⟨w.heap.size, 6, none⟩ (.bool false)).setCell ⟨w.heap.size, 7, none⟩ (.int .i64 0)).setCell ⟨w.heap.size, 8, none⟩ (.int .i64 0)).setCell ⟨w.heap.size, 9, none⟩ (.int .i64 0))) := HB4.out.trans r2
  clear r2
  generalize ((((((((((w4.setCell ⟨w.heap.size, 0, none⟩ (.int .u64 0)).setCell ⟨w.heap.size, 1, none⟩ (.int .u64 0)).setCell ⟨w.heap.size, 2, none⟩ (.int .i64 0)).setCell ⟨w.heap.size, 3, none⟩ (.int .i64 0)).setCell ⟨w.heap.size, 4, none⟩ (.int .i64 0)).setCell ⟨w.heap.size, 5, none⟩ (.int .i64 0)).setCell ⟨w.heap.size, 6, none⟩ (.bool false)).setCell ⟨w.heap.size, 7, none⟩ (.int .i64 0)).setCell ⟨w.heap.size, 8, none⟩ (.int .i64 0)).setCell ⟨w.heap.size, 9, none⟩ (.int .i64 0)) = wz at *
  have d0 := Go.Joins.cell_of_block r1 0
  have d1 := Go.Joins.cell_of_block r1 1
  have d2 := Go.Joins.cell_of_block r1 2
  have d3 := Go.Joins.cell_of_block r1 3
  have d4 := Go.Joins.cell_of_block r1 4
  have d5 := Go.Joins.cell_of_block r1 5
  have d6 := Go.Joins.cell_of_block r1 6
  have d7 := Go.Joins.cell_of_block r1 7
  have d8 := Go.Joins.cell_of_block r1 8
  have d9 := Go.Joins.cell_of_block r1 9
  simp only [List.getElem?_toArray, List.getElem?_cons_zero, List.getElem?_cons_succ] at d0 d1 d2 d3 d4 d5 d6 d7 d8 d9
  clear r1
  refine bodyPost_ret (v := .tuple #[.agg #[.int .u64 0, .int .u64 0, .int .i64 0, .int .i64 0, .int .i64 0, .int .i64 0, .bool false, .int .i64 0, .int .i64 0, .int .i64 0], .int .i64 1]) (by simp [results, asAddr]; go_simp; try rfl) rfl ⟨rfl, R2.out⟩
set_option maxRecDepth 100000 in
set_option maxHeartbeats 8000000 in
theorem rDecode8_good (b t u : ByteArray) (h : b.size = 64) (ho : Crc.opens b.data.toList = true) (ht : Crc.headB b = t) (htu : t.extract 0 31 = u) (l0 l1 l2 l3 l4 l5 l6 l7 l8 l9 l10 : Nat) (cl : Bool) (hL : Pk.dec u.data.toList Sup.wL = [l0, l1, l2, l3, l4, l5, l6, l7, l8, l9, l10]) (hcl : ((l7 : Int) == 1) = cl) (hI : Su.In ⟨l1, l2, (l3 : Int), (l4 : Int), (l5 : Int), (l6 : Int), cl, (l8 : Int), (l9 : Int), (l10 : Int)⟩) (hf : l0 = Sup.magic) (hm : Sup.mayB ⟨l1, l2, (l3 : Int), (l4 : Int), (l5 : Int), (l6 : Int), cl, (l8 : Int), (l9 : Int), (l10 : Int)⟩ = true) (hx : Sup.secT ⟨l1, l2, (l3 : Int), (l4 : Int), (l5 : Int), (l6 : Int), cl, (l8 : Int), (l9 : Int), (l10 : Int)⟩ = b) (w : World) :
    Calls Tryz.prog 56 #[.string b] w fun e w' => e = .returned (.tuple #[supV ⟨l1, l2, (l3 : Int), (l4 : Int), (l5 : Int), (l6 : Int), cl, (l8 : Int), (l9 : Int), (l10 : Int)⟩, .int .i64 0]) ∧ Below w.heap.size w w' := by
  have HO := fun W => refOpen_yes b (by omega) ho W
  rw [ht] at HO
  have ts : t.size = 60 := by rw [← ht]; exact Sup.head_size h
  have hu31 : u.data.toList.length = Pk.offs Sup.wL Sup.wL.length := by rw [← htu, Sup.wL_offs]; simp; omega
  have hD := fun (x : Option Addr) (cx : Nat) (W : World) (h : RowI .i64 W x 11 (fun j => Sup.wL.getD j 0)) => refDecode_any u Sup.wL (by have : u.data.toList.length = 31 := hu31.trans Sup.wL_offs; unfold maxLen; simp at this; have e : u.size = u.data.size := rfl; omega) (by decide) x cx W h
  have hfit := Pk.dec_fit Sup.wL_ok hu31
  unfold DecAns at hD
  rw [Pk.decE_yes Sup.wL_ok hu31, hL, show Sup.wL.length = 11 from rfl] at hD
  rw [show [l0, l1, l2, l3, l4, l5, l6, l7, l8, l9, l10].length = 11 from rfl] at hD
  rw [hL] at hfit
  have w3 : IntKind.i64.wrap (l3 : Int) = (l3 : Int) := by have := Pk.fit_at hfit (j := 3) (by decide); have : l3 < 256 ^ Pk.wd Sup.wL 3 := this; have : l3 < 256 ^ 1 := this; rw [IntKind.wrap_i64]; omega
  have w4 : IntKind.i64.wrap (l4 : Int) = (l4 : Int) := by have := Pk.fit_at hfit (j := 4) (by decide); have : l4 < 256 ^ Pk.wd Sup.wL 4 := this; have : l4 < 256 ^ 1 := this; rw [IntKind.wrap_i64]; omega
  have w5 : IntKind.i64.wrap (l5 : Int) = (l5 : Int) := by have := Pk.fit_at hfit (j := 5) (by decide); have : l5 < 256 ^ Pk.wd Sup.wL 5 := this; have : l5 < 256 ^ 1 := this; rw [IntKind.wrap_i64]; omega
  have w6 : IntKind.i64.wrap (l6 : Int) = (l6 : Int) := by have := Pk.fit_at hfit (j := 6) (by decide); have : l6 < 256 ^ Pk.wd Sup.wL 6 := this; have : l6 < 256 ^ 2 := this; rw [IntKind.wrap_i64]; omega
  have w8 : IntKind.i64.wrap (l8 : Int) = (l8 : Int) := by have := Pk.fit_at hfit (j := 8) (by decide); have : l8 < 256 ^ Pk.wd Sup.wL 8 := this; have : l8 < 256 ^ 2 := this; rw [IntKind.wrap_i64]; omega
  have w9 : IntKind.i64.wrap (l9 : Int) = (l9 : Int) := by have := Pk.fit_at hfit (j := 9) (by decide); have : l9 < 256 ^ Pk.wd Sup.wL 9 := this; have : l9 < 256 ^ 1 := this; rw [IntKind.wrap_i64]; omega
  have w10 : IntKind.i64.wrap (l10 : Int) = (l10 : Int) := by have := Pk.fit_at hfit (j := 10) (by decide); have : l10 < 256 ^ Pk.wd Sup.wL 10 := this; have : l10 < 256 ^ 2 := this; rw [IntKind.wrap_i64]; omega
  have h1 : ((b.size : Int) != 64) = false := by rw [bne_eq_false_iff_eq]; omega
  have tsi : (t.size : Int) = 60 := by omega
  have HMX : Hid (Tryz.prog.follows .mixedOrders = true) := by show _ = _; kernel_rfl
  have HW := rWidths_any
  have HD : Hid _ := hD
  have HE := fun W => rEncode8_any ⟨l1, l2, (l3 : Int), (l4 : Int), (l5 : Int), (l6 : Int), cl, (l8 : Int), (l9 : Int), (l10 : Int)⟩ hI W
  have h2 : ((l0 : Int) != 827610706) = false := by rw [hf]; rfl
  rw [show Sup.encE ⟨l1, l2, (l3 : Int), (l4 : Int), (l5 : Int), (l6 : Int), cl, (l8 : Int), (l9 : Int), (l10 : Int)⟩ = 0 by simp [Sup.encE, hm], show Sup.encT ⟨l1, l2, (l3 : Int), (l4 : Int), (l5 : Int), (l6 : Int), cl, (l8 : Int), (l9 : Int), (l10 : Int)⟩ = b by simp [Sup.encT, hm, hx]] at HE
  clear hm hx
  unfold supV at HE
  dsimp only at HE
  unfold supV
  dsimp only
  clear h ho ht hL hf hI hu31 hfit hD ts
  go_enter Tryz.func56, Tryz.ntmps56
  go_wp2_with fail
  refine (HO _).mono ?_
  rintro e w1 ⟨rfl, hb1⟩
  obtain ⟨hp1, hb⟩ := rsup_cells hb1
  have HB1 : Hid (Below w.heap.size w w1) := hb
  have HP1 : Hid _ := hp1
  have lt1 : w.heap.size < w1.heap.size := (Array.getElem?_eq_some_iff.1 hp1).1
  clear hb1 hp1 hb
  go_wp2_with fail
  refine wp_region_held (S := fun _ => True) HMX.out ?_
  have hS0 : (fun _ : World => True) w1.drew := trivial
  change wpAnyH _ _ _ _ _ _ _ _ w1.drew
  refine held_quiet 0 (v := ?v0q102) rfl (by kernel_rfl) (fun _ _ _ h => h) (by assumption) rfl ?hy0q102 ?rest0q102
  case hy0q102 => (intro wS hSw; (try dsimp only at hSw); go_simp; try with_reducible rfl)
  try simp only [Act.put, List.setIfInBounds_toArray, List.set_cons_zero, List.set_cons_succ]
  refine held_quiet 1 (v := ?v1q103) rfl (by kernel_rfl) (fun _ _ _ h => h) (by assumption) rfl ?hy1q103 ?rest1q103
  case hy1q103 => (intro wS hSw; (try dsimp only at hSw); go_simp; try with_reducible rfl)
  try simp only [Act.put, List.setIfInBounds_toArray, List.set_cons_zero, List.set_cons_succ]
  refine held_one 2 rfl (by kernel_rfl) ?_
  go_wp2_with fail
  refine (HW _).mono ?_
  rintro e w2 ⟨rfl, rw2, hb2⟩
  have hb2 : Below w1.heap.size w1 w2 := (Below.refl _ w1).drew.trans hb2
  have HB2 : Hid (Below w1.heap.size w1 w2) := hb2
  have hE := HD.out _ 11 _ rw2
  clear rw2 hb2 HD
  go_wp2
  try refine ⟨trivial, ?_⟩
  refine held_one 3 rfl (by kernel_rfl) ?_
  go_wp2_with fail
  refine hE.mono ?_
  rintro e w3 ⟨n0, cn, rfl, rn, hb3⟩
  have HB3 : Hid (Below w1.heap.size w1 w3) := HB2.out.trans (hb3.mono HB2.out.size)
  clear hE hb3
  obtain ⟨nb, no, en, q0⟩ := rn 0 (by decide)
  subst en
  have hnc : ∀ j, j < 11 → w3.cell? ⟨nb, no + j, none⟩ = some (.int .u64 (([l0, l1, l2, l3, l4, l5, l6, l7, l8, l9, l10].getD j 0 : Nat) : Int)) := by
    intro j hj
    obtain ⟨b', o', e, hc⟩ := rn j hj
    simp only [Option.some.injEq, Addr.mk.injEq, and_true] at e
    obtain ⟨rfl, rfl⟩ := e
    exact hc
  have n0 := hnc 0 (by decide)
  have n1 := hnc 1 (by decide)
  have n2 := hnc 2 (by decide)
  have n3 := hnc 3 (by decide)
  have n4 := hnc 4 (by decide)
  have n5 := hnc 5 (by decide)
  have n6 := hnc 6 (by decide)
  have n7 := hnc 7 (by decide)
  have n8 := hnc 8 (by decide)
  have n9 := hnc 9 (by decide)
  have n10 := hnc 10 (by decide)
  simp only [Nat.add_zero, List.getD_cons_zero, List.getD_cons_succ] at n0 n1 n2 n3 n4 n5 n6 n7 n8 n9 n10
  have HP3 : Hid _ := (HB3.out.block _ lt1).trans HP1.out
  have HQ3 : Hid (Below w.heap.size w w3) := HB1.out.trans (HB3.out.mono (Nat.le_of_lt lt1))
  have lt3 : w.heap.size < w3.heap.size := Nat.lt_of_lt_of_le lt1 HB3.out.size
  clear rn q0 hnc HB1 HB2 HB3 HP1
  go_wp2
  try refine ⟨trivial, ?_⟩
  refine held_quiet 4 (v := ?v4q104) rfl (by kernel_rfl) (fun _ _ _ h => h) (by assumption) rfl ?hy4q104 ?rest4q104
  case hy4q104 => (intro wS hSw; (try dsimp only at hSw); go_simp; try with_reducible rfl)
  try simp only [Act.put, List.setIfInBounds_toArray, List.set_cons_zero, List.set_cons_succ]
  refine held_quiet 5 (v := ?v5q105) rfl (by kernel_rfl) (fun _ _ _ h => h) (by assumption) rfl ?hy5q105 ?rest5q105
  case hy5q105 => (intro wS hSw; (try dsimp only at hSw); go_simp; try with_reducible rfl)
  try simp only [Act.put, List.setIfInBounds_toArray, List.set_cons_zero, List.set_cons_succ]
  refine held_quiet 6 (v := ?v6q106) rfl (by kernel_rfl) (fun _ _ _ h => h) (by assumption) rfl ?hy6q106 ?rest6q106
  case hy6q106 => (intro wS hSw; (try dsimp only at hSw); go_simp; try with_reducible rfl)
  try simp only [Act.put, List.setIfInBounds_toArray, List.set_cons_zero, List.set_cons_succ]
  refine held_quiet 7 (v := ?v7q107) rfl (by kernel_rfl) (fun _ _ _ h => h) (by assumption) rfl ?hy7q107 ?rest7q107
  case hy7q107 => (intro wS hSw; (try dsimp only at hSw); go_simp; try with_reducible rfl)
  try simp only [Act.put, List.setIfInBounds_toArray, List.set_cons_zero, List.set_cons_succ]
  refine held_quiet 8 (v := ?v8q108) rfl (by kernel_rfl) (fun _ _ _ h => h) (by assumption) rfl ?hy8q108 ?rest8q108
  case hy8q108 => (intro wS hSw; (try dsimp only at hSw); go_simp; try with_reducible rfl)
  try simp only [Act.put, List.setIfInBounds_toArray, List.set_cons_zero, List.set_cons_succ]
  refine held_done (by kernel_rfl) ?_
  go_wp2_with fail
  refine wp_region_held (S := fun W => W.cell? ⟨nb, no + 1, none⟩ = some (.int .u64 (l1 : Int)) ∧ W.cell? ⟨nb, no + 2, none⟩ = some (.int .u64 (l2 : Int)) ∧ W.cell? ⟨nb, no + 3, none⟩ = some (.int .u64 (l3 : Int)) ∧ W.cell? ⟨nb, no + 4, none⟩ = some (.int .u64 (l4 : Int)) ∧ W.cell? ⟨nb, no + 5, none⟩ = some (.int .u64 (l5 : Int)) ∧ W.cell? ⟨nb, no + 6, none⟩ = some (.int .u64 (l6 : Int)) ∧ W.cell? ⟨nb, no + 7, none⟩ = some (.int .u64 (l7 : Int)) ∧ W.cell? ⟨nb, no + 8, none⟩ = some (.int .u64 (l8 : Int)) ∧ W.cell? ⟨nb, no + 9, none⟩ = some (.int .u64 (l9 : Int)) ∧ W.cell? ⟨nb, no + 10, none⟩ = some (.int .u64 (l10 : Int))) HMX.out ?_
  have hS1 : (fun W : World => W.cell? ⟨nb, no + 1, none⟩ = some (.int .u64 (l1 : Int)) ∧ W.cell? ⟨nb, no + 2, none⟩ = some (.int .u64 (l2 : Int)) ∧ W.cell? ⟨nb, no + 3, none⟩ = some (.int .u64 (l3 : Int)) ∧ W.cell? ⟨nb, no + 4, none⟩ = some (.int .u64 (l4 : Int)) ∧ W.cell? ⟨nb, no + 5, none⟩ = some (.int .u64 (l5 : Int)) ∧ W.cell? ⟨nb, no + 6, none⟩ = some (.int .u64 (l6 : Int)) ∧ W.cell? ⟨nb, no + 7, none⟩ = some (.int .u64 (l7 : Int)) ∧ W.cell? ⟨nb, no + 8, none⟩ = some (.int .u64 (l8 : Int)) ∧ W.cell? ⟨nb, no + 9, none⟩ = some (.int .u64 (l9 : Int)) ∧ W.cell? ⟨nb, no + 10, none⟩ = some (.int .u64 (l10 : Int))) w3.drew := ⟨n1, n2, n3, n4, n5, n6, n7, n8, n9, n10⟩
  change wpAnyH _ _ _ _ _ _ _ _ w3.drew
  refine held_quiet 0 (v := ?v0q109) rfl (by kernel_rfl) (fun _ _ _ h => h) (by assumption) rfl ?hy0q109 ?rest0q109
  case hy0q109 => (intro wS hSw; (try dsimp only at hSw); go_simp; try with_reducible rfl)
  try simp only [Act.put, List.setIfInBounds_toArray, List.set_cons_zero, List.set_cons_succ]
  refine held_quiet 1 (v := ?v1q110) rfl (by kernel_rfl) (fun _ _ _ h => h) (by assumption) rfl ?hy1q110 ?rest1q110
  case hy1q110 => (intro wS hSw; (try dsimp only at hSw); go_simp; try with_reducible rfl)
  try simp only [Act.put, List.setIfInBounds_toArray, List.set_cons_zero, List.set_cons_succ]
  refine held_quiet 2 (v := ?v2q111) rfl (by kernel_rfl) (fun _ _ _ h => h) (by assumption) rfl ?hy2q111 ?rest2q111
  case hy2q111 => (intro wS hSw; (try dsimp only at hSw); go_simp; try with_reducible rfl)
  try simp only [Act.put, List.setIfInBounds_toArray, List.set_cons_zero, List.set_cons_succ]
  refine held_quiet 3 (v := ?v3q112) rfl (by kernel_rfl) (fun _ _ _ h => h) (by assumption) rfl ?hy3q112 ?rest3q112
  case hy3q112 => (intro wS hSw; (try dsimp only at hSw); go_simp; try with_reducible rfl)
  try simp only [Act.put, List.setIfInBounds_toArray, List.set_cons_zero, List.set_cons_succ]
  refine held_quiet 4 (v := ?v4q113) rfl (by kernel_rfl) (fun _ _ _ h => h) (by assumption) rfl ?hy4q113 ?rest4q113
  case hy4q113 => (intro wS hSw; (try dsimp only at hSw); go_simp; try with_reducible rfl)
  try simp only [Act.put, List.setIfInBounds_toArray, List.set_cons_zero, List.set_cons_succ]
  refine held_quiet 5 (v := ?v5q114) rfl (by kernel_rfl) (fun _ _ _ h => h) (by assumption) rfl ?hy5q114 ?rest5q114
  case hy5q114 => (intro wS hSw; (try dsimp only at hSw); go_simp; try with_reducible rfl)
  try simp only [Act.put, List.setIfInBounds_toArray, List.set_cons_zero, List.set_cons_succ]
  refine held_quiet 6 (v := ?v6q115) rfl (by kernel_rfl) (fun _ _ _ h => h) (by assumption) rfl ?hy6q115 ?rest6q115
  case hy6q115 => (intro wS hSw; (try dsimp only at hSw); go_simp; try with_reducible rfl)
  try simp only [Act.put, List.setIfInBounds_toArray, List.set_cons_zero, List.set_cons_succ]
  refine held_quiet 7 (v := ?v7q116) rfl (by kernel_rfl) (fun _ _ _ h => h) (by assumption) rfl ?hy7q116 ?rest7q116
  case hy7q116 => (intro wS hSw; (try dsimp only at hSw); go_simp; try with_reducible rfl)
  try simp only [Act.put, List.setIfInBounds_toArray, List.set_cons_zero, List.set_cons_succ]
  refine held_quiet 8 (v := ?v8q117) rfl (by kernel_rfl) (fun _ _ _ h => h) (by assumption) rfl ?hy8q117 ?rest8q117
  case hy8q117 => (intro wS hSw; (try dsimp only at hSw); go_simp; try with_reducible rfl)
  try simp only [Act.put, List.setIfInBounds_toArray, List.set_cons_zero, List.set_cons_succ]
  refine held_quiet 9 (v := ?v9q118) rfl (by kernel_rfl) (fun _ _ _ h => h) (by assumption) rfl ?hy9q118 ?rest9q118
  case hy9q118 => (intro wS hSw; (try dsimp only at hSw); go_simp; try with_reducible rfl)
  try simp only [Act.put, List.setIfInBounds_toArray, List.set_cons_zero, List.set_cons_succ]
  refine held_quiet 10 (v := ?v10q119) rfl (by kernel_rfl) (fun _ _ _ h => h) (by assumption) rfl ?hy10q119 ?rest10q119
  case hy10q119 => (intro wS hSw; (try dsimp only at hSw); go_simp; try with_reducible rfl)
  try simp only [Act.put, List.setIfInBounds_toArray, List.set_cons_zero, List.set_cons_succ]
  refine held_quiet 11 (v := ?v11q120) rfl (by kernel_rfl) (fun _ _ _ h => h) (by assumption) rfl ?hy11q120 ?rest11q120
  case hy11q120 => (intro wS hSw; (try dsimp only at hSw); go_simp; try with_reducible rfl)
  try simp only [Act.put, List.setIfInBounds_toArray, List.set_cons_zero, List.set_cons_succ]
  refine held_quiet 12 (v := ?v12q121) rfl (by kernel_rfl) (fun _ _ _ h => h) (by assumption) rfl ?hy12q121 ?rest12q121
  case hy12q121 => (intro wS hSw; (try dsimp only at hSw); go_simp; try with_reducible rfl)
  try simp only [Act.put, List.setIfInBounds_toArray, List.set_cons_zero, List.set_cons_succ]
  refine held_quiet 13 (v := ?v13q122) rfl (by kernel_rfl) (fun _ _ _ h => h) (by assumption) rfl ?hy13q122 ?rest13q122
  case hy13q122 => (intro wS hSw; (try dsimp only at hSw); go_simp; try with_reducible rfl)
  try simp only [Act.put, List.setIfInBounds_toArray, List.set_cons_zero, List.set_cons_succ]
  refine held_quiet 14 (v := ?v14q123) rfl (by kernel_rfl) (fun _ _ _ h => h) (by assumption) rfl ?hy14q123 ?rest14q123
  case hy14q123 => (intro wS hSw; (try dsimp only at hSw); go_simp; try with_reducible rfl)
  try simp only [Act.put, List.setIfInBounds_toArray, List.set_cons_zero, List.set_cons_succ]
  refine held_quiet 15 (v := ?v15q124) rfl (by kernel_rfl) (fun _ _ _ h => h) (by assumption) rfl ?hy15q124 ?rest15q124
  case hy15q124 => (intro wS hSw; (try dsimp only at hSw); go_simp; try with_reducible rfl)
  try simp only [Act.put, List.setIfInBounds_toArray, List.set_cons_zero, List.set_cons_succ]
  refine held_quiet 16 (v := ?v16q125) rfl (by kernel_rfl) (fun _ _ _ h => h) (by assumption) rfl ?hy16q125 ?rest16q125
  case hy16q125 => (intro wS hSw; (try dsimp only at hSw); go_simp; try with_reducible rfl)
  try simp only [Act.put, List.setIfInBounds_toArray, List.set_cons_zero, List.set_cons_succ]
  refine held_quiet 17 (v := ?v17q126) rfl (by kernel_rfl) (fun _ _ _ h => h) (by assumption) rfl ?hy17q126 ?rest17q126
  case hy17q126 => (intro wS hSw; (try dsimp only at hSw); go_simp; try with_reducible rfl)
  try simp only [Act.put, List.setIfInBounds_toArray, List.set_cons_zero, List.set_cons_succ]
  refine held_quiet 18 (v := ?v18q127) rfl (by kernel_rfl) (fun _ _ _ h => h) (by assumption) rfl ?hy18q127 ?rest18q127
  case hy18q127 => (intro wS hSw; (try dsimp only at hSw); go_simp; try with_reducible rfl)
  try simp only [Act.put, List.setIfInBounds_toArray, List.set_cons_zero, List.set_cons_succ]
  refine held_quiet 19 (v := ?v19q128) rfl (by kernel_rfl) (fun _ _ _ h => h) (by assumption) rfl ?hy19q128 ?rest19q128
  case hy19q128 => (intro wS hSw; (try dsimp only at hSw); go_simp; try with_reducible rfl)
  try simp only [Act.put, List.setIfInBounds_toArray, List.set_cons_zero, List.set_cons_succ]
  refine held_quiet 20 (v := ?v20q129) rfl (by kernel_rfl) (fun _ _ _ h => h) (by assumption) rfl ?hy20q129 ?rest20q129
  case hy20q129 => (intro wS hSw; (try dsimp only at hSw); go_simp; try with_reducible rfl)
  try simp only [Act.put, List.setIfInBounds_toArray, List.set_cons_zero, List.set_cons_succ]
  refine held_quiet 21 (v := ?v21q130) rfl (by kernel_rfl) (fun _ _ _ h => h) (by assumption) rfl ?hy21q130 ?rest21q130
  case hy21q130 => (intro wS hSw; (try dsimp only at hSw); go_simp; try with_reducible rfl)
  try simp only [Act.put, List.setIfInBounds_toArray, List.set_cons_zero, List.set_cons_succ]
  refine held_quiet 22 (v := ?v22q131) rfl (by kernel_rfl) (fun _ _ _ h => h) (by assumption) rfl ?hy22q131 ?rest22q131
  case hy22q131 => (intro wS hSw; (try dsimp only at hSw); go_simp; try with_reducible rfl)
  try simp only [Act.put, List.setIfInBounds_toArray, List.set_cons_zero, List.set_cons_succ]
  refine held_quiet 23 (v := ?v23q132) rfl (by kernel_rfl) (fun _ _ _ h => h) (by assumption) rfl ?hy23q132 ?rest23q132
  case hy23q132 => (intro wS hSw; (try dsimp only at hSw); go_simp; try with_reducible rfl)
  try simp only [Act.put, List.setIfInBounds_toArray, List.set_cons_zero, List.set_cons_succ]
  refine held_quiet 24 (v := ?v24q133) rfl (by kernel_rfl) (fun _ _ _ h => h) (by assumption) rfl ?hy24q133 ?rest24q133
  case hy24q133 => (intro wS hSw; (try dsimp only at hSw); go_simp; try with_reducible rfl)
  try simp only [Act.put, List.setIfInBounds_toArray, List.set_cons_zero, List.set_cons_succ]
  refine held_quiet 25 (v := ?v25q134) rfl (by kernel_rfl) (fun _ _ _ h => h) (by assumption) rfl ?hy25q134 ?rest25q134
  case hy25q134 => (intro wS hSw; (try dsimp only at hSw); go_simp; try with_reducible rfl)
  try simp only [Act.put, List.setIfInBounds_toArray, List.set_cons_zero, List.set_cons_succ]
  refine held_quiet 26 (v := ?v26q135) rfl (by kernel_rfl) (fun _ _ _ h => h) (by assumption) rfl ?hy26q135 ?rest26q135
  case hy26q135 => (intro wS hSw; (try dsimp only at hSw); go_simp; try with_reducible rfl)
  try simp only [Act.put, List.setIfInBounds_toArray, List.set_cons_zero, List.set_cons_succ]
  refine held_quiet 27 (v := ?v27q136) rfl (by kernel_rfl) (fun _ _ _ h => h) (by assumption) rfl ?hy27q136 ?rest27q136
  case hy27q136 => (intro wS hSw; (try dsimp only at hSw); go_simp; try with_reducible rfl)
  try simp only [Act.put, List.setIfInBounds_toArray, List.set_cons_zero, List.set_cons_succ]
  refine held_quiet 28 (v := ?v28q137) rfl (by kernel_rfl) (fun _ _ _ h => h) (by assumption) rfl ?hy28q137 ?rest28q137
  case hy28q137 => (intro wS hSw; (try dsimp only at hSw); go_simp; try with_reducible rfl)
  try simp only [Act.put, List.setIfInBounds_toArray, List.set_cons_zero, List.set_cons_succ]
  refine held_quiet 29 (v := ?v29q138) rfl (by kernel_rfl) (fun _ _ _ h => h) (by assumption) rfl ?hy29q138 ?rest29q138
  case hy29q138 => (intro wS hSw; (try dsimp only at hSw); go_simp; try with_reducible rfl)
  try simp only [Act.put, List.setIfInBounds_toArray, List.set_cons_zero, List.set_cons_succ]
  refine held_quiet 30 (v := ?v30q139) rfl (by kernel_rfl) (fun _ _ _ h => h) (by assumption) rfl ?hy30q139 ?rest30q139
  case hy30q139 => (intro wS hSw; (try dsimp only at hSw); go_simp; try with_reducible rfl)
  try simp only [Act.put, List.setIfInBounds_toArray, List.set_cons_zero, List.set_cons_succ]
  refine held_quiet 31 (v := ?v31q140) rfl (by kernel_rfl) (fun _ _ _ h => h) (by assumption) rfl ?hy31q140 ?rest31q140
  case hy31q140 => (intro wS hSw; (try dsimp only at hSw); go_simp; try with_reducible rfl)
  try simp only [Act.put, List.setIfInBounds_toArray, List.set_cons_zero, List.set_cons_succ]
  refine held_quiet 32 (v := ?v32q141) rfl (by kernel_rfl) (fun _ _ _ h => h) (by assumption) rfl ?hy32q141 ?rest32q141
  case hy32q141 => (intro wS hSw; (try dsimp only at hSw); go_simp; try with_reducible rfl)
  try simp only [Act.put, List.setIfInBounds_toArray, List.set_cons_zero, List.set_cons_succ]
  refine held_quiet 33 (v := ?v33q142) rfl (by kernel_rfl) (fun _ _ _ h => h) (by assumption) rfl ?hy33q142 ?rest33q142
  case hy33q142 => (intro wS hSw; (try dsimp only at hSw); go_simp; try with_reducible rfl)
  try simp only [Act.put, List.setIfInBounds_toArray, List.set_cons_zero, List.set_cons_succ]
  refine held_quiet 34 (v := ?v34q143) rfl (by kernel_rfl) (fun _ _ _ h => h) (by assumption) rfl ?hy34q143 ?rest34q143
  case hy34q143 => (intro wS hSw; (try dsimp only at hSw); go_simp; try with_reducible rfl)
  try simp only [Act.put, List.setIfInBounds_toArray, List.set_cons_zero, List.set_cons_succ]
  refine held_quiet 35 (v := ?v35q144) rfl (by kernel_rfl) (fun _ _ _ h => h) (by assumption) rfl ?hy35q144 ?rest35q144
  case hy35q144 => (intro wS hSw; (try dsimp only at hSw); go_simp; try with_reducible rfl)
  try simp only [Act.put, List.setIfInBounds_toArray, List.set_cons_zero, List.set_cons_succ]
  refine held_quiet 36 (v := ?v36q145) rfl (by kernel_rfl) (fun _ _ _ h => h) (by assumption) rfl ?hy36q145 ?rest36q145
  case hy36q145 => (intro wS hSw; (try dsimp only at hSw); go_simp; try with_reducible rfl)
  try simp only [Act.put, List.setIfInBounds_toArray, List.set_cons_zero, List.set_cons_succ]
  refine held_quiet 37 (v := ?v37q146) rfl (by kernel_rfl) (fun _ _ _ h => h) (by assumption) rfl ?hy37q146 ?rest37q146
  case hy37q146 => (intro wS hSw; (try dsimp only at hSw); go_simp; try with_reducible rfl)
  try simp only [Act.put, List.setIfInBounds_toArray, List.set_cons_zero, List.set_cons_succ]
  refine held_quiet 38 (v := ?v38q147) rfl (by kernel_rfl) (fun _ _ _ h => h) (by assumption) rfl ?hy38q147 ?rest38q147
  case hy38q147 => (intro wS hSw; (try dsimp only at hSw); go_simp; try with_reducible rfl)
  try simp only [Act.put, List.setIfInBounds_toArray, List.set_cons_zero, List.set_cons_succ]
  refine held_quiet 39 (v := ?v39q148) rfl (by kernel_rfl) (fun _ _ _ h => h) (by assumption) rfl ?hy39q148 ?rest39q148
  case hy39q148 => (intro wS hSw; (try dsimp only at hSw); go_simp; try with_reducible rfl)
  try simp only [Act.put, List.setIfInBounds_toArray, List.set_cons_zero, List.set_cons_succ]
  refine held_one 40 rfl (by kernel_rfl) ?_
  go_wp2
  have sA : ∀ (O : Obj) j v, w3.cell? ⟨nb, j, none⟩ = some v → (w3.alloc O).cell? ⟨nb, j, none⟩ = some v := fun O j v h => (((Below.refl _ w3).alloc (Nat.le_refl _) O).cell (p := ⟨nb, j, none⟩) (World.block_lt_of_cell? w3 _ h)).trans h
  try refine ⟨⟨sA _ _ _ n1, sA _ _ _ n2, sA _ _ _ n3, sA _ _ _ n4, sA _ _ _ n5, sA _ _ _ n6, sA _ _ _ n7, sA _ _ _ n8, sA _ _ _ n9, sA _ _ _ n10⟩, ?_⟩
  refine held_one 41 rfl (by kernel_rfl) ?_
  go_wp2
  try refine ⟨⟨sA _ _ _ n1, sA _ _ _ n2, sA _ _ _ n3, sA _ _ _ n4, sA _ _ _ n5, sA _ _ _ n6, sA _ _ _ n7, sA _ _ _ n8, sA _ _ _ n9, sA _ _ _ n10⟩, ?_⟩
  refine held_done (by kernel_rfl) ?_
  have szA : (w3.alloc (Obj.cells #[.int .u64 (l1 : Int), .int .u64 (l2 : Int), .int .i64 (l3 : Int), .int .i64 (l4 : Int), .int .i64 (l5 : Int), .int .i64 (l6 : Int), .bool cl, .int .i64 (l8 : Int), .int .i64 (l9 : Int), .int .i64 (l10 : Int)] 39)).heap.size = w3.heap.size + 1 := World.size_alloc ..
  have HQA : Hid ((w3.alloc (Obj.cells #[.int .u64 (l1 : Int), .int .u64 (l2 : Int), .int .i64 (l3 : Int), .int .i64 (l4 : Int), .int .i64 (l5 : Int), .int .i64 (l6 : Int), .bool cl, .int .i64 (l8 : Int), .int .i64 (l9 : Int), .int .i64 (l10 : Int)] 39)).heap[w3.heap.size]? = some (Obj.cells #[.int .u64 (l1 : Int), .int .u64 (l2 : Int), .int .i64 (l3 : Int), .int .i64 (l4 : Int), .int .i64 (l5 : Int), .int .i64 (l6 : Int), .bool cl, .int .i64 (l8 : Int), .int .i64 (l9 : Int), .int .i64 (l10 : Int)] 39)) := heap_new w3 _
  have HPA : Hid _ := (Below.heap_alloc w3 (Obj.cells #[.int .u64 (l1 : Int), .int .u64 (l2 : Int), .int .i64 (l3 : Int), .int .i64 (l4 : Int), .int .i64 (l5 : Int), .int .i64 (l6 : Int), .bool cl, .int .i64 (l8 : Int), .int .i64 (l9 : Int), .int .i64 (l10 : Int)] 39) _ lt3).trans HP3.out
  have HBA : Hid (Below w.heap.size w (w3.alloc (Obj.cells #[.int .u64 (l1 : Int), .int .u64 (l2 : Int), .int .i64 (l3 : Int), .int .i64 (l4 : Int), .int .i64 (l5 : Int), .int .i64 (l6 : Int), .bool cl, .int .i64 (l8 : Int), .int .i64 (l9 : Int), .int .i64 (l10 : Int)] 39))) := HQ3.out.alloc (Nat.le_of_lt lt3) _
  clear n0 n1 n2 n3 n4 n5 n6 n7 n8 n9 n10 hS1 sA
  go_wp2_with fail
  refine (HE _).mono ?_
  rintro e w4 ⟨rfl, hb4⟩
  have hb4 : Below (w3.alloc (Obj.cells #[.int .u64 (l1 : Int), .int .u64 (l2 : Int), .int .i64 (l3 : Int), .int .i64 (l4 : Int), .int .i64 (l5 : Int), .int .i64 (l6 : Int), .bool cl, .int .i64 (l8 : Int), .int .i64 (l9 : Int), .int .i64 (l10 : Int)] 39)).heap.size (w3.alloc (Obj.cells #[.int .u64 (l1 : Int), .int .u64 (l2 : Int), .int .i64 (l3 : Int), .int .i64 (l4 : Int), .int .i64 (l5 : Int), .int .i64 (l6 : Int), .bool cl, .int .i64 (l8 : Int), .int .i64 (l9 : Int), .int .i64 (l10 : Int)] 39)) w4 := (Below.refl _ (w3.alloc (Obj.cells #[.int .u64 (l1 : Int), .int .u64 (l2 : Int), .int .i64 (l3 : Int), .int .i64 (l4 : Int), .int .i64 (l5 : Int), .int .i64 (l6 : Int), .bool cl, .int .i64 (l8 : Int), .int .i64 (l9 : Int), .int .i64 (l10 : Int)] 39))).drew.trans hb4
  have hp4 := (hb4.block w.heap.size (by rw [szA]; omega)).trans HPA.out
  have hq4 := (hb4.block w3.heap.size (by rw [szA]; omega)).trans HQA.out
  have HP4 : Hid _ := hp4
  have HB4 : Hid (Below w.heap.size w w4) := HBA.out.trans (hb4.mono (by rw [szA]; omega))
  have c0 := Go.Joins.cell_of_block hp4 0
  have c1 := Go.Joins.cell_of_block hp4 1
  have c2 := Go.Joins.cell_of_block hp4 2
  have c3 := Go.Joins.cell_of_block hp4 3
  have c4 := Go.Joins.cell_of_block hp4 4
  have c5 := Go.Joins.cell_of_block hp4 5
  have c6 := Go.Joins.cell_of_block hp4 6
  have c7 := Go.Joins.cell_of_block hp4 7
  have c8 := Go.Joins.cell_of_block hp4 8
  have c9 := Go.Joins.cell_of_block hp4 9
  simp only [List.getElem?_toArray, List.getElem?_cons_zero, List.getElem?_cons_succ] at c0 c1 c2 c3 c4 c5 c6 c7 c8 c9
  have hfr := Go.Joins.unfrozen_of_block hp4
  have q0 := Go.Joins.cell_of_block hq4 0
  have q1 := Go.Joins.cell_of_block hq4 1
  have q2 := Go.Joins.cell_of_block hq4 2
  have q3 := Go.Joins.cell_of_block hq4 3
  have q4 := Go.Joins.cell_of_block hq4 4
  have q5 := Go.Joins.cell_of_block hq4 5
  have q6 := Go.Joins.cell_of_block hq4 6
  have q7 := Go.Joins.cell_of_block hq4 7
  have q8 := Go.Joins.cell_of_block hq4 8
  have q9 := Go.Joins.cell_of_block hq4 9
  simp only [List.getElem?_toArray, List.getElem?_cons_zero, List.getElem?_cons_succ] at q0 q1 q2 q3 q4 q5 q6 q7 q8 q9
  clear hp4 hq4 hb4 szA HQA HPA HBA
  go_wp2
  obtain ⟨r1, r2⟩ := set_sup HP4.out (.int .u64 (l1 : Int)) (.int .u64 (l2 : Int)) (.int .i64 (l3 : Int)) (.int .i64 (l4 : Int)) (.int .i64 (l5 : Int)) (.int .i64 (l6 : Int)) (.bool cl) (.int .i64 (l8 : Int)) (.int .i64 (l9 : Int)) (.int .i64 (l10 : Int))
  have R2 : Hid (Below w.heap.size w ((((((((((w4.setCell ⟨w.heap.size, 0, none⟩ (.int .u64 (l1 : Int))).setCell ⟨w.heap.size, 1, none⟩ (.int .u64 (l2 : Int))).setCell ⟨w.heap.size, 2, none⟩ (.int .i64 (l3 : Int))).setCell ⟨w.heap.size, 3, none⟩ (.int .i64 (l4 : Int))).setCell ⟨w.heap.size, 4, none⟩ (.int .i64 (l5 : Int))).setCell ⟨w.heap.size, 5, none⟩ (.int .i64 (l6 : Int))).setCell ⟨w.heap.size, 6, none⟩ (.bool cl)).setCell ⟨w.heap.size, 7, none⟩ (.int .i64 (l8 : Int))).setCell ⟨w.heap.size, 8, none⟩ (.int .i64 (l9 : Int))).setCell ⟨w.heap.size, 9, none⟩ (.int .i64 (l10 : Int)))) := HB4.out.trans r2
  clear r2
  generalize ((((((((((w4.setCell ⟨w.heap.size, 0, none⟩ (.int .u64 (l1 : Int))).setCell ⟨w.heap.size, 1, none⟩ (.int .u64 (l2 : Int))).setCell ⟨w.heap.size, 2, none⟩ (.int .i64 (l3 : Int))).setCell ⟨w.heap.size, 3, none⟩ (.int .i64 (l4 : Int))).setCell ⟨w.heap.size, 4, none⟩ (.int .i64 (l5 : Int))).setCell ⟨w.heap.size, 5, none⟩ (.int .i64 (l6 : Int))).setCell ⟨w.heap.size, 6, none⟩ (.bool cl)).setCell ⟨w.heap.size, 7, none⟩ (.int .i64 (l8 : Int))).setCell ⟨w.heap.size, 8, none⟩ (.int .i64 (l9 : Int))).setCell ⟨w.heap.size, 9, none⟩ (.int .i64 (l10 : Int))) = wz at *
  have d0 := Go.Joins.cell_of_block r1 0
  have d1 := Go.Joins.cell_of_block r1 1
  have d2 := Go.Joins.cell_of_block r1 2
  have d3 := Go.Joins.cell_of_block r1 3
  have d4 := Go.Joins.cell_of_block r1 4
  have d5 := Go.Joins.cell_of_block r1 5
  have d6 := Go.Joins.cell_of_block r1 6
  have d7 := Go.Joins.cell_of_block r1 7
  have d8 := Go.Joins.cell_of_block r1 8
  have d9 := Go.Joins.cell_of_block r1 9
  simp only [List.getElem?_toArray, List.getElem?_cons_zero, List.getElem?_cons_succ] at d0 d1 d2 d3 d4 d5 d6 d7 d8 d9
  clear r1
  refine bodyPost_ret (v := .tuple #[.agg #[.int .u64 (l1 : Int), .int .u64 (l2 : Int), .int .i64 (l3 : Int), .int .i64 (l4 : Int), .int .i64 (l5 : Int), .int .i64 (l6 : Int), .bool cl, .int .i64 (l8 : Int), .int .i64 (l9 : Int), .int .i64 (l10 : Int)], .int .i64 0]) (by simp [results, asAddr]; go_simp; try rfl) rfl ⟨rfl, R2.out⟩
theorem list11 {α : Type} {l : List α} (h : l.length = 11) : ∃ a b c d e f g i j k m, l = [a, b, c, d, e, f, g, i, j, k, m] := by
  match l, h with
  | [a, b, c, d, e, f, g, i, j, k, m], _ => exact ⟨a, b, c, d, e, f, g, i, j, k, m, rfl⟩
theorem rDecode8_any (b : ByteArray) (w : World) :
    Calls Tryz.prog 56 #[.string b] w fun e w' => e = .returned (.tuple #[supV (Sup.decS b), .int .i64 (Sup.decE b)]) ∧ Below w.heap.size w w' := by
  by_cases h : b.size = 64
  case neg => rw [noSup_eq (Sup.decE_short h) (by decide)]; exact rDecode8_short b h w
  cases ho : Crc.opens b.data.toList
  case false => rw [noSup_eq (Sup.decE_sum h ho) (by decide)]; exact rDecode8_sum b h ho w
  obtain ⟨t, ht⟩ : ∃ t, Crc.headB b = t := ⟨_, rfl⟩
  obtain ⟨u, hu⟩ : ∃ u, t.extract 0 31 = u := ⟨_, rfl⟩
  have hut : u.data.toList = b.data.toList.take 31 := by rw [← hu, ← ht]; exact Sup.head_take h
  have hlen : (Pk.dec u.data.toList Sup.wL).length = 11 := Pk.dec_length Sup.wL_ok (by rw [Sup.wL_offs, hut, List.length_take]; have : b.data.toList.length = 64 := (by simpa using h); omega)
  obtain ⟨l0, l1, l2, l3, l4, l5, l6, l7, l8, l9, l10, hL⟩ := list11 hlen
  have hL' : Pk.dec (b.data.toList.take 31) Sup.wL = [l0, l1, l2, l3, l4, l5, l6, l7, l8, l9, l10] := by rw [← hut]; exact hL
  have eF : Sup.first b = l0 := by unfold Sup.first; rw [hL']; rfl
  obtain ⟨cl, hcl⟩ : ∃ cl, ((l7 : Int) == 1) = cl := ⟨_, rfl⟩
  have eT : Sup.told b = ⟨l1, l2, (l3 : Int), (l4 : Int), (l5 : Int), (l6 : Int), cl, (l8 : Int), (l9 : Int), (l10 : Int)⟩ := by unfold Sup.told; rw [hL', ← hcl, Sup.cast_one]; rfl
  have hI : Su.In ⟨l1, l2, (l3 : Int), (l4 : Int), (l5 : Int), (l6 : Int), cl, (l8 : Int), (l9 : Int), (l10 : Int)⟩ := by rw [← eT]; exact Sup.told_in h
  by_cases hf : Sup.first b = Sup.magic
  case neg => rw [noSup_eq (Sup.decE_magic h ho hf) (by decide)]; exact rDecode8_magic b t u h ho ht hu l0 l1 l2 l3 l4 l5 l6 l7 l8 l9 l10 hL (by rw [← eF]; exact hf) w
  have hf0 : l0 = Sup.magic := by rw [← eF]; exact hf
  cases hm : Sup.mayB (Sup.told b)
  case false => rw [noSup_eq (Sup.decE_arg h ho hf hm) (by decide)]; exact rDecode8_arg b t u h ho ht hu l0 l1 l2 l3 l4 l5 l6 l7 l8 l9 l10 cl hL hcl hI hf0 (by rw [← eT]; exact hm) w
  by_cases hx : Sup.secT (Sup.told b) = b
  case neg => rw [noSup_eq (Sup.decE_other h ho hf hx) (by decide)]; exact rDecode8_other b t u h ho ht hu l0 l1 l2 l3 l4 l5 l6 l7 l8 l9 l10 cl hL hcl hI hf0 (by rw [← eT]; exact hm) (by rw [← eT]; exact hx) w
  rw [Sup.decS_good (Sup.decE_good h ho hf hm hx), Sup.decE_good h ho hf hm hx, eT]
  exact rDecode8_good b t u h ho ht hu l0 l1 l2 l3 l4 l5 l6 l7 l8 l9 l10 cl hL hcl hI hf0 (by rw [← eT]; exact hm) (by rw [← eT]; exact hx) w
end Go.Proofs.YtgkhnfchohcjeaaGreat
