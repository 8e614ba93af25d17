/- For all numbers the law SuperWhole returns true: a drive that is whole is a column that is built up to the last row; a spare never is. No condition. -/
import Derived.Test.YtinegeacpohlcaaSup08
import Derived.ProofKit
import Derived.OpenShut
import Derived.ShutString
import Derived.ChangeOld
import Derived.Below
namespace Go.Proofs.Ytinegeacpohlcaa.superWhole
open Go.ChangeShapes Go.WideShapes Go.ChangeAt Go.RowKit
open Go.ChangeMaps (open_string shut_string)

set_option maxRecDepth 100000 in
set_option maxHeartbeats 8000000 in
theorem walk_col (u e : Nat) (l : A8) (hl : l.Ok) (s0 s1 : Nat) (s2 s3 s4 s5 : Int) (s6 : Bool) (s7 s8 s9 : Int) (hs : Sup.someS u e l = ⟨s0, s1, s2, s3, s4, s5, s6, s7, s8, s9⟩) (hm : Sup.may ⟨s0, s1, s2, s3, s4, s5, s6, s7, s8, s9⟩) (h1 : s2 < s3) (w : World) :
    Calls Try.prog 6 #[.int .u64 (u : Int), .int .u64 (e : Int), arrV l] w fun en w' => en = .returned (.bool true) ∧ Below w.heap.size w w' := by
  obtain ⟨⟨hu, ⟨⟨c1, c2⟩, ⟨k1, k2⟩, r1, r2⟩⟩, hn, hr, hb, hg, hz⟩ := id hm
  dsimp only at hu c1 c2 k1 k2 r1 r2 hn hr hb hg hz
  have HS := fun W => some_any u e l hl W
  rw [hs] at HS
  have mB : Sup.mayB ⟨s0, s1, s2, s3, s4, s5, s6, s7, s8, s9⟩ = true := by simp [Sup.mayB, hm]
  have hm2 : Sup.may ⟨s0, s1, 0, s3, s4, s5, s6, s5, s8, s9⟩ := by refine ⟨⟨hu, ⟨⟨c1, c2⟩, ⟨k1, k2⟩, r1, r2⟩⟩, hn, ?_, ?_, hg, hz⟩ <;> dsimp only <;> omega
  have hm3 : Sup.may ⟨s0, s1, 254, s3, s4, s5, s6, s5, s8, s9⟩ := by refine ⟨⟨hu, ⟨⟨c1, c2⟩, ⟨k1, k2⟩, r1, r2⟩⟩, hn, ?_, ?_, hg, hz⟩ <;> dsimp only <;> omega
  have HW := fun W => Whole_any ⟨s0, s1, s2, s3, s4, s5, s6, s7, s8, s9⟩ (by dsimp only; omega) (by dsimp only; omega) W
  have HV := fun W => Whole_any ⟨s0, s1, 0, s3, s4, s5, s6, s5, s8, s9⟩ (by dsimp only; omega) (by dsimp only; omega) W
  have HU := fun W => Whole_any ⟨s0, s1, 254, s3, s4, s5, s6, s5, s8, s9⟩ (by dsimp only; omega) (by dsimp only; omega) W
  obtain ⟨q, hq⟩ : ∃ q, (s7 == s5) = q := ⟨_, rfl⟩
  rw [show Sup.wholeB ⟨s0, s1, s2, s3, s4, s5, s6, s7, s8, s9⟩ = q by rw [← hq]; simp [Sup.wholeB, mB, h1]; rfl] at HW
  rw [show Sup.wholeB ⟨s0, s1, 0, s3, s4, s5, s6, s5, s8, s9⟩ = true by simp [Sup.wholeB, Sup.mayB, hm2]; omega] at HV
  rw [show Sup.wholeB ⟨s0, s1, 254, s3, s4, s5, s6, s5, s8, s9⟩ = false by simp [Sup.wholeB]; omega] at HU
  obtain ⟨a0, a1, a2, a3, a4, a5, a6, a7⟩ := l
  unfold supV arrV at *
  dsimp only at HS HW HV HU ⊢
  clear hl hs hm hm2 hm3 mB hu c1 c2 k1 k2 r1 r2 hn hr hb hg hz
  go_enter Try.func6, Try.ntmps6
  go_wp2_with fail
  refine (HS _).mono ?_
  rintro en w1 ⟨rfl, hb1⟩
  have HB1 : Hid (Below w.heap.size w w1) := ((Below.refl w.heap.size w).alloc (Nat.le_refl _) _).trans (hb1.mono (by rw [World.size_alloc]; omega))
  have HX1 : Hid (w.heap.size ≤ w1.heap.size) := HB1.out.size
  clear hb1
  go_wp2_with fail
  refine (HW _).mono ?_
  rintro en w2 ⟨rfl, hb2⟩
  have hp2 : w2.heap[w1.heap.size]? = some (.cells #[.int .u64 (s0 : Int), .int .u64 (s1 : Int), .int .i64 s2, .int .i64 s3, .int .i64 s4, .int .i64 s5, .bool s6, .int .i64 s7, .int .i64 s8, .int .i64 s9] 26 (0, 0)) := (hb2.block _ (by rw [World.size_alloc]; exact Nat.lt_succ_self _)).trans (heap_new w1 _)
  have HB2 : Hid (Below w.heap.size w w2) := (HB1.out.alloc HX1.out _).trans (hb2.mono (by rw [World.size_alloc]; have := HX1.out; omega))
  have HP2 : Hid _ := hp2
  have c0 := Go.Joins.cell_of_block hp2 0
  have c1 := Go.Joins.cell_of_block hp2 1
  have c2 := Go.Joins.cell_of_block hp2 2
  have c3 := Go.Joins.cell_of_block hp2 3
  have c4 := Go.Joins.cell_of_block hp2 4
  have c5 := Go.Joins.cell_of_block hp2 5
  have c6 := Go.Joins.cell_of_block hp2 6
  have c7 := Go.Joins.cell_of_block hp2 7
  have c8 := Go.Joins.cell_of_block hp2 8
  have c9 := Go.Joins.cell_of_block hp2 9
  simp only [List.getElem?_toArray, List.getElem?_cons_zero, List.getElem?_cons_succ] at c0 c1 c2 c3 c4 c5 c6 c7 c8 c9
  clear hp2 hb2 HB1
  have lt2 : w1.heap.size < w2.heap.size := World.block_lt_of_cell? w2 _ c0
  go_wp2_with fail
  refine (shown8_any _).mono ?_
  rintro en w3 ⟨rfl, hb3⟩
  have hp3 := (hb3.block _ lt2).trans HP2.out
  have HP3 : Hid _ := hp3
  have HB3 : Hid (Below w.heap.size w w3) := below2 HB2.out hb3
  have lt3 : w1.heap.size < w3.heap.size := Nat.lt_of_lt_of_le lt2 hb3.size
  have hf3 := Go.Joins.unfrozen_of_block hp3
  clear c0 c1 c2 c3 c4 c5 c6 c7 c8 c9 HP2 HB2 hb3 lt2
  have c0 := Go.Joins.cell_of_block hp3 0
  have c1 := Go.Joins.cell_of_block hp3 1
  have c2 := Go.Joins.cell_of_block hp3 2
  have c3 := Go.Joins.cell_of_block hp3 3
  have c4 := Go.Joins.cell_of_block hp3 4
  have c5 := Go.Joins.cell_of_block hp3 5
  have c6 := Go.Joins.cell_of_block hp3 6
  have c7 := Go.Joins.cell_of_block hp3 7
  have c8 := Go.Joins.cell_of_block hp3 8
  have c9 := Go.Joins.cell_of_block hp3 9
  simp only [List.getElem?_toArray, List.getElem?_cons_zero, List.getElem?_cons_succ] at c0 c1 c2 c3 c4 c5 c6 c7 c8 c9
  clear hp3
  go_wp2_with fail
  have hp4 := Go.Joins.block_setCell (Go.Joins.block_setCell HP3.out (i := 7) (.int .i64 s5)) (i := 2) (.int .i64 0)
  simp only [List.setIfInBounds_toArray, List.set_cons_zero, List.set_cons_succ] at hp4
  have HB4 : Hid (Below w.heap.size w ((w3.setCell ⟨w1.heap.size, 7, none⟩ (.int .i64 s5)).setCell ⟨w1.heap.size, 2, none⟩ (.int .i64 0))) := (HB3.out.setCell (p := ⟨w1.heap.size, 7, none⟩) HX1.out _).setCell (p := ⟨w1.heap.size, 2, none⟩) HX1.out _
  generalize ((w3.setCell ⟨w1.heap.size, 7, none⟩ (.int .i64 s5)).setCell ⟨w1.heap.size, 2, none⟩ (.int .i64 0)) = w4 at *
  refine (HV _).mono ?_
  rintro en w5 ⟨rfl, hb5⟩
  have lt4 : w1.heap.size < w4.heap.size := (Array.getElem?_eq_some_iff.1 hp4).1
  have hp5 := (hb5.block _ lt4).trans hp4
  have HB5 : Hid (Below w.heap.size w w5) := below2 HB4.out hb5
  have hf5 := Go.Joins.unfrozen_of_block hp5
  clear c0 c1 c2 c3 c4 c5 c6 c7 c8 c9 hf3 HP3 HB3 HB4 hb5 hp4
  have c0 := Go.Joins.cell_of_block hp5 0
  have c1 := Go.Joins.cell_of_block hp5 1
  have c2 := Go.Joins.cell_of_block hp5 2
  have c3 := Go.Joins.cell_of_block hp5 3
  have c4 := Go.Joins.cell_of_block hp5 4
  have c5 := Go.Joins.cell_of_block hp5 5
  have c6 := Go.Joins.cell_of_block hp5 6
  have c7 := Go.Joins.cell_of_block hp5 7
  have c8 := Go.Joins.cell_of_block hp5 8
  have c9 := Go.Joins.cell_of_block hp5 9
  simp only [List.getElem?_toArray, List.getElem?_cons_zero, List.getElem?_cons_succ] at c0 c1 c2 c3 c4 c5 c6 c7 c8 c9
  have lt5 : w1.heap.size < w5.heap.size := World.block_lt_of_cell? w5 _ c0
  clear hp5
  go_wp2_with fail
  refine (HU _).mono ?_
  rintro en w6 ⟨rfl, hb6⟩
  have HB6 : Hid (Below w.heap.size w w6) := below2 (HB5.out.setCell (p := ⟨w1.heap.size, 2, none⟩) HX1.out _) hb6
  clear hb6 hf5 c0 c1 c2 c3 c4 c5 c6 c7 c8 c9
  go_wp2
  go_ret
  exact ⟨rfl, HB6.out⟩
set_option maxRecDepth 100000 in
set_option maxHeartbeats 8000000 in
theorem walk_spare (u e : Nat) (l : A8) (hl : l.Ok) (s0 s1 : Nat) (s2 s3 s4 s5 : Int) (s6 : Bool) (s7 s8 s9 : Int) (hs : Sup.someS u e l = ⟨s0, s1, s2, s3, s4, s5, s6, s7, s8, s9⟩) (hm : Sup.may ⟨s0, s1, s2, s3, s4, s5, s6, s7, s8, s9⟩) (h1 : ¬ s2 < s3) (w : World) :
    Calls Try.prog 6 #[.int .u64 (u : Int), .int .u64 (e : Int), arrV l] w fun en w' => en = .returned (.bool true) ∧ Below w.heap.size w w' := by
  obtain ⟨⟨hu, ⟨⟨c1, c2⟩, ⟨k1, k2⟩, r1, r2⟩⟩, hn, hr, hb, hg, hz⟩ := id hm
  dsimp only at hu c1 c2 k1 k2 r1 r2 hn hr hb hg hz
  have HS := fun W => some_any u e l hl W
  rw [hs] at HS
  have mB : Sup.mayB ⟨s0, s1, s2, s3, s4, s5, s6, s7, s8, s9⟩ = true := by simp [Sup.mayB, hm]
  have hm2 : Sup.may ⟨s0, s1, 0, s3, s4, s5, s6, s5, s8, s9⟩ := by refine ⟨⟨hu, ⟨⟨c1, c2⟩, ⟨k1, k2⟩, r1, r2⟩⟩, hn, ?_, ?_, hg, hz⟩ <;> dsimp only <;> omega
  have hm3 : Sup.may ⟨s0, s1, 254, s3, s4, s5, s6, s5, s8, s9⟩ := by refine ⟨⟨hu, ⟨⟨c1, c2⟩, ⟨k1, k2⟩, r1, r2⟩⟩, hn, ?_, ?_, hg, hz⟩ <;> dsimp only <;> omega
  have HW := fun W => Whole_any ⟨s0, s1, s2, s3, s4, s5, s6, s7, s8, s9⟩ (by dsimp only; omega) (by dsimp only; omega) W
  have HV := fun W => Whole_any ⟨s0, s1, 0, s3, s4, s5, s6, s5, s8, s9⟩ (by dsimp only; omega) (by dsimp only; omega) W
  have HU := fun W => Whole_any ⟨s0, s1, 254, s3, s4, s5, s6, s5, s8, s9⟩ (by dsimp only; omega) (by dsimp only; omega) W
  rw [show Sup.wholeB ⟨s0, s1, s2, s3, s4, s5, s6, s7, s8, s9⟩ = false by simp [Sup.wholeB, h1]] at HW
  rw [show Sup.wholeB ⟨s0, s1, 0, s3, s4, s5, s6, s5, s8, s9⟩ = true by simp [Sup.wholeB, Sup.mayB, hm2]; omega] at HV
  rw [show Sup.wholeB ⟨s0, s1, 254, s3, s4, s5, s6, s5, s8, s9⟩ = false by simp [Sup.wholeB]; omega] at HU
  obtain ⟨a0, a1, a2, a3, a4, a5, a6, a7⟩ := l
  unfold supV arrV at *
  dsimp only at HS HW HV HU ⊢
  clear hl hs hm hm2 hm3 mB hu c1 c2 k1 k2 r1 r2 hn hr hb hg hz
  go_enter Try.func6, Try.ntmps6
  go_wp2_with fail
  refine (HS _).mono ?_
  rintro en w1 ⟨rfl, hb1⟩
  have HB1 : Hid (Below w.heap.size w w1) := ((Below.refl w.heap.size w).alloc (Nat.le_refl _) _).trans (hb1.mono (by rw [World.size_alloc]; omega))
  have HX1 : Hid (w.heap.size ≤ w1.heap.size) := HB1.out.size
  clear hb1
  go_wp2_with fail
  refine (HW _).mono ?_
  rintro en w2 ⟨rfl, hb2⟩
  have hp2 : w2.heap[w1.heap.size]? = some (.cells #[.int .u64 (s0 : Int), .int .u64 (s1 : Int), .int .i64 s2, .int .i64 s3, .int .i64 s4, .int .i64 s5, .bool s6, .int .i64 s7, .int .i64 s8, .int .i64 s9] 26 (0, 0)) := (hb2.block _ (by rw [World.size_alloc]; exact Nat.lt_succ_self _)).trans (heap_new w1 _)
  have HB2 : Hid (Below w.heap.size w w2) := (HB1.out.alloc HX1.out _).trans (hb2.mono (by rw [World.size_alloc]; have := HX1.out; omega))
  have HP2 : Hid _ := hp2
  have c0 := Go.Joins.cell_of_block hp2 0
  have c1 := Go.Joins.cell_of_block hp2 1
  have c2 := Go.Joins.cell_of_block hp2 2
  have c3 := Go.Joins.cell_of_block hp2 3
  have c4 := Go.Joins.cell_of_block hp2 4
  have c5 := Go.Joins.cell_of_block hp2 5
  have c6 := Go.Joins.cell_of_block hp2 6
  have c7 := Go.Joins.cell_of_block hp2 7
  have c8 := Go.Joins.cell_of_block hp2 8
  have c9 := Go.Joins.cell_of_block hp2 9
  simp only [List.getElem?_toArray, List.getElem?_cons_zero, List.getElem?_cons_succ] at c0 c1 c2 c3 c4 c5 c6 c7 c8 c9
  clear hp2 hb2 HB1
  have lt2 : w1.heap.size < w2.heap.size := World.block_lt_of_cell? w2 _ c0
  go_wp2_with fail
  refine (shown8_any _).mono ?_
  rintro en w3 ⟨rfl, hb3⟩
  have hp3 := (hb3.block _ lt2).trans HP2.out
  have HP3 : Hid _ := hp3
  have HB3 : Hid (Below w.heap.size w w3) := below2 HB2.out hb3
  have lt3 : w1.heap.size < w3.heap.size := Nat.lt_of_lt_of_le lt2 hb3.size
  have hf3 := Go.Joins.unfrozen_of_block hp3
  clear c0 c1 c2 c3 c4 c5 c6 c7 c8 c9 HP2 HB2 hb3 lt2
  have c0 := Go.Joins.cell_of_block hp3 0
  have c1 := Go.Joins.cell_of_block hp3 1
  have c2 := Go.Joins.cell_of_block hp3 2
  have c3 := Go.Joins.cell_of_block hp3 3
  have c4 := Go.Joins.cell_of_block hp3 4
  have c5 := Go.Joins.cell_of_block hp3 5
  have c6 := Go.Joins.cell_of_block hp3 6
  have c7 := Go.Joins.cell_of_block hp3 7
  have c8 := Go.Joins.cell_of_block hp3 8
  have c9 := Go.Joins.cell_of_block hp3 9
  simp only [List.getElem?_toArray, List.getElem?_cons_zero, List.getElem?_cons_succ] at c0 c1 c2 c3 c4 c5 c6 c7 c8 c9
  clear hp3
  go_wp2_with fail
  have hp4 := Go.Joins.block_setCell (Go.Joins.block_setCell HP3.out (i := 7) (.int .i64 s5)) (i := 2) (.int .i64 0)
  simp only [List.setIfInBounds_toArray, List.set_cons_zero, List.set_cons_succ] at hp4
  have HB4 : Hid (Below w.heap.size w ((w3.setCell ⟨w1.heap.size, 7, none⟩ (.int .i64 s5)).setCell ⟨w1.heap.size, 2, none⟩ (.int .i64 0))) := (HB3.out.setCell (p := ⟨w1.heap.size, 7, none⟩) HX1.out _).setCell (p := ⟨w1.heap.size, 2, none⟩) HX1.out _
  generalize ((w3.setCell ⟨w1.heap.size, 7, none⟩ (.int .i64 s5)).setCell ⟨w1.heap.size, 2, none⟩ (.int .i64 0)) = w4 at *
  refine (HV _).mono ?_
  rintro en w5 ⟨rfl, hb5⟩
  have lt4 : w1.heap.size < w4.heap.size := (Array.getElem?_eq_some_iff.1 hp4).1
  have hp5 := (hb5.block _ lt4).trans hp4
  have HB5 : Hid (Below w.heap.size w w5) := below2 HB4.out hb5
  have hf5 := Go.Joins.unfrozen_of_block hp5
  clear c0 c1 c2 c3 c4 c5 c6 c7 c8 c9 hf3 HP3 HB3 HB4 hb5 hp4
  have c0 := Go.Joins.cell_of_block hp5 0
  have c1 := Go.Joins.cell_of_block hp5 1
  have c2 := Go.Joins.cell_of_block hp5 2
  have c3 := Go.Joins.cell_of_block hp5 3
  have c4 := Go.Joins.cell_of_block hp5 4
  have c5 := Go.Joins.cell_of_block hp5 5
  have c6 := Go.Joins.cell_of_block hp5 6
  have c7 := Go.Joins.cell_of_block hp5 7
  have c8 := Go.Joins.cell_of_block hp5 8
  have c9 := Go.Joins.cell_of_block hp5 9
  simp only [List.getElem?_toArray, List.getElem?_cons_zero, List.getElem?_cons_succ] at c0 c1 c2 c3 c4 c5 c6 c7 c8 c9
  have lt5 : w1.heap.size < w5.heap.size := World.block_lt_of_cell? w5 _ c0
  clear hp5
  go_wp2_with fail
  refine (HU _).mono ?_
  rintro en w6 ⟨rfl, hb6⟩
  have HB6 : Hid (Below w.heap.size w w6) := below2 (HB5.out.setCell (p := ⟨w1.heap.size, 2, none⟩) HX1.out _) hb6
  clear hb6 hf5 c0 c1 c2 c3 c4 c5 c6 c7 c8 c9
  go_wp2
  go_ret
  exact ⟨rfl, HB6.out⟩
theorem walk (w : World) (u : Int) (wu : (Lit.int .u64 u).wf = true) (e : Int) (we : (Lit.int .u64 e).wf = true) (l : A8) (hl : l.Ok) :
    Calls Try.prog 6 #[.int .u64 u, .int .u64 e, arrV l] w fun en w' => en = .returned (.bool true) ∧ Below w.heap.size w w' := by
  obtain ⟨u, rfl, hu⟩ := u64_nat wu
  obtain ⟨e, rfl, he⟩ := u64_nat we
  have hm := Sup.someS_may u e l hl
  obtain ⟨⟨s0, s1, s2, s3, s4, s5, s6, s7, s8, s9⟩, hs⟩ : ∃ s, Sup.someS u e l = s := ⟨_, rfl⟩
  rw [hs] at hm
  by_cases h1 : s2 < s3
  · exact walk_col u e l hl s0 s1 s2 s3 s4 s5 s6 s7 s8 s9 hs hm h1 w
  · exact walk_spare u e l hl s0 s1 s2 s3 s4 s5 s6 s7 s8 s9 hs hm h1 w

theorem own : ownKnob Try.prog.godebug = none := by kernel_rfl
theorem laidOut : laidOutB Try.prog = true := by kernel_rfl
set_option linter.unusedVariables false in
set_option maxRecDepth 100000 in
theorem lifted (os : Os) (started : os.Started) (H : Type) (enc : TypeId × Value → H) :
    ReturnsInHanded {} Try.checked os 6 .any (Rows.superWholeSpec.pre6 enc Try.prog Try.f6 Rows.superWholeRow.domain false) (Rows.superWholeSpec.post enc Try.prog Try.f6 false true false false) := by
  refine returnsInHanded_of_change (C := Try.checked) own started (by kernel_rfl) Try.func6
    (ChangeSpec.witness6 (enc := enc) (C := Try.checked) false ⟨#[], #[.int .u64 0, .int .u64 0, .agg #[.int .u8 0, .int .u8 0, .int .u8 0, .int .u8 0, .int .u8 0, .int .u8 0, .int .u8 0, .int .u8 0]], []⟩ 8 (by kernel_rfl) (by kernel_rfl) (by kernel_rfl) (by kernel_rfl)) ?_
  intro W base args ds gs before hval0 hW hcnd _
  have hval : ∀ (j : Nat) t v, Try.f6.params[j]? = some t → args[j]? = some v → Value.okWide Try.prog W .any base t v := hval0
  have hW' := hW
  obtain ⟨p, q, hA0, hV, rfl, hfz, hnd⟩ := hW
  have hA : DataW.TrodAll enc Try.prog W 0 (fun _ => true) true Try.f6.params.toList args.toList ds p := hA0
  rw [Try.params6] at hA hval
  obtain ⟨v0, vs0, d0, ds0, p0, q0, hargs, rfl, rfl, h0, r0⟩ := trodAll_cons hA
  obtain ⟨v1, vs1, d1, ds1, p1, q1, rfl, rfl, rfl, h1, r1⟩ := trodAll_cons r0
  obtain ⟨v2, vs2, d2, ds2, p2, q2, rfl, rfl, rfl, h2, r2⟩ := trodAll_cons r1
  obtain ⟨rfl, rfl, rfl⟩ := trodAll_nil r2
  obtain rfl : args = #[v0, v1, v2] := by cases args; simp_all
  obtain ⟨rfl, rfl⟩ := trodVars_none hV
  obtain ⟨a0, rfl, rfl, rfl, w0⟩ := open_int Try.underlying22 (hval 0 22 v0 rfl rfl) h0
  obtain ⟨a1, rfl, rfl, rfl, w1⟩ := open_int Try.underlying22 (hval 1 22 v1 rfl rfl) h1
  obtain ⟨s2, rfl, w2⟩ := open_arr8 (hval 2 40 v2 rfl rfl) h2
  have k2 := h2
  have lt2 : ∀ x ∈ p2, x.block < W.heap.size := by obtain ⟨m, hm⟩ := k2; exact DataW.trod_lt m _ _ _ hm
  clear hA0 hval0
  simp only [List.append_nil] at hW'
  refine (walk W a0 w0 a1 w1 s2 w2).mono fun e W' ⟨he, hg⟩ => ?_
  subst he
  exact ⟨_, rfl, _, _, _, [], _, [], hW', trodAll_mk1 (shut_bool Try.underlying4 _), (trodAll_cons_mk (shut_int Try.underlying22 w0) (trodAll_cons_mk (shut_int Try.underlying22 w1) (trodAll_cons_mk (Below.trod laidOut (by kernel_rfl) (of_decide_eq_true (by kernel_rfl)) k2 hg lt2) trodAll_mk0))), rfl, hg.frame _, fun h => by cases h⟩
/-- For every input the law returns true, and each argument reads as it did. -/
theorem proved : Rows.SuperWholeSaid :=
  OpenClaim.holds_of_wide 6 Try.f6 rfl rfl rfl rfl rfl rfl rfl ⟨rfl, rfl, rfl, rfl, rfl⟩ rfl rfl rfl rfl rfl (by kernel_rfl) Try.func6 (by kernel_rfl)
    (of_decide_eq_true (by kernel_rfl)) (by unfold Func.isWrapper; first | (rw [if_pos (by decide +kernel)]; kernel_rfl) | (rw [if_neg (by decide +kernel)]; exact ⟨rfl, rfl⟩))
    (fun os started H enc _ => lifted os started H enc)
end Go.Proofs.Ytinegeacpohlcaa.superWhole
