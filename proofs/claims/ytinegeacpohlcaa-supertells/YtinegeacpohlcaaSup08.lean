/- The walks of what the statements on superblocks share: shown, and the superblock of some numbers. -/
import Derived.Test.YtinegeacpohlcaaSupDec
import Derived.Test.YtinegeacpohlcaaKitSup
namespace Go.Proofs.Ytinegeacpohlcaa
open Go.RowKit

namespace Sup
def s0 : Su := ⟨5, 0, 0, 4, 1, 1, false, 0, 0, 0⟩
theorem s0_may : may s0 := by unfold may Lay.ok s0; decide
theorem s0_fit : Fit magic s0 := Fit.of_may s0_may (by decide) (by decide)
theorem s0_head : (secT s0).data.toList.take 4 = [82, 86, 84, 49] := by decide +kernel
/-- a superblock of some numbers -/
def someS (u e : Nat) (l : A8) : Su :=
  ⟨max u 1, e, if l.a4 % 5 = 0 then ((254 + l.a3 % 2 : Nat) : Int) else ((l.a3 % (4 + l.a0 % 6) : Nat) : Int), ((4 + l.a0 % 6 : Nat) : Int), ((1 + l.a1 % 4 : Nat) : Int), ((1 + l.a2 : Nat) : Int), l.a4 % 2 == 0, ((l.a5 % (1 + l.a2 + 1) : Nat) : Int),
    if l.a6 % 2 = 0 then ((4 + l.a0 % 6 + 1 : Nat) : Int) else 0, if l.a6 % 2 = 0 then ((l.a7 % (1 + l.a2 + 1) : Nat) : Int) else 0⟩
theorem someS_may (u e : Nat) (l : A8) (h : l.Ok) : may (someS u e l) := by
  have h2 := h.a2
  have m5 := Nat.mod_lt l.a5 (show 0 < 1 + l.a2 + 1 by omega)
  have m7 := Nat.mod_lt l.a7 (show 0 < 1 + l.a2 + 1 by omega)
  have m3 := Nat.mod_lt l.a3 (show 0 < 4 + l.a0 % 6 by omega)
  unfold may Lay.ok someS
  dsimp only
  refine ⟨⟨by omega, by omega, by omega, by omega⟩, ?_, ?_, by omega, ?_, ?_⟩ <;> (repeat' split) <;> omega
theorem someS_in (u e : Nat) (hu : u < 18446744073709551616) (he : e < 18446744073709551616) (l : A8) (h : l.Ok) : (someS u e l).In := by
  have hm := someS_may u e l h
  obtain ⟨⟨_, ⟨⟨c1, c2⟩, _⟩⟩, n1, _⟩ := hm
  exact ⟨by show max u 1 < _; omega, he, by omega, by omega⟩
end Sup

set_option maxRecDepth 100000 in
set_option maxHeartbeats 4000000 in
theorem shown8_any (w : World) :
    Calls Try.prog 9 #[] w fun e w' => e = .returned (.bool true) ∧ Below w.heap.size w w' := by
  have hE := fun W => Encode8_any Sup.s0 ⟨by decide, by decide, by decide, by decide⟩ W
  have hb : Sup.mayB Sup.s0 = true := by simp [Sup.mayB, Sup.s0_may]
  rw [show Sup.encT Sup.s0 = Sup.secT Sup.s0 by simp [Sup.encT, hb], show Sup.encE Sup.s0 = 0 by simp [Sup.encE, hb]] at hE
  have hs : (Sup.secT Sup.s0).size = 64 := Sup.secT_size Sup.s0_fit
  have hx : (Sup.secT Sup.s0).extract 0 4 = ⟨#[82, 86, 84, 49]⟩ := by
    apply ByteArray.ext
    apply Array.toList_inj.1
    rw [ByteArray.data_extract, Array.toList_extract, List.extract_eq_take_drop]
    exact Sup.s0_head
  obtain ⟨t, ht⟩ : ∃ t, Sup.secT Sup.s0 = t := ⟨_, rfl⟩
  rw [ht] at hE hs hx
  have hsi : ((t.size : Int) == 64) = true := by rw [hs]; rfl
  have hsj : (t.size : Int) = 64 := by omega
  unfold supV Sup.s0 at hE
  dsimp only at hE
  rw [show ((5 : Nat) : Int) = 5 from rfl, show ((0 : Nat) : Int) = 0 from rfl] at hE
  clear hs ht hb
  go_enter Try.func9, Try.ntmps9
  go_wp2_with fail
  refine (hE _).mono ?_
  rintro e w1 ⟨rfl, hb1⟩
  go_wp2
  go_ret
  exact ⟨rfl, hb1⟩

/-- three new blocks -/
theorem three_start (w : World) (A : Array Value) (tA : TypeId) (B : Array Value) (tB : TypeId) (C : Array Value) (tC : TypeId) : let w0 := ((w.alloc (.cells A tA)).alloc (.cells B tB)).alloc (.cells C tC)
    w0.heap[w.heap.size]? = some (.cells A tA (0, 0)) ∧ w0.heap[w.heap.size + 1]? = some (.cells B tB (0, 0)) ∧ w0.heap[w.heap.size + 1 + 1]? = some (.cells C tC (0, 0)) ∧ Below w.heap.size w w0 ∧ w0.heap.size = w.heap.size + 3 := by
  intro w0
  have s1 : (w.alloc (.cells A tA)).heap.size = w.heap.size + 1 := World.size_alloc ..
  have s2 : ((w.alloc (.cells A tA)).alloc (.cells B tB)).heap.size = w.heap.size + 1 + 1 := by rw [World.size_alloc, s1]
  have e1 := heap_new w (.cells A tA)
  have e2 := heap_new (w.alloc (.cells A tA)) (.cells B tB)
  have e3 := heap_new ((w.alloc (.cells A tA)).alloc (.cells B tB)) (.cells C tC)
  rw [s1] at e2
  rw [s2] at e3
  refine ⟨?_, ?_, e3, ((((Below.refl _ w).alloc (Nat.le_refl _) _).alloc (by omega) _).alloc (by omega) _), by show (World.alloc _ _).heap.size = _; rw [World.size_alloc, s2]⟩
  · exact (Below.heap_alloc _ _ _ (by omega)).trans ((Below.heap_alloc _ _ _ (by omega)).trans e1)
  · exact (Below.heap_alloc _ _ _ (by omega)).trans e2

set_option linter.unusedVariables false in
set_option maxRecDepth 100000 in
set_option maxHeartbeats 8000000 in
theorem some_pp (u e a0 a1 a2 a3 a4 a5 a6 a7 U C K R D B G Q : Nat) (cl : Bool) (h0 : a0 < 256) (h1 : a1 < 256) (h2 : a2 < 256) (h3 : a3 < 256) (h4 : a4 < 256) (h5 : a5 < 256) (h6 : a6 < 256) (h7 : a7 < 256) (hU : max (u : Int) 1 = (U : Int)) (hC : 4 + (a0 : Int) % 6 = (C : Int)) (c1 : 4 ≤ C) (c2 : C ≤ 9) (hK : 1 + (a1 : Int) % 4 = (K : Int)) (hR : 1 + (a2 : Int) = (R : Int)) (r1 : 1 ≤ R) (r2 : R ≤ 256)
    (hcl : ((a4 : Int) % 2 == 0) = cl) (hD : (a3 : Int) % (C : Int) = (D : Int)) (hB : (a5 : Int) % ((R : Int) + 1) = (B : Int)) (hG : (a7 : Int) % ((R : Int) + 1) = (G : Int)) (hQ : 254 + (a3 : Int) % 2 = (Q : Int)) (g6 : ((a6 : Int) % 2 == 0) = true) (g5 : ((a4 : Int) % 5 == 0) = true) (w : World) :
    Calls Try.prog 18 #[.int .u64 (u : Int), .int .u64 (e : Int), .agg #[.int .u8 (a0 : Int), .int .u8 (a1 : Int), .int .u8 (a2 : Int), .int .u8 (a3 : Int), .int .u8 (a4 : Int), .int .u8 (a5 : Int), .int .u8 (a6 : Int), .int .u8 (a7 : Int)]] w fun en w' => en = .returned (supV ⟨U, e, (Q : Int), (C : Int), (K : Int), (R : Int), cl, (B : Int), (C : Int) + 1, (G : Int)⟩) ∧ Below w.heap.size w w' := by
  have hmax : ∀ (ts : Array TypeId) (ty : TypeId) (W : World), (Builtin.max_ ts ty #[.int .u64 (u : Int), .int .u64 1]).run Try.prog W = .ok (.int .u64 (U : Int)) W := by
    intro ts ty W
    rw [← hU]
    simp [Builtin.max_, Builtin.max2]
    omega
  have zC : ((C : Int) == 0) = false := by simp; omega
  have zR : ((R : Int) + 1 == 0) = false := by simp; omega
  have wR : IntKind.i64.wrap ((R : Int) + 1) = (R : Int) + 1 := by rw [IntKind.wrap_i64]; omega
  have nC : ¬ C = 0 := by omega
  have nR : ¬ (R : Int) + 1 = 0 := by omega
  have wa3 : IntKind.i64.wrap (a3 : Int) = (a3 : Int) := by rw [IntKind.wrap_i64]; omega
  have wa5 : IntKind.i64.wrap (a5 : Int) = (a5 : Int) := by rw [IntKind.wrap_i64]; omega
  have tm3 : (a3 : Int).tmod (C : Int) = (D : Int) := by rw [Int.tmod_eq_emod_of_nonneg (by omega)]; exact hD
  have tm5 : (a5 : Int).tmod ((R : Int) + 1) = (B : Int) := by rw [Int.tmod_eq_emod_of_nonneg (by omega)]; exact hB
  have tm4 : (a4 : Int).tmod 2 = (a4 : Int) % 2 := Int.tmod_eq_emod_of_nonneg (by omega)
  have HMX : Hid (Try.prog.follows .mixedOrders = true) := by show _ = _; kernel_rfl
  have HST : Hid _ := three_start w #[.int .u8 (a0 : Int), .int .u8 (a1 : Int), .int .u8 (a2 : Int), .int .u8 (a3 : Int), .int .u8 (a4 : Int), .int .u8 (a5 : Int), .int .u8 (a6 : Int), .int .u8 (a7 : Int)] 40 #[.int .u64 0, .int .u64 0, .int .i64 0, .int .i64 0, .int .i64 0, .int .i64 0, .bool false, .int .i64 0, .int .i64 0, .int .i64 0] 26 #[.int .i64 (C : Int), .int .i64 (K : Int), .int .i64 (R : Int)] 24
  clear hU
  unfold supV
  dsimp only
  go_enter Try.func18, Try.ntmps18
  go_wp2_with fail
  have HS0 := HST.out
  obtain ⟨w0, hw0⟩ : ∃ w0, ((w.alloc (.cells #[.int .u8 (a0 : Int), .int .u8 (a1 : Int), .int .u8 (a2 : Int), .int .u8 (a3 : Int), .int .u8 (a4 : Int), .int .u8 (a5 : Int), .int .u8 (a6 : Int), .int .u8 (a7 : Int)] 40)).alloc (.cells #[.int .u64 0, .int .u64 0, .int .i64 0, .int .i64 0, .int .i64 0, .int .i64 0, .bool false, .int .i64 0, .int .i64 0, .int .i64 0] 26)).alloc (.cells #[.int .i64 (C : Int), .int .i64 (K : Int), .int .i64 (R : Int)] 24) = w0 := ⟨_, rfl⟩
  rw [hw0] at HS0 ⊢
  clear hw0 HST
  obtain ⟨pa, pz, pg, hb0, sz0⟩ := HS0
  have a_0 := Go.Joins.cell_of_block pa 0
  have a_1 := Go.Joins.cell_of_block pa 1
  have a_2 := Go.Joins.cell_of_block pa 2
  have a_3 := Go.Joins.cell_of_block pa 3
  have a_4 := Go.Joins.cell_of_block pa 4
  have a_5 := Go.Joins.cell_of_block pa 5
  have a_6 := Go.Joins.cell_of_block pa 6
  have a_7 := Go.Joins.cell_of_block pa 7
  simp only [List.getElem?_toArray, List.getElem?_cons_zero, List.getElem?_cons_succ] at a_0 a_1 a_2 a_3 a_4 a_5 a_6 a_7
  have g_0 := Go.Joins.cell_of_block pg 0
  have g_1 := Go.Joins.cell_of_block pg 1
  have g_2 := Go.Joins.cell_of_block pg 2
  simp only [List.getElem?_toArray, List.getElem?_cons_zero, List.getElem?_cons_succ] at g_0 g_1 g_2
  have HPZ : Hid _ := pz
  have HB0 : Hid (Below w.heap.size w w0) := hb0
  clear pa pz pg hb0
  refine wp_region_held (S := fun W => W.cell? ⟨w.heap.size, 3, none⟩ = some (.int .u8 (a3 : Int)) ∧ W.cell? ⟨w.heap.size, 4, none⟩ = some (.int .u8 (a4 : Int)) ∧ W.cell? ⟨w.heap.size, 5, none⟩ = some (.int .u8 (a5 : Int)) ∧ W.cell? ⟨w.heap.size + 1 + 1, 0, none⟩ = some (.int .i64 (C : Int)) ∧ W.cell? ⟨w.heap.size + 1 + 1, 1, none⟩ = some (.int .i64 (K : Int)) ∧ W.cell? ⟨w.heap.size + 1 + 1, 2, none⟩ = some (.int .i64 (R : Int))) HMX.out ?_
  have hS : (fun W : World => W.cell? ⟨w.heap.size, 3, none⟩ = some (.int .u8 (a3 : Int)) ∧ W.cell? ⟨w.heap.size, 4, none⟩ = some (.int .u8 (a4 : Int)) ∧ W.cell? ⟨w.heap.size, 5, none⟩ = some (.int .u8 (a5 : Int)) ∧ W.cell? ⟨w.heap.size + 1 + 1, 0, none⟩ = some (.int .i64 (C : Int)) ∧ W.cell? ⟨w.heap.size + 1 + 1, 1, none⟩ = some (.int .i64 (K : Int)) ∧ W.cell? ⟨w.heap.size + 1 + 1, 2, none⟩ = some (.int .i64 (R : Int))) w0.drew := ⟨a_3, a_4, a_5, g_0, g_1, g_2⟩
  have sA : ∀ (O : Obj) b j v, w0.cell? ⟨b, j, none⟩ = some v → (w0.alloc O).cell? ⟨b, j, none⟩ = some v := fun O b j v h => (((Below.refl _ w0).alloc (Nat.le_refl _) O).cell (p := ⟨b, j, none⟩) (World.block_lt_of_cell? w0 _ h)).trans h
  change wpAnyH _ _ _ _ _ _ _ _ w0.drew
  refine held_quiet 0 (v := ?v0q1) rfl (by kernel_rfl) (fun _ _ _ h => h) (by assumption) rfl ?hy0q1 ?rest0q1
  case hy0q1 => (intro wS hSw; (try dsimp only at hSw); go_simp; try with_reducible rfl)
  try simp only [Act.put, List.setIfInBounds_toArray, List.set_cons_zero, List.set_cons_succ]
  refine held_quiet 1 (v := ?v1q2) rfl (by kernel_rfl) (fun _ _ _ h => h) (by assumption) rfl ?hy1q2 ?rest1q2
  case hy1q2 => (intro wS hSw; (try dsimp only at hSw); go_simp; try with_reducible rfl)
  try simp only [Act.put, List.setIfInBounds_toArray, List.set_cons_zero, List.set_cons_succ]
  refine held_quiet 2 (v := ?v2q3) rfl (by kernel_rfl) (fun _ _ _ h => h) (by assumption) rfl ?hy2q3 ?rest2q3
  case hy2q3 => (intro wS hSw; (try dsimp only at hSw); go_simp; try with_reducible rfl)
  try simp only [Act.put, List.setIfInBounds_toArray, List.set_cons_zero, List.set_cons_succ]
  refine held_quiet 3 (v := ?v3q4) rfl (by kernel_rfl) (fun _ _ _ h => h) (by assumption) rfl ?hy3q4 ?rest3q4
  case hy3q4 => (intro wS hSw; (try dsimp only at hSw); go_simp; try with_reducible rfl)
  try simp only [Act.put, List.setIfInBounds_toArray, List.set_cons_zero, List.set_cons_succ]
  refine held_quiet 4 (v := ?v4q5) rfl (by kernel_rfl) (fun _ _ _ h => h) (by assumption) rfl ?hy4q5 ?rest4q5
  case hy4q5 => (intro wS hSw; (try dsimp only at hSw); go_simp; try with_reducible rfl)
  try simp only [Act.put, List.setIfInBounds_toArray, List.set_cons_zero, List.set_cons_succ]
  refine held_quiet 5 (v := ?v5q6) rfl (by kernel_rfl) (fun _ _ _ h => h) (by assumption) rfl ?hy5q6 ?rest5q6
  case hy5q6 => (intro wS hSw; (try dsimp only at hSw); go_simp; try with_reducible rfl)
  try simp only [Act.put, List.setIfInBounds_toArray, List.set_cons_zero, List.set_cons_succ]
  refine held_quiet 6 (v := ?v6q7) rfl (by kernel_rfl) (fun _ _ _ h => h) (by assumption) rfl ?hy6q7 ?rest6q7
  case hy6q7 => (intro wS hSw; (try dsimp only at hSw); go_simp; try with_reducible rfl)
  try simp only [Act.put, List.setIfInBounds_toArray, List.set_cons_zero, List.set_cons_succ]
  refine held_quiet 7 (v := ?v7q8) rfl (by kernel_rfl) (fun _ _ _ h => h) (by assumption) rfl ?hy7q8 ?rest7q8
  case hy7q8 => (intro wS hSw; (try dsimp only at hSw); go_simp; try with_reducible rfl)
  try simp only [Act.put, List.setIfInBounds_toArray, List.set_cons_zero, List.set_cons_succ]
  refine held_quiet 8 (v := ?v8q9) rfl (by kernel_rfl) (fun _ _ _ h => h) (by assumption) rfl ?hy8q9 ?rest8q9
  case hy8q9 => (intro wS hSw; (try dsimp only at hSw); go_simp; try with_reducible rfl)
  try simp only [Act.put, List.setIfInBounds_toArray, List.set_cons_zero, List.set_cons_succ]
  refine held_quiet 9 (v := ?v9q10) rfl (by kernel_rfl) (fun _ _ _ h => h) (by assumption) rfl ?hy9q10 ?rest9q10
  case hy9q10 => (intro wS hSw; (try dsimp only at hSw); go_simp; try with_reducible rfl)
  try simp only [Act.put, List.setIfInBounds_toArray, List.set_cons_zero, List.set_cons_succ]
  refine held_quiet 10 (v := ?v10q11) rfl (by kernel_rfl) (fun _ _ _ h => h) (by assumption) rfl ?hy10q11 ?rest10q11
  case hy10q11 => (intro wS hSw; (try dsimp only at hSw); go_simp; try with_reducible rfl)
  try simp only [Act.put, List.setIfInBounds_toArray, List.set_cons_zero, List.set_cons_succ]
  refine held_quiet 11 (v := ?v11q12) rfl (by kernel_rfl) (fun _ _ _ h => h) (by assumption) rfl ?hy11q12 ?rest11q12
  case hy11q12 => (intro wS hSw; (try dsimp only at hSw); go_simp; try with_reducible rfl)
  try simp only [Act.put, List.setIfInBounds_toArray, List.set_cons_zero, List.set_cons_succ]
  refine held_quiet 12 (v := ?v12q13) rfl (by kernel_rfl) (fun _ _ _ h => h) (by assumption) rfl ?hy12q13 ?rest12q13
  case hy12q13 => (intro wS hSw; (try dsimp only at hSw); go_simp; try with_reducible rfl)
  try simp only [Act.put, List.setIfInBounds_toArray, List.set_cons_zero, List.set_cons_succ]
  refine held_quiet 13 (v := ?v13q14) rfl (by kernel_rfl) (fun _ _ _ h => h) (by assumption) rfl ?hy13q14 ?rest13q14
  case hy13q14 => (intro wS hSw; (try dsimp only at hSw); go_simp; try with_reducible rfl)
  try simp only [Act.put, List.setIfInBounds_toArray, List.set_cons_zero, List.set_cons_succ]
  refine held_quiet 14 (v := ?v14q15) rfl (by kernel_rfl) (fun _ _ _ h => h) (by assumption) rfl ?hy14q15 ?rest14q15
  case hy14q15 => (intro wS hSw; (try dsimp only at hSw); go_simp; try with_reducible rfl)
  try simp only [Act.put, List.setIfInBounds_toArray, List.set_cons_zero, List.set_cons_succ]
  refine held_quiet 15 (v := ?v15q16) rfl (by kernel_rfl) (fun _ _ _ h => h) (by assumption) rfl ?hy15q16 ?rest15q16
  case hy15q16 => (intro wS hSw; (try dsimp only at hSw); go_simp; try with_reducible rfl)
  try simp only [Act.put, List.setIfInBounds_toArray, List.set_cons_zero, List.set_cons_succ]
  refine held_quiet 16 (v := ?v16q17) rfl (by kernel_rfl) (fun _ _ _ h => h) (by assumption) rfl ?hy16q17 ?rest16q17
  case hy16q17 => (intro wS hSw; (try dsimp only at hSw); go_simp; try with_reducible rfl)
  try simp only [Act.put, List.setIfInBounds_toArray, List.set_cons_zero, List.set_cons_succ]
  refine held_quiet 17 (v := ?v17q18) rfl (by kernel_rfl) (fun _ _ _ h => h) (by assumption) rfl ?hy17q18 ?rest17q18
  case hy17q18 => (intro wS hSw; (try dsimp only at hSw); go_simp; try with_reducible rfl)
  try simp only [Act.put, List.setIfInBounds_toArray, List.set_cons_zero, List.set_cons_succ]
  refine held_quiet 18 (v := ?v18q19) rfl (by kernel_rfl) (fun _ _ _ h => h) (by assumption) rfl ?hy18q19 ?rest18q19
  case hy18q19 => (intro wS hSw; (try dsimp only at hSw); go_simp; try with_reducible rfl)
  try simp only [Act.put, List.setIfInBounds_toArray, List.set_cons_zero, List.set_cons_succ]
  refine held_quiet 19 (v := ?v19q20) rfl (by kernel_rfl) (fun _ _ _ h => h) (by assumption) rfl ?hy19q20 ?rest19q20
  case hy19q20 => (intro wS hSw; (try dsimp only at hSw); go_simp; try with_reducible rfl)
  try simp only [Act.put, List.setIfInBounds_toArray, List.set_cons_zero, List.set_cons_succ]
  refine held_quiet 20 (v := ?v20q21) rfl (by kernel_rfl) (fun _ _ _ h => h) (by assumption) rfl ?hy20q21 ?rest20q21
  case hy20q21 => (intro wS hSw; (try dsimp only at hSw); go_simp; try with_reducible rfl)
  try simp only [Act.put, List.setIfInBounds_toArray, List.set_cons_zero, List.set_cons_succ]
  refine held_quiet 21 (v := ?v21q22) rfl (by kernel_rfl) (fun _ _ _ h => h) (by assumption) rfl ?hy21q22 ?rest21q22
  case hy21q22 => (intro wS hSw; (try dsimp only at hSw); go_simp; try with_reducible rfl)
  try simp only [Act.put, List.setIfInBounds_toArray, List.set_cons_zero, List.set_cons_succ]
  refine held_one 22 rfl (by kernel_rfl) ?_
  go_wp2
  try refine ⟨⟨sA _ _ _ _ a_3, sA _ _ _ _ a_4, sA _ _ _ _ a_5, sA _ _ _ _ g_0, sA _ _ _ _ g_1, sA _ _ _ _ g_2⟩, ?_⟩
  refine held_one 23 rfl (by kernel_rfl) ?_
  go_wp2
  try refine ⟨⟨sA _ _ _ _ a_3, sA _ _ _ _ a_4, sA _ _ _ _ a_5, sA _ _ _ _ g_0, sA _ _ _ _ g_1, sA _ _ _ _ g_2⟩, ?_⟩
  refine held_done (by kernel_rfl) ?_
  clear hS sA
  have hz := Go.Joins.unfrozen_of_block HPZ.out
  have pz := HPZ.out
  have z_0 := Go.Joins.cell_of_block pz 0
  have z_1 := Go.Joins.cell_of_block pz 1
  have z_2 := Go.Joins.cell_of_block pz 2
  have z_3 := Go.Joins.cell_of_block pz 3
  have z_4 := Go.Joins.cell_of_block pz 4
  have z_5 := Go.Joins.cell_of_block pz 5
  have z_6 := Go.Joins.cell_of_block pz 6
  have z_7 := Go.Joins.cell_of_block pz 7
  have z_8 := Go.Joins.cell_of_block pz 8
  have z_9 := Go.Joins.cell_of_block pz 9
  simp only [List.getElem?_toArray, List.getElem?_cons_zero, List.getElem?_cons_succ] at z_0 z_1 z_2 z_3 z_4 z_5 z_6 z_7 z_8 z_9
  clear pz
  go_wp2
  obtain ⟨r1, r2⟩ := set_sup HPZ.out (.int .u64 (U : Int)) (.int .u64 (e : Int)) (.int .i64 (Q : Int)) (.int .i64 (C : Int)) (.int .i64 (K : Int)) (.int .i64 (R : Int)) (.bool cl) (.int .i64 (B : Int)) (.int .i64 ((C : Int) + 1)) (.int .i64 (G : Int))
  have R2 : Hid (Below w.heap.size w ((((((((((w0.setCell ⟨w.heap.size + 1, 0, none⟩ (.int .u64 (U : Int))).setCell ⟨w.heap.size + 1, 1, none⟩ (.int .u64 (e : Int))).setCell ⟨w.heap.size + 1, 2, none⟩ (.int .i64 (Q : Int))).setCell ⟨w.heap.size + 1, 3, none⟩ (.int .i64 (C : Int))).setCell ⟨w.heap.size + 1, 4, none⟩ (.int .i64 (K : Int))).setCell ⟨w.heap.size + 1, 5, none⟩ (.int .i64 (R : Int))).setCell ⟨w.heap.size + 1, 6, none⟩ (.bool cl)).setCell ⟨w.heap.size + 1, 7, none⟩ (.int .i64 (B : Int))).setCell ⟨w.heap.size + 1, 8, none⟩ (.int .i64 ((C : Int) + 1))).setCell ⟨w.heap.size + 1, 9, none⟩ (.int .i64 (G : Int)))) := HB0.out.trans (r2.mono (Nat.le_succ _))
  clear r2
  generalize ((((((((((w0.setCell ⟨w.heap.size + 1, 0, none⟩ (.int .u64 (U : Int))).setCell ⟨w.heap.size + 1, 1, none⟩ (.int .u64 (e : Int))).setCell ⟨w.heap.size + 1, 2, none⟩ (.int .i64 (Q : Int))).setCell ⟨w.heap.size + 1, 3, none⟩ (.int .i64 (C : Int))).setCell ⟨w.heap.size + 1, 4, none⟩ (.int .i64 (K : Int))).setCell ⟨w.heap.size + 1, 5, none⟩ (.int .i64 (R : Int))).setCell ⟨w.heap.size + 1, 6, none⟩ (.bool cl)).setCell ⟨w.heap.size + 1, 7, none⟩ (.int .i64 (B : Int))).setCell ⟨w.heap.size + 1, 8, none⟩ (.int .i64 ((C : Int) + 1))).setCell ⟨w.heap.size + 1, 9, none⟩ (.int .i64 (G : Int))) = wz at *
  have ltz : w.heap.size + 1 < wz.heap.size := (Array.getElem?_eq_some_iff.1 r1).1
  have r3 : ((wz.alloc (.cells #[.int .u64 (U : Int), .int .u64 (e : Int), .int .i64 (Q : Int), .int .i64 (C : Int), .int .i64 (K : Int), .int .i64 (R : Int), .bool cl, .int .i64 (B : Int), .int .i64 ((C : Int) + 1), .int .i64 (G : Int)] 26)).drew).heap[w.heap.size + 1]? = _ := (Below.heap_alloc wz (.cells #[.int .u64 (U : Int), .int .u64 (e : Int), .int .i64 (Q : Int), .int .i64 (C : Int), .int .i64 (K : Int), .int .i64 (R : Int), .bool cl, .int .i64 (B : Int), .int .i64 ((C : Int) + 1), .int .i64 (G : Int)] 26) _ ltz).trans r1
  have R3 : Hid (Below w.heap.size w (wz.alloc (.cells #[.int .u64 (U : Int), .int .u64 (e : Int), .int .i64 (Q : Int), .int .i64 (C : Int), .int .i64 (K : Int), .int .i64 (R : Int), .bool cl, .int .i64 (B : Int), .int .i64 ((C : Int) + 1), .int .i64 (G : Int)] 26)).drew) := (R2.out.alloc (by omega) _).drew
  clear ltz r1 R2
  generalize (wz.alloc (.cells #[.int .u64 (U : Int), .int .u64 (e : Int), .int .i64 (Q : Int), .int .i64 (C : Int), .int .i64 (K : Int), .int .i64 (R : Int), .bool cl, .int .i64 (B : Int), .int .i64 ((C : Int) + 1), .int .i64 (G : Int)] 26)).drew = wy at *
  have d0 := Go.Joins.cell_of_block r3 0
  have d1 := Go.Joins.cell_of_block r3 1
  have d2 := Go.Joins.cell_of_block r3 2
  have d3 := Go.Joins.cell_of_block r3 3
  have d4 := Go.Joins.cell_of_block r3 4
  have d5 := Go.Joins.cell_of_block r3 5
  have d6 := Go.Joins.cell_of_block r3 6
  have d7 := Go.Joins.cell_of_block r3 7
  have d8 := Go.Joins.cell_of_block r3 8
  have d9 := Go.Joins.cell_of_block r3 9
  simp only [List.getElem?_toArray, List.getElem?_cons_zero, List.getElem?_cons_succ] at d0 d1 d2 d3 d4 d5 d6 d7 d8 d9
  clear r3
  refine bodyPost_ret (v := .agg #[.int .u64 (U : Int), .int .u64 (e : Int), .int .i64 (Q : Int), .int .i64 (C : Int), .int .i64 (K : Int), .int .i64 (R : Int), .bool cl, .int .i64 (B : Int), .int .i64 ((C : Int) + 1), .int .i64 (G : Int)]) (by simp [results, asAddr]; go_simp; try rfl) rfl ⟨rfl, R3.out⟩
set_option linter.unusedVariables false in
set_option maxRecDepth 100000 in
set_option maxHeartbeats 8000000 in
theorem some_pn (u e a0 a1 a2 a3 a4 a5 a6 a7 U C K R D B G Q : Nat) (cl : Bool) (h0 : a0 < 256) (h1 : a1 < 256) (h2 : a2 < 256) (h3 : a3 < 256) (h4 : a4 < 256) (h5 : a5 < 256) (h6 : a6 < 256) (h7 : a7 < 256) (hU : max (u : Int) 1 = (U : Int)) (hC : 4 + (a0 : Int) % 6 = (C : Int)) (c1 : 4 ≤ C) (c2 : C ≤ 9) (hK : 1 + (a1 : Int) % 4 = (K : Int)) (hR : 1 + (a2 : Int) = (R : Int)) (r1 : 1 ≤ R) (r2 : R ≤ 256)
    (hcl : ((a4 : Int) % 2 == 0) = cl) (hD : (a3 : Int) % (C : Int) = (D : Int)) (hB : (a5 : Int) % ((R : Int) + 1) = (B : Int)) (hG : (a7 : Int) % ((R : Int) + 1) = (G : Int)) (hQ : 254 + (a3 : Int) % 2 = (Q : Int)) (g6 : ((a6 : Int) % 2 == 0) = true) (g5 : ((a4 : Int) % 5 == 0) = false) (w : World) :
    Calls Try.prog 18 #[.int .u64 (u : Int), .int .u64 (e : Int), .agg #[.int .u8 (a0 : Int), .int .u8 (a1 : Int), .int .u8 (a2 : Int), .int .u8 (a3 : Int), .int .u8 (a4 : Int), .int .u8 (a5 : Int), .int .u8 (a6 : Int), .int .u8 (a7 : Int)]] w fun en w' => en = .returned (supV ⟨U, e, (D : Int), (C : Int), (K : Int), (R : Int), cl, (B : Int), (C : Int) + 1, (G : Int)⟩) ∧ Below w.heap.size w w' := by
  have hmax : ∀ (ts : Array TypeId) (ty : TypeId) (W : World), (Builtin.max_ ts ty #[.int .u64 (u : Int), .int .u64 1]).run Try.prog W = .ok (.int .u64 (U : Int)) W := by
    intro ts ty W
    rw [← hU]
    simp [Builtin.max_, Builtin.max2]
    omega
  have zC : ((C : Int) == 0) = false := by simp; omega
  have zR : ((R : Int) + 1 == 0) = false := by simp; omega
  have wR : IntKind.i64.wrap ((R : Int) + 1) = (R : Int) + 1 := by rw [IntKind.wrap_i64]; omega
  have nC : ¬ C = 0 := by omega
  have nR : ¬ (R : Int) + 1 = 0 := by omega
  have wa3 : IntKind.i64.wrap (a3 : Int) = (a3 : Int) := by rw [IntKind.wrap_i64]; omega
  have wa5 : IntKind.i64.wrap (a5 : Int) = (a5 : Int) := by rw [IntKind.wrap_i64]; omega
  have tm3 : (a3 : Int).tmod (C : Int) = (D : Int) := by rw [Int.tmod_eq_emod_of_nonneg (by omega)]; exact hD
  have tm5 : (a5 : Int).tmod ((R : Int) + 1) = (B : Int) := by rw [Int.tmod_eq_emod_of_nonneg (by omega)]; exact hB
  have tm4 : (a4 : Int).tmod 2 = (a4 : Int) % 2 := Int.tmod_eq_emod_of_nonneg (by omega)
  have HMX : Hid (Try.prog.follows .mixedOrders = true) := by show _ = _; kernel_rfl
  have HST : Hid _ := three_start w #[.int .u8 (a0 : Int), .int .u8 (a1 : Int), .int .u8 (a2 : Int), .int .u8 (a3 : Int), .int .u8 (a4 : Int), .int .u8 (a5 : Int), .int .u8 (a6 : Int), .int .u8 (a7 : Int)] 40 #[.int .u64 0, .int .u64 0, .int .i64 0, .int .i64 0, .int .i64 0, .int .i64 0, .bool false, .int .i64 0, .int .i64 0, .int .i64 0] 26 #[.int .i64 (C : Int), .int .i64 (K : Int), .int .i64 (R : Int)] 24
  clear hU
  unfold supV
  dsimp only
  go_enter Try.func18, Try.ntmps18
  go_wp2_with fail
  have HS0 := HST.out
  obtain ⟨w0, hw0⟩ : ∃ w0, ((w.alloc (.cells #[.int .u8 (a0 : Int), .int .u8 (a1 : Int), .int .u8 (a2 : Int), .int .u8 (a3 : Int), .int .u8 (a4 : Int), .int .u8 (a5 : Int), .int .u8 (a6 : Int), .int .u8 (a7 : Int)] 40)).alloc (.cells #[.int .u64 0, .int .u64 0, .int .i64 0, .int .i64 0, .int .i64 0, .int .i64 0, .bool false, .int .i64 0, .int .i64 0, .int .i64 0] 26)).alloc (.cells #[.int .i64 (C : Int), .int .i64 (K : Int), .int .i64 (R : Int)] 24) = w0 := ⟨_, rfl⟩
  rw [hw0] at HS0 ⊢
  clear hw0 HST
  obtain ⟨pa, pz, pg, hb0, sz0⟩ := HS0
  have a_0 := Go.Joins.cell_of_block pa 0
  have a_1 := Go.Joins.cell_of_block pa 1
  have a_2 := Go.Joins.cell_of_block pa 2
  have a_3 := Go.Joins.cell_of_block pa 3
  have a_4 := Go.Joins.cell_of_block pa 4
  have a_5 := Go.Joins.cell_of_block pa 5
  have a_6 := Go.Joins.cell_of_block pa 6
  have a_7 := Go.Joins.cell_of_block pa 7
  simp only [List.getElem?_toArray, List.getElem?_cons_zero, List.getElem?_cons_succ] at a_0 a_1 a_2 a_3 a_4 a_5 a_6 a_7
  have g_0 := Go.Joins.cell_of_block pg 0
  have g_1 := Go.Joins.cell_of_block pg 1
  have g_2 := Go.Joins.cell_of_block pg 2
  simp only [List.getElem?_toArray, List.getElem?_cons_zero, List.getElem?_cons_succ] at g_0 g_1 g_2
  have HPZ : Hid _ := pz
  have HB0 : Hid (Below w.heap.size w w0) := hb0
  clear pa pz pg hb0
  refine wp_region_held (S := fun W => W.cell? ⟨w.heap.size, 3, none⟩ = some (.int .u8 (a3 : Int)) ∧ W.cell? ⟨w.heap.size, 4, none⟩ = some (.int .u8 (a4 : Int)) ∧ W.cell? ⟨w.heap.size, 5, none⟩ = some (.int .u8 (a5 : Int)) ∧ W.cell? ⟨w.heap.size + 1 + 1, 0, none⟩ = some (.int .i64 (C : Int)) ∧ W.cell? ⟨w.heap.size + 1 + 1, 1, none⟩ = some (.int .i64 (K : Int)) ∧ W.cell? ⟨w.heap.size + 1 + 1, 2, none⟩ = some (.int .i64 (R : Int))) HMX.out ?_
  have hS : (fun W : World => W.cell? ⟨w.heap.size, 3, none⟩ = some (.int .u8 (a3 : Int)) ∧ W.cell? ⟨w.heap.size, 4, none⟩ = some (.int .u8 (a4 : Int)) ∧ W.cell? ⟨w.heap.size, 5, none⟩ = some (.int .u8 (a5 : Int)) ∧ W.cell? ⟨w.heap.size + 1 + 1, 0, none⟩ = some (.int .i64 (C : Int)) ∧ W.cell? ⟨w.heap.size + 1 + 1, 1, none⟩ = some (.int .i64 (K : Int)) ∧ W.cell? ⟨w.heap.size + 1 + 1, 2, none⟩ = some (.int .i64 (R : Int))) w0.drew := ⟨a_3, a_4, a_5, g_0, g_1, g_2⟩
  have sA : ∀ (O : Obj) b j v, w0.cell? ⟨b, j, none⟩ = some v → (w0.alloc O).cell? ⟨b, j, none⟩ = some v := fun O b j v h => (((Below.refl _ w0).alloc (Nat.le_refl _) O).cell (p := ⟨b, j, none⟩) (World.block_lt_of_cell? w0 _ h)).trans h
  change wpAnyH _ _ _ _ _ _ _ _ w0.drew
  refine held_quiet 0 (v := ?v0q23) rfl (by kernel_rfl) (fun _ _ _ h => h) (by assumption) rfl ?hy0q23 ?rest0q23
  case hy0q23 => (intro wS hSw; (try dsimp only at hSw); go_simp; try with_reducible rfl)
  try simp only [Act.put, List.setIfInBounds_toArray, List.set_cons_zero, List.set_cons_succ]
  refine held_quiet 1 (v := ?v1q24) rfl (by kernel_rfl) (fun _ _ _ h => h) (by assumption) rfl ?hy1q24 ?rest1q24
  case hy1q24 => (intro wS hSw; (try dsimp only at hSw); go_simp; try with_reducible rfl)
  try simp only [Act.put, List.setIfInBounds_toArray, List.set_cons_zero, List.set_cons_succ]
  refine held_quiet 2 (v := ?v2q25) rfl (by kernel_rfl) (fun _ _ _ h => h) (by assumption) rfl ?hy2q25 ?rest2q25
  case hy2q25 => (intro wS hSw; (try dsimp only at hSw); go_simp; try with_reducible rfl)
  try simp only [Act.put, List.setIfInBounds_toArray, List.set_cons_zero, List.set_cons_succ]
  refine held_quiet 3 (v := ?v3q26) rfl (by kernel_rfl) (fun _ _ _ h => h) (by assumption) rfl ?hy3q26 ?rest3q26
  case hy3q26 => (intro wS hSw; (try dsimp only at hSw); go_simp; try with_reducible rfl)
  try simp only [Act.put, List.setIfInBounds_toArray, List.set_cons_zero, List.set_cons_succ]
  refine held_quiet 4 (v := ?v4q27) rfl (by kernel_rfl) (fun _ _ _ h => h) (by assumption) rfl ?hy4q27 ?rest4q27
  case hy4q27 => (intro wS hSw; (try dsimp only at hSw); go_simp; try with_reducible rfl)
  try simp only [Act.put, List.setIfInBounds_toArray, List.set_cons_zero, List.set_cons_succ]
  refine held_quiet 5 (v := ?v5q28) rfl (by kernel_rfl) (fun _ _ _ h => h) (by assumption) rfl ?hy5q28 ?rest5q28
  case hy5q28 => (intro wS hSw; (try dsimp only at hSw); go_simp; try with_reducible rfl)
  try simp only [Act.put, List.setIfInBounds_toArray, List.set_cons_zero, List.set_cons_succ]
  refine held_quiet 6 (v := ?v6q29) rfl (by kernel_rfl) (fun _ _ _ h => h) (by assumption) rfl ?hy6q29 ?rest6q29
  case hy6q29 => (intro wS hSw; (try dsimp only at hSw); go_simp; try with_reducible rfl)
  try simp only [Act.put, List.setIfInBounds_toArray, List.set_cons_zero, List.set_cons_succ]
  refine held_quiet 7 (v := ?v7q30) rfl (by kernel_rfl) (fun _ _ _ h => h) (by assumption) rfl ?hy7q30 ?rest7q30
  case hy7q30 => (intro wS hSw; (try dsimp only at hSw); go_simp; try with_reducible rfl)
  try simp only [Act.put, List.setIfInBounds_toArray, List.set_cons_zero, List.set_cons_succ]
  refine held_quiet 8 (v := ?v8q31) rfl (by kernel_rfl) (fun _ _ _ h => h) (by assumption) rfl ?hy8q31 ?rest8q31
  case hy8q31 => (intro wS hSw; (try dsimp only at hSw); go_simp; try with_reducible rfl)
  try simp only [Act.put, List.setIfInBounds_toArray, List.set_cons_zero, List.set_cons_succ]
  refine held_quiet 9 (v := ?v9q32) rfl (by kernel_rfl) (fun _ _ _ h => h) (by assumption) rfl ?hy9q32 ?rest9q32
  case hy9q32 => (intro wS hSw; (try dsimp only at hSw); go_simp; try with_reducible rfl)
  try simp only [Act.put, List.setIfInBounds_toArray, List.set_cons_zero, List.set_cons_succ]
  refine held_quiet 10 (v := ?v10q33) rfl (by kernel_rfl) (fun _ _ _ h => h) (by assumption) rfl ?hy10q33 ?rest10q33
  case hy10q33 => (intro wS hSw; (try dsimp only at hSw); go_simp; try with_reducible rfl)
  try simp only [Act.put, List.setIfInBounds_toArray, List.set_cons_zero, List.set_cons_succ]
  refine held_quiet 11 (v := ?v11q34) rfl (by kernel_rfl) (fun _ _ _ h => h) (by assumption) rfl ?hy11q34 ?rest11q34
  case hy11q34 => (intro wS hSw; (try dsimp only at hSw); go_simp; try with_reducible rfl)
  try simp only [Act.put, List.setIfInBounds_toArray, List.set_cons_zero, List.set_cons_succ]
  refine held_quiet 12 (v := ?v12q35) rfl (by kernel_rfl) (fun _ _ _ h => h) (by assumption) rfl ?hy12q35 ?rest12q35
  case hy12q35 => (intro wS hSw; (try dsimp only at hSw); go_simp; try with_reducible rfl)
  try simp only [Act.put, List.setIfInBounds_toArray, List.set_cons_zero, List.set_cons_succ]
  refine held_quiet 13 (v := ?v13q36) rfl (by kernel_rfl) (fun _ _ _ h => h) (by assumption) rfl ?hy13q36 ?rest13q36
  case hy13q36 => (intro wS hSw; (try dsimp only at hSw); go_simp; try with_reducible rfl)
  try simp only [Act.put, List.setIfInBounds_toArray, List.set_cons_zero, List.set_cons_succ]
  refine held_quiet 14 (v := ?v14q37) rfl (by kernel_rfl) (fun _ _ _ h => h) (by assumption) rfl ?hy14q37 ?rest14q37
  case hy14q37 => (intro wS hSw; (try dsimp only at hSw); go_simp; try with_reducible rfl)
  try simp only [Act.put, List.setIfInBounds_toArray, List.set_cons_zero, List.set_cons_succ]
  refine held_quiet 15 (v := ?v15q38) rfl (by kernel_rfl) (fun _ _ _ h => h) (by assumption) rfl ?hy15q38 ?rest15q38
  case hy15q38 => (intro wS hSw; (try dsimp only at hSw); go_simp; try with_reducible rfl)
  try simp only [Act.put, List.setIfInBounds_toArray, List.set_cons_zero, List.set_cons_succ]
  refine held_quiet 16 (v := ?v16q39) rfl (by kernel_rfl) (fun _ _ _ h => h) (by assumption) rfl ?hy16q39 ?rest16q39
  case hy16q39 => (intro wS hSw; (try dsimp only at hSw); go_simp; try with_reducible rfl)
  try simp only [Act.put, List.setIfInBounds_toArray, List.set_cons_zero, List.set_cons_succ]
  refine held_quiet 17 (v := ?v17q40) rfl (by kernel_rfl) (fun _ _ _ h => h) (by assumption) rfl ?hy17q40 ?rest17q40
  case hy17q40 => (intro wS hSw; (try dsimp only at hSw); go_simp; try with_reducible rfl)
  try simp only [Act.put, List.setIfInBounds_toArray, List.set_cons_zero, List.set_cons_succ]
  refine held_quiet 18 (v := ?v18q41) rfl (by kernel_rfl) (fun _ _ _ h => h) (by assumption) rfl ?hy18q41 ?rest18q41
  case hy18q41 => (intro wS hSw; (try dsimp only at hSw); go_simp; try with_reducible rfl)
  try simp only [Act.put, List.setIfInBounds_toArray, List.set_cons_zero, List.set_cons_succ]
  refine held_quiet 19 (v := ?v19q42) rfl (by kernel_rfl) (fun _ _ _ h => h) (by assumption) rfl ?hy19q42 ?rest19q42
  case hy19q42 => (intro wS hSw; (try dsimp only at hSw); go_simp; try with_reducible rfl)
  try simp only [Act.put, List.setIfInBounds_toArray, List.set_cons_zero, List.set_cons_succ]
  refine held_quiet 20 (v := ?v20q43) rfl (by kernel_rfl) (fun _ _ _ h => h) (by assumption) rfl ?hy20q43 ?rest20q43
  case hy20q43 => (intro wS hSw; (try dsimp only at hSw); go_simp; try with_reducible rfl)
  try simp only [Act.put, List.setIfInBounds_toArray, List.set_cons_zero, List.set_cons_succ]
  refine held_quiet 21 (v := ?v21q44) rfl (by kernel_rfl) (fun _ _ _ h => h) (by assumption) rfl ?hy21q44 ?rest21q44
  case hy21q44 => (intro wS hSw; (try dsimp only at hSw); go_simp; try with_reducible rfl)
  try simp only [Act.put, List.setIfInBounds_toArray, List.set_cons_zero, List.set_cons_succ]
  refine held_one 22 rfl (by kernel_rfl) ?_
  go_wp2
  try refine ⟨⟨sA _ _ _ _ a_3, sA _ _ _ _ a_4, sA _ _ _ _ a_5, sA _ _ _ _ g_0, sA _ _ _ _ g_1, sA _ _ _ _ g_2⟩, ?_⟩
  refine held_one 23 rfl (by kernel_rfl) ?_
  go_wp2
  try refine ⟨⟨sA _ _ _ _ a_3, sA _ _ _ _ a_4, sA _ _ _ _ a_5, sA _ _ _ _ g_0, sA _ _ _ _ g_1, sA _ _ _ _ g_2⟩, ?_⟩
  refine held_done (by kernel_rfl) ?_
  clear hS sA
  have hz := Go.Joins.unfrozen_of_block HPZ.out
  have pz := HPZ.out
  have z_0 := Go.Joins.cell_of_block pz 0
  have z_1 := Go.Joins.cell_of_block pz 1
  have z_2 := Go.Joins.cell_of_block pz 2
  have z_3 := Go.Joins.cell_of_block pz 3
  have z_4 := Go.Joins.cell_of_block pz 4
  have z_5 := Go.Joins.cell_of_block pz 5
  have z_6 := Go.Joins.cell_of_block pz 6
  have z_7 := Go.Joins.cell_of_block pz 7
  have z_8 := Go.Joins.cell_of_block pz 8
  have z_9 := Go.Joins.cell_of_block pz 9
  simp only [List.getElem?_toArray, List.getElem?_cons_zero, List.getElem?_cons_succ] at z_0 z_1 z_2 z_3 z_4 z_5 z_6 z_7 z_8 z_9
  clear pz
  go_wp2
  obtain ⟨r1, r2⟩ := set_sup HPZ.out (.int .u64 (U : Int)) (.int .u64 (e : Int)) (.int .i64 (D : Int)) (.int .i64 (C : Int)) (.int .i64 (K : Int)) (.int .i64 (R : Int)) (.bool cl) (.int .i64 (B : Int)) (.int .i64 ((C : Int) + 1)) (.int .i64 (G : Int))
  have R2 : Hid (Below w.heap.size w ((((((((((w0.setCell ⟨w.heap.size + 1, 0, none⟩ (.int .u64 (U : Int))).setCell ⟨w.heap.size + 1, 1, none⟩ (.int .u64 (e : Int))).setCell ⟨w.heap.size + 1, 2, none⟩ (.int .i64 (D : Int))).setCell ⟨w.heap.size + 1, 3, none⟩ (.int .i64 (C : Int))).setCell ⟨w.heap.size + 1, 4, none⟩ (.int .i64 (K : Int))).setCell ⟨w.heap.size + 1, 5, none⟩ (.int .i64 (R : Int))).setCell ⟨w.heap.size + 1, 6, none⟩ (.bool cl)).setCell ⟨w.heap.size + 1, 7, none⟩ (.int .i64 (B : Int))).setCell ⟨w.heap.size + 1, 8, none⟩ (.int .i64 ((C : Int) + 1))).setCell ⟨w.heap.size + 1, 9, none⟩ (.int .i64 (G : Int)))) := HB0.out.trans (r2.mono (Nat.le_succ _))
  clear r2
  generalize ((((((((((w0.setCell ⟨w.heap.size + 1, 0, none⟩ (.int .u64 (U : Int))).setCell ⟨w.heap.size + 1, 1, none⟩ (.int .u64 (e : Int))).setCell ⟨w.heap.size + 1, 2, none⟩ (.int .i64 (D : Int))).setCell ⟨w.heap.size + 1, 3, none⟩ (.int .i64 (C : Int))).setCell ⟨w.heap.size + 1, 4, none⟩ (.int .i64 (K : Int))).setCell ⟨w.heap.size + 1, 5, none⟩ (.int .i64 (R : Int))).setCell ⟨w.heap.size + 1, 6, none⟩ (.bool cl)).setCell ⟨w.heap.size + 1, 7, none⟩ (.int .i64 (B : Int))).setCell ⟨w.heap.size + 1, 8, none⟩ (.int .i64 ((C : Int) + 1))).setCell ⟨w.heap.size + 1, 9, none⟩ (.int .i64 (G : Int))) = wz at *
  have ltz : w.heap.size + 1 < wz.heap.size := (Array.getElem?_eq_some_iff.1 r1).1
  have r3 : ((wz.alloc (.cells #[.int .u64 (U : Int), .int .u64 (e : Int), .int .i64 (D : Int), .int .i64 (C : Int), .int .i64 (K : Int), .int .i64 (R : Int), .bool cl, .int .i64 (B : Int), .int .i64 ((C : Int) + 1), .int .i64 (G : Int)] 26)).drew).heap[w.heap.size + 1]? = _ := (Below.heap_alloc wz (.cells #[.int .u64 (U : Int), .int .u64 (e : Int), .int .i64 (D : Int), .int .i64 (C : Int), .int .i64 (K : Int), .int .i64 (R : Int), .bool cl, .int .i64 (B : Int), .int .i64 ((C : Int) + 1), .int .i64 (G : Int)] 26) _ ltz).trans r1
  have R3 : Hid (Below w.heap.size w (wz.alloc (.cells #[.int .u64 (U : Int), .int .u64 (e : Int), .int .i64 (D : Int), .int .i64 (C : Int), .int .i64 (K : Int), .int .i64 (R : Int), .bool cl, .int .i64 (B : Int), .int .i64 ((C : Int) + 1), .int .i64 (G : Int)] 26)).drew) := (R2.out.alloc (by omega) _).drew
  clear ltz r1 R2
  generalize (wz.alloc (.cells #[.int .u64 (U : Int), .int .u64 (e : Int), .int .i64 (D : Int), .int .i64 (C : Int), .int .i64 (K : Int), .int .i64 (R : Int), .bool cl, .int .i64 (B : Int), .int .i64 ((C : Int) + 1), .int .i64 (G : Int)] 26)).drew = wy at *
  have d0 := Go.Joins.cell_of_block r3 0
  have d1 := Go.Joins.cell_of_block r3 1
  have d2 := Go.Joins.cell_of_block r3 2
  have d3 := Go.Joins.cell_of_block r3 3
  have d4 := Go.Joins.cell_of_block r3 4
  have d5 := Go.Joins.cell_of_block r3 5
  have d6 := Go.Joins.cell_of_block r3 6
  have d7 := Go.Joins.cell_of_block r3 7
  have d8 := Go.Joins.cell_of_block r3 8
  have d9 := Go.Joins.cell_of_block r3 9
  simp only [List.getElem?_toArray, List.getElem?_cons_zero, List.getElem?_cons_succ] at d0 d1 d2 d3 d4 d5 d6 d7 d8 d9
  clear r3
  refine bodyPost_ret (v := .agg #[.int .u64 (U : Int), .int .u64 (e : Int), .int .i64 (D : Int), .int .i64 (C : Int), .int .i64 (K : Int), .int .i64 (R : Int), .bool cl, .int .i64 (B : Int), .int .i64 ((C : Int) + 1), .int .i64 (G : Int)]) (by simp [results, asAddr]; go_simp; try rfl) rfl ⟨rfl, R3.out⟩
set_option linter.unusedVariables false in
set_option maxRecDepth 100000 in
set_option maxHeartbeats 8000000 in
theorem some_np (u e a0 a1 a2 a3 a4 a5 a6 a7 U C K R D B G Q : Nat) (cl : Bool) (h0 : a0 < 256) (h1 : a1 < 256) (h2 : a2 < 256) (h3 : a3 < 256) (h4 : a4 < 256) (h5 : a5 < 256) (h6 : a6 < 256) (h7 : a7 < 256) (hU : max (u : Int) 1 = (U : Int)) (hC : 4 + (a0 : Int) % 6 = (C : Int)) (c1 : 4 ≤ C) (c2 : C ≤ 9) (hK : 1 + (a1 : Int) % 4 = (K : Int)) (hR : 1 + (a2 : Int) = (R : Int)) (r1 : 1 ≤ R) (r2 : R ≤ 256)
    (hcl : ((a4 : Int) % 2 == 0) = cl) (hD : (a3 : Int) % (C : Int) = (D : Int)) (hB : (a5 : Int) % ((R : Int) + 1) = (B : Int)) (hG : (a7 : Int) % ((R : Int) + 1) = (G : Int)) (hQ : 254 + (a3 : Int) % 2 = (Q : Int)) (g6 : ((a6 : Int) % 2 == 0) = false) (g5 : ((a4 : Int) % 5 == 0) = true) (w : World) :
    Calls Try.prog 18 #[.int .u64 (u : Int), .int .u64 (e : Int), .agg #[.int .u8 (a0 : Int), .int .u8 (a1 : Int), .int .u8 (a2 : Int), .int .u8 (a3 : Int), .int .u8 (a4 : Int), .int .u8 (a5 : Int), .int .u8 (a6 : Int), .int .u8 (a7 : Int)]] w fun en w' => en = .returned (supV ⟨U, e, (Q : Int), (C : Int), (K : Int), (R : Int), cl, (B : Int), 0, 0⟩) ∧ Below w.heap.size w w' := by
  have hmax : ∀ (ts : Array TypeId) (ty : TypeId) (W : World), (Builtin.max_ ts ty #[.int .u64 (u : Int), .int .u64 1]).run Try.prog W = .ok (.int .u64 (U : Int)) W := by
    intro ts ty W
    rw [← hU]
    simp [Builtin.max_, Builtin.max2]
    omega
  have zC : ((C : Int) == 0) = false := by simp; omega
  have zR : ((R : Int) + 1 == 0) = false := by simp; omega
  have wR : IntKind.i64.wrap ((R : Int) + 1) = (R : Int) + 1 := by rw [IntKind.wrap_i64]; omega
  have nC : ¬ C = 0 := by omega
  have nR : ¬ (R : Int) + 1 = 0 := by omega
  have wa3 : IntKind.i64.wrap (a3 : Int) = (a3 : Int) := by rw [IntKind.wrap_i64]; omega
  have wa5 : IntKind.i64.wrap (a5 : Int) = (a5 : Int) := by rw [IntKind.wrap_i64]; omega
  have tm3 : (a3 : Int).tmod (C : Int) = (D : Int) := by rw [Int.tmod_eq_emod_of_nonneg (by omega)]; exact hD
  have tm5 : (a5 : Int).tmod ((R : Int) + 1) = (B : Int) := by rw [Int.tmod_eq_emod_of_nonneg (by omega)]; exact hB
  have tm4 : (a4 : Int).tmod 2 = (a4 : Int) % 2 := Int.tmod_eq_emod_of_nonneg (by omega)
  have HMX : Hid (Try.prog.follows .mixedOrders = true) := by show _ = _; kernel_rfl
  have HST : Hid _ := three_start w #[.int .u8 (a0 : Int), .int .u8 (a1 : Int), .int .u8 (a2 : Int), .int .u8 (a3 : Int), .int .u8 (a4 : Int), .int .u8 (a5 : Int), .int .u8 (a6 : Int), .int .u8 (a7 : Int)] 40 #[.int .u64 0, .int .u64 0, .int .i64 0, .int .i64 0, .int .i64 0, .int .i64 0, .bool false, .int .i64 0, .int .i64 0, .int .i64 0] 26 #[.int .i64 (C : Int), .int .i64 (K : Int), .int .i64 (R : Int)] 24
  clear hU
  unfold supV
  dsimp only
  go_enter Try.func18, Try.ntmps18
  go_wp2_with fail
  have HS0 := HST.out
  obtain ⟨w0, hw0⟩ : ∃ w0, ((w.alloc (.cells #[.int .u8 (a0 : Int), .int .u8 (a1 : Int), .int .u8 (a2 : Int), .int .u8 (a3 : Int), .int .u8 (a4 : Int), .int .u8 (a5 : Int), .int .u8 (a6 : Int), .int .u8 (a7 : Int)] 40)).alloc (.cells #[.int .u64 0, .int .u64 0, .int .i64 0, .int .i64 0, .int .i64 0, .int .i64 0, .bool false, .int .i64 0, .int .i64 0, .int .i64 0] 26)).alloc (.cells #[.int .i64 (C : Int), .int .i64 (K : Int), .int .i64 (R : Int)] 24) = w0 := ⟨_, rfl⟩
  rw [hw0] at HS0 ⊢
  clear hw0 HST
  obtain ⟨pa, pz, pg, hb0, sz0⟩ := HS0
  have a_0 := Go.Joins.cell_of_block pa 0
  have a_1 := Go.Joins.cell_of_block pa 1
  have a_2 := Go.Joins.cell_of_block pa 2
  have a_3 := Go.Joins.cell_of_block pa 3
  have a_4 := Go.Joins.cell_of_block pa 4
  have a_5 := Go.Joins.cell_of_block pa 5
  have a_6 := Go.Joins.cell_of_block pa 6
  have a_7 := Go.Joins.cell_of_block pa 7
  simp only [List.getElem?_toArray, List.getElem?_cons_zero, List.getElem?_cons_succ] at a_0 a_1 a_2 a_3 a_4 a_5 a_6 a_7
  have g_0 := Go.Joins.cell_of_block pg 0
  have g_1 := Go.Joins.cell_of_block pg 1
  have g_2 := Go.Joins.cell_of_block pg 2
  simp only [List.getElem?_toArray, List.getElem?_cons_zero, List.getElem?_cons_succ] at g_0 g_1 g_2
  have HPZ : Hid _ := pz
  have HB0 : Hid (Below w.heap.size w w0) := hb0
  clear pa pz pg hb0
  refine wp_region_held (S := fun W => W.cell? ⟨w.heap.size, 3, none⟩ = some (.int .u8 (a3 : Int)) ∧ W.cell? ⟨w.heap.size, 4, none⟩ = some (.int .u8 (a4 : Int)) ∧ W.cell? ⟨w.heap.size, 5, none⟩ = some (.int .u8 (a5 : Int)) ∧ W.cell? ⟨w.heap.size + 1 + 1, 0, none⟩ = some (.int .i64 (C : Int)) ∧ W.cell? ⟨w.heap.size + 1 + 1, 1, none⟩ = some (.int .i64 (K : Int)) ∧ W.cell? ⟨w.heap.size + 1 + 1, 2, none⟩ = some (.int .i64 (R : Int))) HMX.out ?_
  have hS : (fun W : World => W.cell? ⟨w.heap.size, 3, none⟩ = some (.int .u8 (a3 : Int)) ∧ W.cell? ⟨w.heap.size, 4, none⟩ = some (.int .u8 (a4 : Int)) ∧ W.cell? ⟨w.heap.size, 5, none⟩ = some (.int .u8 (a5 : Int)) ∧ W.cell? ⟨w.heap.size + 1 + 1, 0, none⟩ = some (.int .i64 (C : Int)) ∧ W.cell? ⟨w.heap.size + 1 + 1, 1, none⟩ = some (.int .i64 (K : Int)) ∧ W.cell? ⟨w.heap.size + 1 + 1, 2, none⟩ = some (.int .i64 (R : Int))) w0.drew := ⟨a_3, a_4, a_5, g_0, g_1, g_2⟩
  have sA : ∀ (O : Obj) b j v, w0.cell? ⟨b, j, none⟩ = some v → (w0.alloc O).cell? ⟨b, j, none⟩ = some v := fun O b j v h => (((Below.refl _ w0).alloc (Nat.le_refl _) O).cell (p := ⟨b, j, none⟩) (World.block_lt_of_cell? w0 _ h)).trans h
  change wpAnyH _ _ _ _ _ _ _ _ w0.drew
  refine held_quiet 0 (v := ?v0q45) rfl (by kernel_rfl) (fun _ _ _ h => h) (by assumption) rfl ?hy0q45 ?rest0q45
  case hy0q45 => (intro wS hSw; (try dsimp only at hSw); go_simp; try with_reducible rfl)
  try simp only [Act.put, List.setIfInBounds_toArray, List.set_cons_zero, List.set_cons_succ]
  refine held_quiet 1 (v := ?v1q46) rfl (by kernel_rfl) (fun _ _ _ h => h) (by assumption) rfl ?hy1q46 ?rest1q46
  case hy1q46 => (intro wS hSw; (try dsimp only at hSw); go_simp; try with_reducible rfl)
  try simp only [Act.put, List.setIfInBounds_toArray, List.set_cons_zero, List.set_cons_succ]
  refine held_quiet 2 (v := ?v2q47) rfl (by kernel_rfl) (fun _ _ _ h => h) (by assumption) rfl ?hy2q47 ?rest2q47
  case hy2q47 => (intro wS hSw; (try dsimp only at hSw); go_simp; try with_reducible rfl)
  try simp only [Act.put, List.setIfInBounds_toArray, List.set_cons_zero, List.set_cons_succ]
  refine held_quiet 3 (v := ?v3q48) rfl (by kernel_rfl) (fun _ _ _ h => h) (by assumption) rfl ?hy3q48 ?rest3q48
  case hy3q48 => (intro wS hSw; (try dsimp only at hSw); go_simp; try with_reducible rfl)
  try simp only [Act.put, List.setIfInBounds_toArray, List.set_cons_zero, List.set_cons_succ]
  refine held_quiet 4 (v := ?v4q49) rfl (by kernel_rfl) (fun _ _ _ h => h) (by assumption) rfl ?hy4q49 ?rest4q49
  case hy4q49 => (intro wS hSw; (try dsimp only at hSw); go_simp; try with_reducible rfl)
  try simp only [Act.put, List.setIfInBounds_toArray, List.set_cons_zero, List.set_cons_succ]
  refine held_quiet 5 (v := ?v5q50) rfl (by kernel_rfl) (fun _ _ _ h => h) (by assumption) rfl ?hy5q50 ?rest5q50
  case hy5q50 => (intro wS hSw; (try dsimp only at hSw); go_simp; try with_reducible rfl)
  try simp only [Act.put, List.setIfInBounds_toArray, List.set_cons_zero, List.set_cons_succ]
  refine held_quiet 6 (v := ?v6q51) rfl (by kernel_rfl) (fun _ _ _ h => h) (by assumption) rfl ?hy6q51 ?rest6q51
  case hy6q51 => (intro wS hSw; (try dsimp only at hSw); go_simp; try with_reducible rfl)
  try simp only [Act.put, List.setIfInBounds_toArray, List.set_cons_zero, List.set_cons_succ]
  refine held_quiet 7 (v := ?v7q52) rfl (by kernel_rfl) (fun _ _ _ h => h) (by assumption) rfl ?hy7q52 ?rest7q52
  case hy7q52 => (intro wS hSw; (try dsimp only at hSw); go_simp; try with_reducible rfl)
  try simp only [Act.put, List.setIfInBounds_toArray, List.set_cons_zero, List.set_cons_succ]
  refine held_quiet 8 (v := ?v8q53) rfl (by kernel_rfl) (fun _ _ _ h => h) (by assumption) rfl ?hy8q53 ?rest8q53
  case hy8q53 => (intro wS hSw; (try dsimp only at hSw); go_simp; try with_reducible rfl)
  try simp only [Act.put, List.setIfInBounds_toArray, List.set_cons_zero, List.set_cons_succ]
  refine held_quiet 9 (v := ?v9q54) rfl (by kernel_rfl) (fun _ _ _ h => h) (by assumption) rfl ?hy9q54 ?rest9q54
  case hy9q54 => (intro wS hSw; (try dsimp only at hSw); go_simp; try with_reducible rfl)
  try simp only [Act.put, List.setIfInBounds_toArray, List.set_cons_zero, List.set_cons_succ]
  refine held_quiet 10 (v := ?v10q55) rfl (by kernel_rfl) (fun _ _ _ h => h) (by assumption) rfl ?hy10q55 ?rest10q55
  case hy10q55 => (intro wS hSw; (try dsimp only at hSw); go_simp; try with_reducible rfl)
  try simp only [Act.put, List.setIfInBounds_toArray, List.set_cons_zero, List.set_cons_succ]
  refine held_quiet 11 (v := ?v11q56) rfl (by kernel_rfl) (fun _ _ _ h => h) (by assumption) rfl ?hy11q56 ?rest11q56
  case hy11q56 => (intro wS hSw; (try dsimp only at hSw); go_simp; try with_reducible rfl)
  try simp only [Act.put, List.setIfInBounds_toArray, List.set_cons_zero, List.set_cons_succ]
  refine held_quiet 12 (v := ?v12q57) rfl (by kernel_rfl) (fun _ _ _ h => h) (by assumption) rfl ?hy12q57 ?rest12q57
  case hy12q57 => (intro wS hSw; (try dsimp only at hSw); go_simp; try with_reducible rfl)
  try simp only [Act.put, List.setIfInBounds_toArray, List.set_cons_zero, List.set_cons_succ]
  refine held_quiet 13 (v := ?v13q58) rfl (by kernel_rfl) (fun _ _ _ h => h) (by assumption) rfl ?hy13q58 ?rest13q58
  case hy13q58 => (intro wS hSw; (try dsimp only at hSw); go_simp; try with_reducible rfl)
  try simp only [Act.put, List.setIfInBounds_toArray, List.set_cons_zero, List.set_cons_succ]
  refine held_quiet 14 (v := ?v14q59) rfl (by kernel_rfl) (fun _ _ _ h => h) (by assumption) rfl ?hy14q59 ?rest14q59
  case hy14q59 => (intro wS hSw; (try dsimp only at hSw); go_simp; try with_reducible rfl)
  try simp only [Act.put, List.setIfInBounds_toArray, List.set_cons_zero, List.set_cons_succ]
  refine held_quiet 15 (v := ?v15q60) rfl (by kernel_rfl) (fun _ _ _ h => h) (by assumption) rfl ?hy15q60 ?rest15q60
  case hy15q60 => (intro wS hSw; (try dsimp only at hSw); go_simp; try with_reducible rfl)
  try simp only [Act.put, List.setIfInBounds_toArray, List.set_cons_zero, List.set_cons_succ]
  refine held_quiet 16 (v := ?v16q61) rfl (by kernel_rfl) (fun _ _ _ h => h) (by assumption) rfl ?hy16q61 ?rest16q61
  case hy16q61 => (intro wS hSw; (try dsimp only at hSw); go_simp; try with_reducible rfl)
  try simp only [Act.put, List.setIfInBounds_toArray, List.set_cons_zero, List.set_cons_succ]
  refine held_quiet 17 (v := ?v17q62) rfl (by kernel_rfl) (fun _ _ _ h => h) (by assumption) rfl ?hy17q62 ?rest17q62
  case hy17q62 => (intro wS hSw; (try dsimp only at hSw); go_simp; try with_reducible rfl)
  try simp only [Act.put, List.setIfInBounds_toArray, List.set_cons_zero, List.set_cons_succ]
  refine held_quiet 18 (v := ?v18q63) rfl (by kernel_rfl) (fun _ _ _ h => h) (by assumption) rfl ?hy18q63 ?rest18q63
  case hy18q63 => (intro wS hSw; (try dsimp only at hSw); go_simp; try with_reducible rfl)
  try simp only [Act.put, List.setIfInBounds_toArray, List.set_cons_zero, List.set_cons_succ]
  refine held_quiet 19 (v := ?v19q64) rfl (by kernel_rfl) (fun _ _ _ h => h) (by assumption) rfl ?hy19q64 ?rest19q64
  case hy19q64 => (intro wS hSw; (try dsimp only at hSw); go_simp; try with_reducible rfl)
  try simp only [Act.put, List.setIfInBounds_toArray, List.set_cons_zero, List.set_cons_succ]
  refine held_quiet 20 (v := ?v20q65) rfl (by kernel_rfl) (fun _ _ _ h => h) (by assumption) rfl ?hy20q65 ?rest20q65
  case hy20q65 => (intro wS hSw; (try dsimp only at hSw); go_simp; try with_reducible rfl)
  try simp only [Act.put, List.setIfInBounds_toArray, List.set_cons_zero, List.set_cons_succ]
  refine held_quiet 21 (v := ?v21q66) rfl (by kernel_rfl) (fun _ _ _ h => h) (by assumption) rfl ?hy21q66 ?rest21q66
  case hy21q66 => (intro wS hSw; (try dsimp only at hSw); go_simp; try with_reducible rfl)
  try simp only [Act.put, List.setIfInBounds_toArray, List.set_cons_zero, List.set_cons_succ]
  refine held_one 22 rfl (by kernel_rfl) ?_
  go_wp2
  try refine ⟨⟨sA _ _ _ _ a_3, sA _ _ _ _ a_4, sA _ _ _ _ a_5, sA _ _ _ _ g_0, sA _ _ _ _ g_1, sA _ _ _ _ g_2⟩, ?_⟩
  refine held_one 23 rfl (by kernel_rfl) ?_
  go_wp2
  try refine ⟨⟨sA _ _ _ _ a_3, sA _ _ _ _ a_4, sA _ _ _ _ a_5, sA _ _ _ _ g_0, sA _ _ _ _ g_1, sA _ _ _ _ g_2⟩, ?_⟩
  refine held_done (by kernel_rfl) ?_
  clear hS sA
  have hz := Go.Joins.unfrozen_of_block HPZ.out
  have pz := HPZ.out
  have z_0 := Go.Joins.cell_of_block pz 0
  have z_1 := Go.Joins.cell_of_block pz 1
  have z_2 := Go.Joins.cell_of_block pz 2
  have z_3 := Go.Joins.cell_of_block pz 3
  have z_4 := Go.Joins.cell_of_block pz 4
  have z_5 := Go.Joins.cell_of_block pz 5
  have z_6 := Go.Joins.cell_of_block pz 6
  have z_7 := Go.Joins.cell_of_block pz 7
  have z_8 := Go.Joins.cell_of_block pz 8
  have z_9 := Go.Joins.cell_of_block pz 9
  simp only [List.getElem?_toArray, List.getElem?_cons_zero, List.getElem?_cons_succ] at z_0 z_1 z_2 z_3 z_4 z_5 z_6 z_7 z_8 z_9
  clear pz
  go_wp2
  obtain ⟨r1, r2⟩ := set_sup HPZ.out (.int .u64 (U : Int)) (.int .u64 (e : Int)) (.int .i64 (Q : Int)) (.int .i64 (C : Int)) (.int .i64 (K : Int)) (.int .i64 (R : Int)) (.bool cl) (.int .i64 (B : Int)) (.int .i64 (0)) (.int .i64 0)
  have R2 : Hid (Below w.heap.size w ((((((((((w0.setCell ⟨w.heap.size + 1, 0, none⟩ (.int .u64 (U : Int))).setCell ⟨w.heap.size + 1, 1, none⟩ (.int .u64 (e : Int))).setCell ⟨w.heap.size + 1, 2, none⟩ (.int .i64 (Q : Int))).setCell ⟨w.heap.size + 1, 3, none⟩ (.int .i64 (C : Int))).setCell ⟨w.heap.size + 1, 4, none⟩ (.int .i64 (K : Int))).setCell ⟨w.heap.size + 1, 5, none⟩ (.int .i64 (R : Int))).setCell ⟨w.heap.size + 1, 6, none⟩ (.bool cl)).setCell ⟨w.heap.size + 1, 7, none⟩ (.int .i64 (B : Int))).setCell ⟨w.heap.size + 1, 8, none⟩ (.int .i64 (0))).setCell ⟨w.heap.size + 1, 9, none⟩ (.int .i64 0))) := HB0.out.trans (r2.mono (Nat.le_succ _))
  clear r2
  generalize ((((((((((w0.setCell ⟨w.heap.size + 1, 0, none⟩ (.int .u64 (U : Int))).setCell ⟨w.heap.size + 1, 1, none⟩ (.int .u64 (e : Int))).setCell ⟨w.heap.size + 1, 2, none⟩ (.int .i64 (Q : Int))).setCell ⟨w.heap.size + 1, 3, none⟩ (.int .i64 (C : Int))).setCell ⟨w.heap.size + 1, 4, none⟩ (.int .i64 (K : Int))).setCell ⟨w.heap.size + 1, 5, none⟩ (.int .i64 (R : Int))).setCell ⟨w.heap.size + 1, 6, none⟩ (.bool cl)).setCell ⟨w.heap.size + 1, 7, none⟩ (.int .i64 (B : Int))).setCell ⟨w.heap.size + 1, 8, none⟩ (.int .i64 (0))).setCell ⟨w.heap.size + 1, 9, none⟩ (.int .i64 0)) = wz at *
  have ltz : w.heap.size + 1 < wz.heap.size := (Array.getElem?_eq_some_iff.1 r1).1
  have r3 : ((wz.alloc (.cells #[.int .u64 (U : Int), .int .u64 (e : Int), .int .i64 (Q : Int), .int .i64 (C : Int), .int .i64 (K : Int), .int .i64 (R : Int), .bool cl, .int .i64 (B : Int), .int .i64 (0), .int .i64 0] 26)).drew).heap[w.heap.size + 1]? = _ := (Below.heap_alloc wz (.cells #[.int .u64 (U : Int), .int .u64 (e : Int), .int .i64 (Q : Int), .int .i64 (C : Int), .int .i64 (K : Int), .int .i64 (R : Int), .bool cl, .int .i64 (B : Int), .int .i64 (0), .int .i64 0] 26) _ ltz).trans r1
  have R3 : Hid (Below w.heap.size w (wz.alloc (.cells #[.int .u64 (U : Int), .int .u64 (e : Int), .int .i64 (Q : Int), .int .i64 (C : Int), .int .i64 (K : Int), .int .i64 (R : Int), .bool cl, .int .i64 (B : Int), .int .i64 (0), .int .i64 0] 26)).drew) := (R2.out.alloc (by omega) _).drew
  clear ltz r1 R2
  generalize (wz.alloc (.cells #[.int .u64 (U : Int), .int .u64 (e : Int), .int .i64 (Q : Int), .int .i64 (C : Int), .int .i64 (K : Int), .int .i64 (R : Int), .bool cl, .int .i64 (B : Int), .int .i64 (0), .int .i64 0] 26)).drew = wy at *
  have d0 := Go.Joins.cell_of_block r3 0
  have d1 := Go.Joins.cell_of_block r3 1
  have d2 := Go.Joins.cell_of_block r3 2
  have d3 := Go.Joins.cell_of_block r3 3
  have d4 := Go.Joins.cell_of_block r3 4
  have d5 := Go.Joins.cell_of_block r3 5
  have d6 := Go.Joins.cell_of_block r3 6
  have d7 := Go.Joins.cell_of_block r3 7
  have d8 := Go.Joins.cell_of_block r3 8
  have d9 := Go.Joins.cell_of_block r3 9
  simp only [List.getElem?_toArray, List.getElem?_cons_zero, List.getElem?_cons_succ] at d0 d1 d2 d3 d4 d5 d6 d7 d8 d9
  clear r3
  refine bodyPost_ret (v := .agg #[.int .u64 (U : Int), .int .u64 (e : Int), .int .i64 (Q : Int), .int .i64 (C : Int), .int .i64 (K : Int), .int .i64 (R : Int), .bool cl, .int .i64 (B : Int), .int .i64 (0), .int .i64 0]) (by simp [results, asAddr]; go_simp; try rfl) rfl ⟨rfl, R3.out⟩
set_option linter.unusedVariables false in
set_option maxRecDepth 100000 in
set_option maxHeartbeats 8000000 in
theorem some_nn (u e a0 a1 a2 a3 a4 a5 a6 a7 U C K R D B G Q : Nat) (cl : Bool) (h0 : a0 < 256) (h1 : a1 < 256) (h2 : a2 < 256) (h3 : a3 < 256) (h4 : a4 < 256) (h5 : a5 < 256) (h6 : a6 < 256) (h7 : a7 < 256) (hU : max (u : Int) 1 = (U : Int)) (hC : 4 + (a0 : Int) % 6 = (C : Int)) (c1 : 4 ≤ C) (c2 : C ≤ 9) (hK : 1 + (a1 : Int) % 4 = (K : Int)) (hR : 1 + (a2 : Int) = (R : Int)) (r1 : 1 ≤ R) (r2 : R ≤ 256)
    (hcl : ((a4 : Int) % 2 == 0) = cl) (hD : (a3 : Int) % (C : Int) = (D : Int)) (hB : (a5 : Int) % ((R : Int) + 1) = (B : Int)) (hG : (a7 : Int) % ((R : Int) + 1) = (G : Int)) (hQ : 254 + (a3 : Int) % 2 = (Q : Int)) (g6 : ((a6 : Int) % 2 == 0) = false) (g5 : ((a4 : Int) % 5 == 0) = false) (w : World) :
    Calls Try.prog 18 #[.int .u64 (u : Int), .int .u64 (e : Int), .agg #[.int .u8 (a0 : Int), .int .u8 (a1 : Int), .int .u8 (a2 : Int), .int .u8 (a3 : Int), .int .u8 (a4 : Int), .int .u8 (a5 : Int), .int .u8 (a6 : Int), .int .u8 (a7 : Int)]] w fun en w' => en = .returned (supV ⟨U, e, (D : Int), (C : Int), (K : Int), (R : Int), cl, (B : Int), 0, 0⟩) ∧ Below w.heap.size w w' := by
  have hmax : ∀ (ts : Array TypeId) (ty : TypeId) (W : World), (Builtin.max_ ts ty #[.int .u64 (u : Int), .int .u64 1]).run Try.prog W = .ok (.int .u64 (U : Int)) W := by
    intro ts ty W
    rw [← hU]
    simp [Builtin.max_, Builtin.max2]
    omega
  have zC : ((C : Int) == 0) = false := by simp; omega
  have zR : ((R : Int) + 1 == 0) = false := by simp; omega
  have wR : IntKind.i64.wrap ((R : Int) + 1) = (R : Int) + 1 := by rw [IntKind.wrap_i64]; omega
  have nC : ¬ C = 0 := by omega
  have nR : ¬ (R : Int) + 1 = 0 := by omega
  have wa3 : IntKind.i64.wrap (a3 : Int) = (a3 : Int) := by rw [IntKind.wrap_i64]; omega
  have wa5 : IntKind.i64.wrap (a5 : Int) = (a5 : Int) := by rw [IntKind.wrap_i64]; omega
  have tm3 : (a3 : Int).tmod (C : Int) = (D : Int) := by rw [Int.tmod_eq_emod_of_nonneg (by omega)]; exact hD
  have tm5 : (a5 : Int).tmod ((R : Int) + 1) = (B : Int) := by rw [Int.tmod_eq_emod_of_nonneg (by omega)]; exact hB
  have tm4 : (a4 : Int).tmod 2 = (a4 : Int) % 2 := Int.tmod_eq_emod_of_nonneg (by omega)
  have HMX : Hid (Try.prog.follows .mixedOrders = true) := by show _ = _; kernel_rfl
  have HST : Hid _ := three_start w #[.int .u8 (a0 : Int), .int .u8 (a1 : Int), .int .u8 (a2 : Int), .int .u8 (a3 : Int), .int .u8 (a4 : Int), .int .u8 (a5 : Int), .int .u8 (a6 : Int), .int .u8 (a7 : Int)] 40 #[.int .u64 0, .int .u64 0, .int .i64 0, .int .i64 0, .int .i64 0, .int .i64 0, .bool false, .int .i64 0, .int .i64 0, .int .i64 0] 26 #[.int .i64 (C : Int), .int .i64 (K : Int), .int .i64 (R : Int)] 24
  clear hU
  unfold supV
  dsimp only
  go_enter Try.func18, Try.ntmps18
  go_wp2_with fail
  have HS0 := HST.out
  obtain ⟨w0, hw0⟩ : ∃ w0, ((w.alloc (.cells #[.int .u8 (a0 : Int), .int .u8 (a1 : Int), .int .u8 (a2 : Int), .int .u8 (a3 : Int), .int .u8 (a4 : Int), .int .u8 (a5 : Int), .int .u8 (a6 : Int), .int .u8 (a7 : Int)] 40)).alloc (.cells #[.int .u64 0, .int .u64 0, .int .i64 0, .int .i64 0, .int .i64 0, .int .i64 0, .bool false, .int .i64 0, .int .i64 0, .int .i64 0] 26)).alloc (.cells #[.int .i64 (C : Int), .int .i64 (K : Int), .int .i64 (R : Int)] 24) = w0 := ⟨_, rfl⟩
  rw [hw0] at HS0 ⊢
  clear hw0 HST
  obtain ⟨pa, pz, pg, hb0, sz0⟩ := HS0
  have a_0 := Go.Joins.cell_of_block pa 0
  have a_1 := Go.Joins.cell_of_block pa 1
  have a_2 := Go.Joins.cell_of_block pa 2
  have a_3 := Go.Joins.cell_of_block pa 3
  have a_4 := Go.Joins.cell_of_block pa 4
  have a_5 := Go.Joins.cell_of_block pa 5
  have a_6 := Go.Joins.cell_of_block pa 6
  have a_7 := Go.Joins.cell_of_block pa 7
  simp only [List.getElem?_toArray, List.getElem?_cons_zero, List.getElem?_cons_succ] at a_0 a_1 a_2 a_3 a_4 a_5 a_6 a_7
  have g_0 := Go.Joins.cell_of_block pg 0
  have g_1 := Go.Joins.cell_of_block pg 1
  have g_2 := Go.Joins.cell_of_block pg 2
  simp only [List.getElem?_toArray, List.getElem?_cons_zero, List.getElem?_cons_succ] at g_0 g_1 g_2
  have HPZ : Hid _ := pz
  have HB0 : Hid (Below w.heap.size w w0) := hb0
  clear pa pz pg hb0
  refine wp_region_held (S := fun W => W.cell? ⟨w.heap.size, 3, none⟩ = some (.int .u8 (a3 : Int)) ∧ W.cell? ⟨w.heap.size, 4, none⟩ = some (.int .u8 (a4 : Int)) ∧ W.cell? ⟨w.heap.size, 5, none⟩ = some (.int .u8 (a5 : Int)) ∧ W.cell? ⟨w.heap.size + 1 + 1, 0, none⟩ = some (.int .i64 (C : Int)) ∧ W.cell? ⟨w.heap.size + 1 + 1, 1, none⟩ = some (.int .i64 (K : Int)) ∧ W.cell? ⟨w.heap.size + 1 + 1, 2, none⟩ = some (.int .i64 (R : Int))) HMX.out ?_
  have hS : (fun W : World => W.cell? ⟨w.heap.size, 3, none⟩ = some (.int .u8 (a3 : Int)) ∧ W.cell? ⟨w.heap.size, 4, none⟩ = some (.int .u8 (a4 : Int)) ∧ W.cell? ⟨w.heap.size, 5, none⟩ = some (.int .u8 (a5 : Int)) ∧ W.cell? ⟨w.heap.size + 1 + 1, 0, none⟩ = some (.int .i64 (C : Int)) ∧ W.cell? ⟨w.heap.size + 1 + 1, 1, none⟩ = some (.int .i64 (K : Int)) ∧ W.cell? ⟨w.heap.size + 1 + 1, 2, none⟩ = some (.int .i64 (R : Int))) w0.drew := ⟨a_3, a_4, a_5, g_0, g_1, g_2⟩
  have sA : ∀ (O : Obj) b j v, w0.cell? ⟨b, j, none⟩ = some v → (w0.alloc O).cell? ⟨b, j, none⟩ = some v := fun O b j v h => (((Below.refl _ w0).alloc (Nat.le_refl _) O).cell (p := ⟨b, j, none⟩) (World.block_lt_of_cell? w0 _ h)).trans h
  change wpAnyH _ _ _ _ _ _ _ _ w0.drew
  refine held_quiet 0 (v := ?v0q67) rfl (by kernel_rfl) (fun _ _ _ h => h) (by assumption) rfl ?hy0q67 ?rest0q67
  case hy0q67 => (intro wS hSw; (try dsimp only at hSw); go_simp; try with_reducible rfl)
  try simp only [Act.put, List.setIfInBounds_toArray, List.set_cons_zero, List.set_cons_succ]
  refine held_quiet 1 (v := ?v1q68) rfl (by kernel_rfl) (fun _ _ _ h => h) (by assumption) rfl ?hy1q68 ?rest1q68
  case hy1q68 => (intro wS hSw; (try dsimp only at hSw); go_simp; try with_reducible rfl)
  try simp only [Act.put, List.setIfInBounds_toArray, List.set_cons_zero, List.set_cons_succ]
  refine held_quiet 2 (v := ?v2q69) rfl (by kernel_rfl) (fun _ _ _ h => h) (by assumption) rfl ?hy2q69 ?rest2q69
  case hy2q69 => (intro wS hSw; (try dsimp only at hSw); go_simp; try with_reducible rfl)
  try simp only [Act.put, List.setIfInBounds_toArray, List.set_cons_zero, List.set_cons_succ]
  refine held_quiet 3 (v := ?v3q70) rfl (by kernel_rfl) (fun _ _ _ h => h) (by assumption) rfl ?hy3q70 ?rest3q70
  case hy3q70 => (intro wS hSw; (try dsimp only at hSw); go_simp; try with_reducible rfl)
  try simp only [Act.put, List.setIfInBounds_toArray, List.set_cons_zero, List.set_cons_succ]
  refine held_quiet 4 (v := ?v4q71) rfl (by kernel_rfl) (fun _ _ _ h => h) (by assumption) rfl ?hy4q71 ?rest4q71
  case hy4q71 => (intro wS hSw; (try dsimp only at hSw); go_simp; try with_reducible rfl)
  try simp only [Act.put, List.setIfInBounds_toArray, List.set_cons_zero, List.set_cons_succ]
  refine held_quiet 5 (v := ?v5q72) rfl (by kernel_rfl) (fun _ _ _ h => h) (by assumption) rfl ?hy5q72 ?rest5q72
  case hy5q72 => (intro wS hSw; (try dsimp only at hSw); go_simp; try with_reducible rfl)
  try simp only [Act.put, List.setIfInBounds_toArray, List.set_cons_zero, List.set_cons_succ]
  refine held_quiet 6 (v := ?v6q73) rfl (by kernel_rfl) (fun _ _ _ h => h) (by assumption) rfl ?hy6q73 ?rest6q73
  case hy6q73 => (intro wS hSw; (try dsimp only at hSw); go_simp; try with_reducible rfl)
  try simp only [Act.put, List.setIfInBounds_toArray, List.set_cons_zero, List.set_cons_succ]
  refine held_quiet 7 (v := ?v7q74) rfl (by kernel_rfl) (fun _ _ _ h => h) (by assumption) rfl ?hy7q74 ?rest7q74
  case hy7q74 => (intro wS hSw; (try dsimp only at hSw); go_simp; try with_reducible rfl)
  try simp only [Act.put, List.setIfInBounds_toArray, List.set_cons_zero, List.set_cons_succ]
  refine held_quiet 8 (v := ?v8q75) rfl (by kernel_rfl) (fun _ _ _ h => h) (by assumption) rfl ?hy8q75 ?rest8q75
  case hy8q75 => (intro wS hSw; (try dsimp only at hSw); go_simp; try with_reducible rfl)
  try simp only [Act.put, List.setIfInBounds_toArray, List.set_cons_zero, List.set_cons_succ]
  refine held_quiet 9 (v := ?v9q76) rfl (by kernel_rfl) (fun _ _ _ h => h) (by assumption) rfl ?hy9q76 ?rest9q76
  case hy9q76 => (intro wS hSw; (try dsimp only at hSw); go_simp; try with_reducible rfl)
  try simp only [Act.put, List.setIfInBounds_toArray, List.set_cons_zero, List.set_cons_succ]
  refine held_quiet 10 (v := ?v10q77) rfl (by kernel_rfl) (fun _ _ _ h => h) (by assumption) rfl ?hy10q77 ?rest10q77
  case hy10q77 => (intro wS hSw; (try dsimp only at hSw); go_simp; try with_reducible rfl)
  try simp only [Act.put, List.setIfInBounds_toArray, List.set_cons_zero, List.set_cons_succ]
  refine held_quiet 11 (v := ?v11q78) rfl (by kernel_rfl) (fun _ _ _ h => h) (by assumption) rfl ?hy11q78 ?rest11q78
  case hy11q78 => (intro wS hSw; (try dsimp only at hSw); go_simp; try with_reducible rfl)
  try simp only [Act.put, List.setIfInBounds_toArray, List.set_cons_zero, List.set_cons_succ]
  refine held_quiet 12 (v := ?v12q79) rfl (by kernel_rfl) (fun _ _ _ h => h) (by assumption) rfl ?hy12q79 ?rest12q79
  case hy12q79 => (intro wS hSw; (try dsimp only at hSw); go_simp; try with_reducible rfl)
  try simp only [Act.put, List.setIfInBounds_toArray, List.set_cons_zero, List.set_cons_succ]
  refine held_quiet 13 (v := ?v13q80) rfl (by kernel_rfl) (fun _ _ _ h => h) (by assumption) rfl ?hy13q80 ?rest13q80
  case hy13q80 => (intro wS hSw; (try dsimp only at hSw); go_simp; try with_reducible rfl)
  try simp only [Act.put, List.setIfInBounds_toArray, List.set_cons_zero, List.set_cons_succ]
  refine held_quiet 14 (v := ?v14q81) rfl (by kernel_rfl) (fun _ _ _ h => h) (by assumption) rfl ?hy14q81 ?rest14q81
  case hy14q81 => (intro wS hSw; (try dsimp only at hSw); go_simp; try with_reducible rfl)
  try simp only [Act.put, List.setIfInBounds_toArray, List.set_cons_zero, List.set_cons_succ]
  refine held_quiet 15 (v := ?v15q82) rfl (by kernel_rfl) (fun _ _ _ h => h) (by assumption) rfl ?hy15q82 ?rest15q82
  case hy15q82 => (intro wS hSw; (try dsimp only at hSw); go_simp; try with_reducible rfl)
  try simp only [Act.put, List.setIfInBounds_toArray, List.set_cons_zero, List.set_cons_succ]
  refine held_quiet 16 (v := ?v16q83) rfl (by kernel_rfl) (fun _ _ _ h => h) (by assumption) rfl ?hy16q83 ?rest16q83
  case hy16q83 => (intro wS hSw; (try dsimp only at hSw); go_simp; try with_reducible rfl)
  try simp only [Act.put, List.setIfInBounds_toArray, List.set_cons_zero, List.set_cons_succ]
  refine held_quiet 17 (v := ?v17q84) rfl (by kernel_rfl) (fun _ _ _ h => h) (by assumption) rfl ?hy17q84 ?rest17q84
  case hy17q84 => (intro wS hSw; (try dsimp only at hSw); go_simp; try with_reducible rfl)
  try simp only [Act.put, List.setIfInBounds_toArray, List.set_cons_zero, List.set_cons_succ]
  refine held_quiet 18 (v := ?v18q85) rfl (by kernel_rfl) (fun _ _ _ h => h) (by assumption) rfl ?hy18q85 ?rest18q85
  case hy18q85 => (intro wS hSw; (try dsimp only at hSw); go_simp; try with_reducible rfl)
  try simp only [Act.put, List.setIfInBounds_toArray, List.set_cons_zero, List.set_cons_succ]
  refine held_quiet 19 (v := ?v19q86) rfl (by kernel_rfl) (fun _ _ _ h => h) (by assumption) rfl ?hy19q86 ?rest19q86
  case hy19q86 => (intro wS hSw; (try dsimp only at hSw); go_simp; try with_reducible rfl)
  try simp only [Act.put, List.setIfInBounds_toArray, List.set_cons_zero, List.set_cons_succ]
  refine held_quiet 20 (v := ?v20q87) rfl (by kernel_rfl) (fun _ _ _ h => h) (by assumption) rfl ?hy20q87 ?rest20q87
  case hy20q87 => (intro wS hSw; (try dsimp only at hSw); go_simp; try with_reducible rfl)
  try simp only [Act.put, List.setIfInBounds_toArray, List.set_cons_zero, List.set_cons_succ]
  refine held_quiet 21 (v := ?v21q88) rfl (by kernel_rfl) (fun _ _ _ h => h) (by assumption) rfl ?hy21q88 ?rest21q88
  case hy21q88 => (intro wS hSw; (try dsimp only at hSw); go_simp; try with_reducible rfl)
  try simp only [Act.put, List.setIfInBounds_toArray, List.set_cons_zero, List.set_cons_succ]
  refine held_one 22 rfl (by kernel_rfl) ?_
  go_wp2
  try refine ⟨⟨sA _ _ _ _ a_3, sA _ _ _ _ a_4, sA _ _ _ _ a_5, sA _ _ _ _ g_0, sA _ _ _ _ g_1, sA _ _ _ _ g_2⟩, ?_⟩
  refine held_one 23 rfl (by kernel_rfl) ?_
  go_wp2
  try refine ⟨⟨sA _ _ _ _ a_3, sA _ _ _ _ a_4, sA _ _ _ _ a_5, sA _ _ _ _ g_0, sA _ _ _ _ g_1, sA _ _ _ _ g_2⟩, ?_⟩
  refine held_done (by kernel_rfl) ?_
  clear hS sA
  have hz := Go.Joins.unfrozen_of_block HPZ.out
  have pz := HPZ.out
  have z_0 := Go.Joins.cell_of_block pz 0
  have z_1 := Go.Joins.cell_of_block pz 1
  have z_2 := Go.Joins.cell_of_block pz 2
  have z_3 := Go.Joins.cell_of_block pz 3
  have z_4 := Go.Joins.cell_of_block pz 4
  have z_5 := Go.Joins.cell_of_block pz 5
  have z_6 := Go.Joins.cell_of_block pz 6
  have z_7 := Go.Joins.cell_of_block pz 7
  have z_8 := Go.Joins.cell_of_block pz 8
  have z_9 := Go.Joins.cell_of_block pz 9
  simp only [List.getElem?_toArray, List.getElem?_cons_zero, List.getElem?_cons_succ] at z_0 z_1 z_2 z_3 z_4 z_5 z_6 z_7 z_8 z_9
  clear pz
  go_wp2
  obtain ⟨r1, r2⟩ := set_sup HPZ.out (.int .u64 (U : Int)) (.int .u64 (e : Int)) (.int .i64 (D : Int)) (.int .i64 (C : Int)) (.int .i64 (K : Int)) (.int .i64 (R : Int)) (.bool cl) (.int .i64 (B : Int)) (.int .i64 (0)) (.int .i64 0)
  have R2 : Hid (Below w.heap.size w ((((((((((w0.setCell ⟨w.heap.size + 1, 0, none⟩ (.int .u64 (U : Int))).setCell ⟨w.heap.size + 1, 1, none⟩ (.int .u64 (e : Int))).setCell ⟨w.heap.size + 1, 2, none⟩ (.int .i64 (D : Int))).setCell ⟨w.heap.size + 1, 3, none⟩ (.int .i64 (C : Int))).setCell ⟨w.heap.size + 1, 4, none⟩ (.int .i64 (K : Int))).setCell ⟨w.heap.size + 1, 5, none⟩ (.int .i64 (R : Int))).setCell ⟨w.heap.size + 1, 6, none⟩ (.bool cl)).setCell ⟨w.heap.size + 1, 7, none⟩ (.int .i64 (B : Int))).setCell ⟨w.heap.size + 1, 8, none⟩ (.int .i64 (0))).setCell ⟨w.heap.size + 1, 9, none⟩ (.int .i64 0))) := HB0.out.trans (r2.mono (Nat.le_succ _))
  clear r2
  generalize ((((((((((w0.setCell ⟨w.heap.size + 1, 0, none⟩ (.int .u64 (U : Int))).setCell ⟨w.heap.size + 1, 1, none⟩ (.int .u64 (e : Int))).setCell ⟨w.heap.size + 1, 2, none⟩ (.int .i64 (D : Int))).setCell ⟨w.heap.size + 1, 3, none⟩ (.int .i64 (C : Int))).setCell ⟨w.heap.size + 1, 4, none⟩ (.int .i64 (K : Int))).setCell ⟨w.heap.size + 1, 5, none⟩ (.int .i64 (R : Int))).setCell ⟨w.heap.size + 1, 6, none⟩ (.bool cl)).setCell ⟨w.heap.size + 1, 7, none⟩ (.int .i64 (B : Int))).setCell ⟨w.heap.size + 1, 8, none⟩ (.int .i64 (0))).setCell ⟨w.heap.size + 1, 9, none⟩ (.int .i64 0)) = wz at *
  have ltz : w.heap.size + 1 < wz.heap.size := (Array.getElem?_eq_some_iff.1 r1).1
  have r3 : ((wz.alloc (.cells #[.int .u64 (U : Int), .int .u64 (e : Int), .int .i64 (D : Int), .int .i64 (C : Int), .int .i64 (K : Int), .int .i64 (R : Int), .bool cl, .int .i64 (B : Int), .int .i64 (0), .int .i64 0] 26)).drew).heap[w.heap.size + 1]? = _ := (Below.heap_alloc wz (.cells #[.int .u64 (U : Int), .int .u64 (e : Int), .int .i64 (D : Int), .int .i64 (C : Int), .int .i64 (K : Int), .int .i64 (R : Int), .bool cl, .int .i64 (B : Int), .int .i64 (0), .int .i64 0] 26) _ ltz).trans r1
  have R3 : Hid (Below w.heap.size w (wz.alloc (.cells #[.int .u64 (U : Int), .int .u64 (e : Int), .int .i64 (D : Int), .int .i64 (C : Int), .int .i64 (K : Int), .int .i64 (R : Int), .bool cl, .int .i64 (B : Int), .int .i64 (0), .int .i64 0] 26)).drew) := (R2.out.alloc (by omega) _).drew
  clear ltz r1 R2
  generalize (wz.alloc (.cells #[.int .u64 (U : Int), .int .u64 (e : Int), .int .i64 (D : Int), .int .i64 (C : Int), .int .i64 (K : Int), .int .i64 (R : Int), .bool cl, .int .i64 (B : Int), .int .i64 (0), .int .i64 0] 26)).drew = wy at *
  have d0 := Go.Joins.cell_of_block r3 0
  have d1 := Go.Joins.cell_of_block r3 1
  have d2 := Go.Joins.cell_of_block r3 2
  have d3 := Go.Joins.cell_of_block r3 3
  have d4 := Go.Joins.cell_of_block r3 4
  have d5 := Go.Joins.cell_of_block r3 5
  have d6 := Go.Joins.cell_of_block r3 6
  have d7 := Go.Joins.cell_of_block r3 7
  have d8 := Go.Joins.cell_of_block r3 8
  have d9 := Go.Joins.cell_of_block r3 9
  simp only [List.getElem?_toArray, List.getElem?_cons_zero, List.getElem?_cons_succ] at d0 d1 d2 d3 d4 d5 d6 d7 d8 d9
  clear r3
  refine bodyPost_ret (v := .agg #[.int .u64 (U : Int), .int .u64 (e : Int), .int .i64 (D : Int), .int .i64 (C : Int), .int .i64 (K : Int), .int .i64 (R : Int), .bool cl, .int .i64 (B : Int), .int .i64 (0), .int .i64 0]) (by simp [results, asAddr]; go_simp; try rfl) rfl ⟨rfl, R3.out⟩
theorem some_any (u e : Nat) (l : A8) (hl : l.Ok) (w : World) :
    Calls Try.prog 18 #[.int .u64 (u : Int), .int .u64 (e : Int), arrV l] w fun en w' => en = .returned (supV (Sup.someS u e l)) ∧ Below w.heap.size w w' := by
  obtain ⟨a0, a1, a2, a3, a4, a5, a6, a7⟩ := l
  obtain ⟨h0, h1, h2, h3, h4, h5, h6, h7⟩ := hl
  dsimp only at h0 h1 h2 h3 h4 h5 h6 h7
  have hcl : ((a4 : Int) % 2 == 0) = (a4 % 2 == 0) := by rw [Bool.eq_iff_iff, beq_iff_eq, beq_iff_eq]; omega
  unfold arrV Sup.someS
  dsimp only
  by_cases c6 : a6 % 2 = 0
  · have g6 : ((a6 : Int) % 2 == 0) = true := by rw [beq_iff_eq]; omega
    rw [if_pos c6, if_pos c6]
    by_cases c5 : a4 % 5 = 0
    · have g5 : ((a4 : Int) % 5 == 0) = true := by rw [beq_iff_eq]; omega
      rw [if_pos c5]
      exact some_pp u e a0 a1 a2 a3 a4 a5 a6 a7 (max u 1) (4 + a0 % 6) (1 + a1 % 4) (1 + a2) (a3 % (4 + a0 % 6)) (a5 % (1 + a2 + 1)) (a7 % (1 + a2 + 1)) (254 + a3 % 2) (a4 % 2 == 0) h0 h1 h2 h3 h4 h5 h6 h7 (by omega) (by omega) (by omega) (by omega) (by omega) (by omega) (by omega) (by omega) hcl (by rw [Int.natCast_emod]) (by rw [Int.natCast_emod]; rfl) (by rw [Int.natCast_emod]; rfl) (by omega) g6 g5 w
    · have g5 : ((a4 : Int) % 5 == 0) = false := by rw [beq_eq_false_iff_ne]; omega
      rw [if_neg c5]
      exact some_pn u e a0 a1 a2 a3 a4 a5 a6 a7 (max u 1) (4 + a0 % 6) (1 + a1 % 4) (1 + a2) (a3 % (4 + a0 % 6)) (a5 % (1 + a2 + 1)) (a7 % (1 + a2 + 1)) (254 + a3 % 2) (a4 % 2 == 0) h0 h1 h2 h3 h4 h5 h6 h7 (by omega) (by omega) (by omega) (by omega) (by omega) (by omega) (by omega) (by omega) hcl (by rw [Int.natCast_emod]) (by rw [Int.natCast_emod]; rfl) (by rw [Int.natCast_emod]; rfl) (by omega) g6 g5 w
  · have g6 : ((a6 : Int) % 2 == 0) = false := by rw [beq_eq_false_iff_ne]; omega
    rw [if_neg c6, if_neg c6]
    by_cases c5 : a4 % 5 = 0
    · have g5 : ((a4 : Int) % 5 == 0) = true := by rw [beq_iff_eq]; omega
      rw [if_pos c5]
      exact some_np u e a0 a1 a2 a3 a4 a5 a6 a7 (max u 1) (4 + a0 % 6) (1 + a1 % 4) (1 + a2) (a3 % (4 + a0 % 6)) (a5 % (1 + a2 + 1)) (a7 % (1 + a2 + 1)) (254 + a3 % 2) (a4 % 2 == 0) h0 h1 h2 h3 h4 h5 h6 h7 (by omega) (by omega) (by omega) (by omega) (by omega) (by omega) (by omega) (by omega) hcl (by rw [Int.natCast_emod]) (by rw [Int.natCast_emod]; rfl) (by rw [Int.natCast_emod]; rfl) (by omega) g6 g5 w
    · have g5 : ((a4 : Int) % 5 == 0) = false := by rw [beq_eq_false_iff_ne]; omega
      rw [if_neg c5]
      exact some_nn u e a0 a1 a2 a3 a4 a5 a6 a7 (max u 1) (4 + a0 % 6) (1 + a1 % 4) (1 + a2) (a3 % (4 + a0 % 6)) (a5 % (1 + a2 + 1)) (a7 % (1 + a2 + 1)) (254 + a3 % 2) (a4 % 2 == 0) h0 h1 h2 h3 h4 h5 h6 h7 (by omega) (by omega) (by omega) (by omega) (by omega) (by omega) (by omega) (by omega) hcl (by rw [Int.natCast_emod]) (by rw [Int.natCast_emod]; rfl) (by rw [Int.natCast_emod]; rfl) (by omega) g6 g5 w
end Go.Proofs.Ytinegeacpohlcaa
