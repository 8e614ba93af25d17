/- For all numbers the law SuperNew returns true: a superblock of an array that grows tells more columns than it has, and no more rows than there are; one that does not tells none. No condition. -/
import Derived.Test.YtinegeacpohlcaaSup08
import Derived.ProofKit
import Derived.OpenShut
import Derived.ShutString
import Derived.ChangeOld
import Derived.Below
namespace Go.Proofs.Ytinegeacpohlcaa.superNew
open Go.ChangeShapes Go.WideShapes Go.ChangeAt Go.RowKit
open Go.ChangeMaps (open_string shut_string)

/-- what lies in the second of two new blocks, behind a call -/
theorem two_cells (w : World) (A : Array Value) (tA : TypeId) (B : Array Value) (tB : TypeId) (w1 : World) (h : Below ((w.alloc (.cells A tA)).alloc (.cells B tB)).heap.size ((w.alloc (.cells A tA)).alloc (.cells B tB)) w1) :
    w1.heap[w.heap.size + 1]? = some (.cells B tB (0, 0)) ∧ Below w.heap.size w w1 := by
  have s1 : (w.alloc (.cells A tA)).heap.size = w.heap.size + 1 := World.size_alloc ..
  have s2 : ((w.alloc (.cells A tA)).alloc (.cells B tB)).heap.size = w.heap.size + 1 + 1 := by rw [World.size_alloc, s1]
  have e2 := heap_new (w.alloc (.cells A tA)) (.cells B tB)
  rw [s1] at e2
  exact ⟨(h.block _ (by omega)).trans e2, (((Below.refl _ w).alloc (Nat.le_refl _) _).alloc (by omega) _).trans (h.mono (by omega))⟩
set_option linter.unusedVariables false in
set_option maxRecDepth 100000 in
set_option maxHeartbeats 8000000 in
theorem walk_still (u cols more grown role U C N G R M : Nat) (p : Bool) (b1 : cols < 256) (b2 : more < 256) (b3 : grown < 256) (b4 : role < 256) (hU : max (u : Int) 1 = (U : Int)) (hU8 : U < 18446744073709551616) (hC : 4 + (cols : Int) % 7 = (C : Int)) (hN : (more : Int) % 14 = (N : Int)) (hG : (grown : Int) % 12 = (G : Int)) (hR : (role : Int) % 12 = (R : Int)) (hM : max (C : Int) (N : Int) = (M : Int)) (hp : decide (R < M) = p) (c4 : C ≤ 10) (n14 : N < 14) (g12 : G < 12) (r12 : R < 12)
    (h1 : (N : Int) = 0) (h2 : (G : Int) = 0) (hm : Sup.mayB ⟨U, 0, (R : Int), (C : Int), 1, 9, false, 0, (N : Int), (G : Int)⟩ = p) (w : World) :
    Calls Try.prog 7 #[.int .u64 (u : Int), .int .u8 (cols : Int), .int .u8 (more : Int), .int .u8 (grown : Int), .int .u8 (role : Int)] w fun e w' => e = .returned (.bool true) ∧ Below w.heap.size w w' := by
  have d_h1 : ((N : Int) == 0) = true := by rw [beq_iff_eq]; exact h1
  have d_h2 : ((G : Int) == 0) = true := by rw [beq_iff_eq]; exact h2
  have hI : Su.In ⟨U, 0, (R : Int), (C : Int), 1, 9, false, 0, (N : Int), (G : Int)⟩ := ⟨hU8, by dsimp only; omega, by dsimp only; omega, by dsimp only; omega⟩
  have HE := fun W => Encode8_any ⟨U, 0, (R : Int), (C : Int), 1, 9, false, 0, (N : Int), (G : Int)⟩ hI W
  have HM := fun W => May_any ⟨U, 0, (R : Int), (C : Int), 1, 9, false, 0, (N : Int), (G : Int)⟩ hI.nw hI.c W
  rw [hm] at HM
  obtain ⟨n, hn⟩ : ∃ n, Sup.encE ⟨U, 0, (R : Int), (C : Int), 1, 9, false, 0, (N : Int), (G : Int)⟩ = n := ⟨_, rfl⟩
  have hnp : (n == 0) = p := by rw [← hn, ← hm]; unfold Sup.encE; cases Sup.mayB ⟨U, 0, (R : Int), (C : Int), 1, 9, false, 0, (N : Int), (G : Int)⟩ <;> rfl
  rw [hn] at HE
  obtain ⟨T, hT⟩ : ∃ T, Sup.encT ⟨U, 0, (R : Int), (C : Int), 1, 9, false, 0, (N : Int), (G : Int)⟩ = T := ⟨_, rfl⟩
  rw [hT] at HE
  have hmax : ∀ (ts : Array TypeId) (ty : TypeId) (W : World), (Builtin.max_ ts ty #[.int .u64 (u : Int), .int .u64 1]).run Try.prog W = .ok (.int .u64 (U : Int)) W := by
    intro ts ty W
    rw [← hU]
    simp [Builtin.max_, Builtin.max2]
    omega
  have hmax2 := max_run (C : Int) (N : Int) (M : Int) hM
  have HT : Hid _ := two_cells w #[.int .i64 (C : Int), .int .i64 1, .int .i64 9] 24 #[.int .u64 (U : Int), .int .u64 0, .int .i64 (R : Int), .int .i64 (C : Int), .int .i64 1, .int .i64 9, .bool false, .int .i64 0, .int .i64 (N : Int), .int .i64 (G : Int)] 26
  unfold supV at *
  dsimp only at *
  rw [show ((0 : Nat) : Int) = 0 from rfl] at HE HM
  clear hI hU hM hm hT h1 h2 hn
  go_enter Try.func7, Try.ntmps7
  go_wp2_with fail
  refine (HE _).mono ?_
  rintro e w1 ⟨rfl, hb1⟩
  obtain ⟨hp1, hb⟩ := HT.out w1 hb1
  have HB1 : Hid (Below w.heap.size w w1) := hb
  have k0 := Go.Joins.cell_of_block hp1 0
  have k1 := Go.Joins.cell_of_block hp1 1
  have k2 := Go.Joins.cell_of_block hp1 2
  have k3 := Go.Joins.cell_of_block hp1 3
  have k4 := Go.Joins.cell_of_block hp1 4
  have k5 := Go.Joins.cell_of_block hp1 5
  have k6 := Go.Joins.cell_of_block hp1 6
  have k7 := Go.Joins.cell_of_block hp1 7
  have k8 := Go.Joins.cell_of_block hp1 8
  have k9 := Go.Joins.cell_of_block hp1 9
  simp only [List.getElem?_toArray, List.getElem?_cons_zero, List.getElem?_cons_succ] at k0 k1 k2 k3 k4 k5 k6 k7 k8 k9
  clear hb1 hb hp1 HT
  go_wp2_with fail
  refine (HM _).mono ?_
  rintro e w2 ⟨rfl, hb2⟩
  have HB2 : Hid (Below w.heap.size w w2) := below2 HB1.out hb2
  clear hb2 HB1 k0 k1 k2 k3 k4 k5 k6 k7 k8 k9
  go_wp2_with fail
  refine (shown8_any _).mono ?_
  rintro e w3 ⟨rfl, hb3⟩
  have HB3 : Hid (Below w.heap.size w w3) := below2 HB2.out hb3
  clear hb3
  go_wp2
  go_ret
  exact ⟨rfl, HB3.out⟩
set_option linter.unusedVariables false in
set_option maxRecDepth 100000 in
set_option maxHeartbeats 8000000 in
theorem walk_rows (u cols more grown role U C N G R M : Nat) (p : Bool) (b1 : cols < 256) (b2 : more < 256) (b3 : grown < 256) (b4 : role < 256) (hU : max (u : Int) 1 = (U : Int)) (hU8 : U < 18446744073709551616) (hC : 4 + (cols : Int) % 7 = (C : Int)) (hN : (more : Int) % 14 = (N : Int)) (hG : (grown : Int) % 12 = (G : Int)) (hR : (role : Int) % 12 = (R : Int)) (hM : max (C : Int) (N : Int) = (M : Int)) (hp : decide (R < M) = p) (c4 : C ≤ 10) (n14 : N < 14) (g12 : G < 12) (r12 : R < 12)
    (h1 : (N : Int) = 0) (h2 : ¬ (G : Int) = 0) (h3 : ¬ (C : Int) < (N : Int)) (hm : Sup.mayB ⟨U, 0, (R : Int), (C : Int), 1, 9, false, 0, (N : Int), (G : Int)⟩ = false) (w : World) :
    Calls Try.prog 7 #[.int .u64 (u : Int), .int .u8 (cols : Int), .int .u8 (more : Int), .int .u8 (grown : Int), .int .u8 (role : Int)] w fun e w' => e = .returned (.bool true) ∧ Below w.heap.size w w' := by
  have d_h1 : ((N : Int) == 0) = true := by rw [beq_iff_eq]; exact h1
  have d_h2 : ((G : Int) == 0) = false := by rw [beq_eq_false_iff_ne]; exact h2
  have d_h3 : decide ((C : Int) < (N : Int)) = false := decide_eq_false h3
  have hI : Su.In ⟨U, 0, (R : Int), (C : Int), 1, 9, false, 0, (N : Int), (G : Int)⟩ := ⟨hU8, by dsimp only; omega, by dsimp only; omega, by dsimp only; omega⟩
  have HE := fun W => Encode8_any ⟨U, 0, (R : Int), (C : Int), 1, 9, false, 0, (N : Int), (G : Int)⟩ hI W
  have HM := fun W => May_any ⟨U, 0, (R : Int), (C : Int), 1, 9, false, 0, (N : Int), (G : Int)⟩ hI.nw hI.c W
  rw [hm] at HM
  rw [show Sup.encE ⟨U, 0, (R : Int), (C : Int), 1, 9, false, 0, (N : Int), (G : Int)⟩ = 1 by simp [Sup.encE, hm]] at HE
  obtain ⟨T, hT⟩ : ∃ T, Sup.encT ⟨U, 0, (R : Int), (C : Int), 1, 9, false, 0, (N : Int), (G : Int)⟩ = T := ⟨_, rfl⟩
  rw [hT] at HE
  have hmax : ∀ (ts : Array TypeId) (ty : TypeId) (W : World), (Builtin.max_ ts ty #[.int .u64 (u : Int), .int .u64 1]).run Try.prog W = .ok (.int .u64 (U : Int)) W := by
    intro ts ty W
    rw [← hU]
    simp [Builtin.max_, Builtin.max2]
    omega
  have hmax2 := max_run (C : Int) (N : Int) (M : Int) hM
  have HT : Hid _ := two_cells w #[.int .i64 (C : Int), .int .i64 1, .int .i64 9] 24 #[.int .u64 (U : Int), .int .u64 0, .int .i64 (R : Int), .int .i64 (C : Int), .int .i64 1, .int .i64 9, .bool false, .int .i64 0, .int .i64 (N : Int), .int .i64 (G : Int)] 26
  unfold supV at *
  dsimp only at *
  rw [show ((0 : Nat) : Int) = 0 from rfl] at HE HM
  clear hI hU hM hm hT h1 h2
  go_enter Try.func7, Try.ntmps7
  go_wp2_with fail
  refine (HE _).mono ?_
  rintro e w1 ⟨rfl, hb1⟩
  obtain ⟨hp1, hb⟩ := HT.out w1 hb1
  have HB1 : Hid (Below w.heap.size w w1) := hb
  have k0 := Go.Joins.cell_of_block hp1 0
  have k1 := Go.Joins.cell_of_block hp1 1
  have k2 := Go.Joins.cell_of_block hp1 2
  have k3 := Go.Joins.cell_of_block hp1 3
  have k4 := Go.Joins.cell_of_block hp1 4
  have k5 := Go.Joins.cell_of_block hp1 5
  have k6 := Go.Joins.cell_of_block hp1 6
  have k7 := Go.Joins.cell_of_block hp1 7
  have k8 := Go.Joins.cell_of_block hp1 8
  have k9 := Go.Joins.cell_of_block hp1 9
  simp only [List.getElem?_toArray, List.getElem?_cons_zero, List.getElem?_cons_succ] at k0 k1 k2 k3 k4 k5 k6 k7 k8 k9
  clear hb1 hb hp1 HT
  go_wp2_with fail
  refine (HM _).mono ?_
  rintro e w2 ⟨rfl, hb2⟩
  have HB2 : Hid (Below w.heap.size w w2) := below2 HB1.out hb2
  clear hb2 HB1 k0 k1 k2 k3 k4 k5 k6 k7 k8 k9
  go_wp2_with fail
  refine (shown8_any _).mono ?_
  rintro e w3 ⟨rfl, hb3⟩
  have HB3 : Hid (Below w.heap.size w w3) := below2 HB2.out hb3
  clear hb3
  go_wp2
  go_ret
  exact ⟨rfl, HB3.out⟩
set_option linter.unusedVariables false in
set_option maxRecDepth 100000 in
set_option maxHeartbeats 8000000 in
theorem walk_low (u cols more grown role U C N G R M : Nat) (p : Bool) (b1 : cols < 256) (b2 : more < 256) (b3 : grown < 256) (b4 : role < 256) (hU : max (u : Int) 1 = (U : Int)) (hU8 : U < 18446744073709551616) (hC : 4 + (cols : Int) % 7 = (C : Int)) (hN : (more : Int) % 14 = (N : Int)) (hG : (grown : Int) % 12 = (G : Int)) (hR : (role : Int) % 12 = (R : Int)) (hM : max (C : Int) (N : Int) = (M : Int)) (hp : decide (R < M) = p) (c4 : C ≤ 10) (n14 : N < 14) (g12 : G < 12) (r12 : R < 12)
    (h1 : ¬ (N : Int) = 0) (h3 : ¬ (C : Int) < (N : Int)) (hm : Sup.mayB ⟨U, 0, (R : Int), (C : Int), 1, 9, false, 0, (N : Int), (G : Int)⟩ = false) (w : World) :
    Calls Try.prog 7 #[.int .u64 (u : Int), .int .u8 (cols : Int), .int .u8 (more : Int), .int .u8 (grown : Int), .int .u8 (role : Int)] w fun e w' => e = .returned (.bool true) ∧ Below w.heap.size w w' := by
  have d_h1 : ((N : Int) == 0) = false := by rw [beq_eq_false_iff_ne]; exact h1
  have d_h3 : decide ((C : Int) < (N : Int)) = false := decide_eq_false h3
  have hI : Su.In ⟨U, 0, (R : Int), (C : Int), 1, 9, false, 0, (N : Int), (G : Int)⟩ := ⟨hU8, by dsimp only; omega, by dsimp only; omega, by dsimp only; omega⟩
  have HE := fun W => Encode8_any ⟨U, 0, (R : Int), (C : Int), 1, 9, false, 0, (N : Int), (G : Int)⟩ hI W
  have HM := fun W => May_any ⟨U, 0, (R : Int), (C : Int), 1, 9, false, 0, (N : Int), (G : Int)⟩ hI.nw hI.c W
  rw [hm] at HM
  rw [show Sup.encE ⟨U, 0, (R : Int), (C : Int), 1, 9, false, 0, (N : Int), (G : Int)⟩ = 1 by simp [Sup.encE, hm]] at HE
  obtain ⟨T, hT⟩ : ∃ T, Sup.encT ⟨U, 0, (R : Int), (C : Int), 1, 9, false, 0, (N : Int), (G : Int)⟩ = T := ⟨_, rfl⟩
  rw [hT] at HE
  have hmax : ∀ (ts : Array TypeId) (ty : TypeId) (W : World), (Builtin.max_ ts ty #[.int .u64 (u : Int), .int .u64 1]).run Try.prog W = .ok (.int .u64 (U : Int)) W := by
    intro ts ty W
    rw [← hU]
    simp [Builtin.max_, Builtin.max2]
    omega
  have hmax2 := max_run (C : Int) (N : Int) (M : Int) hM
  have HT : Hid _ := two_cells w #[.int .i64 (C : Int), .int .i64 1, .int .i64 9] 24 #[.int .u64 (U : Int), .int .u64 0, .int .i64 (R : Int), .int .i64 (C : Int), .int .i64 1, .int .i64 9, .bool false, .int .i64 0, .int .i64 (N : Int), .int .i64 (G : Int)] 26
  unfold supV at *
  dsimp only at *
  rw [show ((0 : Nat) : Int) = 0 from rfl] at HE HM
  clear hI hU hM hm hT h1
  go_enter Try.func7, Try.ntmps7
  go_wp2_with fail
  refine (HE _).mono ?_
  rintro e w1 ⟨rfl, hb1⟩
  obtain ⟨hp1, hb⟩ := HT.out w1 hb1
  have HB1 : Hid (Below w.heap.size w w1) := hb
  have k0 := Go.Joins.cell_of_block hp1 0
  have k1 := Go.Joins.cell_of_block hp1 1
  have k2 := Go.Joins.cell_of_block hp1 2
  have k3 := Go.Joins.cell_of_block hp1 3
  have k4 := Go.Joins.cell_of_block hp1 4
  have k5 := Go.Joins.cell_of_block hp1 5
  have k6 := Go.Joins.cell_of_block hp1 6
  have k7 := Go.Joins.cell_of_block hp1 7
  have k8 := Go.Joins.cell_of_block hp1 8
  have k9 := Go.Joins.cell_of_block hp1 9
  simp only [List.getElem?_toArray, List.getElem?_cons_zero, List.getElem?_cons_succ] at k0 k1 k2 k3 k4 k5 k6 k7 k8 k9
  clear hb1 hb hp1 HT
  go_wp2_with fail
  refine (HM _).mono ?_
  rintro e w2 ⟨rfl, hb2⟩
  have HB2 : Hid (Below w.heap.size w w2) := below2 HB1.out hb2
  clear hb2 HB1 k0 k1 k2 k3 k4 k5 k6 k7 k8 k9
  go_wp2_with fail
  refine (shown8_any _).mono ?_
  rintro e w3 ⟨rfl, hb3⟩
  have HB3 : Hid (Below w.heap.size w w3) := below2 HB2.out hb3
  clear hb3
  go_wp2
  go_ret
  exact ⟨rfl, HB3.out⟩
set_option linter.unusedVariables false in
set_option maxRecDepth 100000 in
set_option maxHeartbeats 8000000 in
theorem walk_top (u cols more grown role U C N G R M : Nat) (p : Bool) (b1 : cols < 256) (b2 : more < 256) (b3 : grown < 256) (b4 : role < 256) (hU : max (u : Int) 1 = (U : Int)) (hU8 : U < 18446744073709551616) (hC : 4 + (cols : Int) % 7 = (C : Int)) (hN : (more : Int) % 14 = (N : Int)) (hG : (grown : Int) % 12 = (G : Int)) (hR : (role : Int) % 12 = (R : Int)) (hM : max (C : Int) (N : Int) = (M : Int)) (hp : decide (R < M) = p) (c4 : C ≤ 10) (n14 : N < 14) (g12 : G < 12) (r12 : R < 12)
    (h1 : ¬ (N : Int) = 0) (h3 : (C : Int) < (N : Int)) (h4 : ¬ (N : Int) ≤ 10) (hm : Sup.mayB ⟨U, 0, (R : Int), (C : Int), 1, 9, false, 0, (N : Int), (G : Int)⟩ = false) (w : World) :
    Calls Try.prog 7 #[.int .u64 (u : Int), .int .u8 (cols : Int), .int .u8 (more : Int), .int .u8 (grown : Int), .int .u8 (role : Int)] w fun e w' => e = .returned (.bool true) ∧ Below w.heap.size w w' := by
  have d_h1 : ((N : Int) == 0) = false := by rw [beq_eq_false_iff_ne]; exact h1
  have d_h3 : decide ((C : Int) < (N : Int)) = true := decide_eq_true h3
  have d_h4 : decide ((N : Int) ≤ 10) = false := decide_eq_false h4
  have hI : Su.In ⟨U, 0, (R : Int), (C : Int), 1, 9, false, 0, (N : Int), (G : Int)⟩ := ⟨hU8, by dsimp only; omega, by dsimp only; omega, by dsimp only; omega⟩
  have HE := fun W => Encode8_any ⟨U, 0, (R : Int), (C : Int), 1, 9, false, 0, (N : Int), (G : Int)⟩ hI W
  have HM := fun W => May_any ⟨U, 0, (R : Int), (C : Int), 1, 9, false, 0, (N : Int), (G : Int)⟩ hI.nw hI.c W
  rw [hm] at HM
  rw [show Sup.encE ⟨U, 0, (R : Int), (C : Int), 1, 9, false, 0, (N : Int), (G : Int)⟩ = 1 by simp [Sup.encE, hm]] at HE
  obtain ⟨T, hT⟩ : ∃ T, Sup.encT ⟨U, 0, (R : Int), (C : Int), 1, 9, false, 0, (N : Int), (G : Int)⟩ = T := ⟨_, rfl⟩
  rw [hT] at HE
  have hmax : ∀ (ts : Array TypeId) (ty : TypeId) (W : World), (Builtin.max_ ts ty #[.int .u64 (u : Int), .int .u64 1]).run Try.prog W = .ok (.int .u64 (U : Int)) W := by
    intro ts ty W
    rw [← hU]
    simp [Builtin.max_, Builtin.max2]
    omega
  have hmax2 := max_run (C : Int) (N : Int) (M : Int) hM
  have HT : Hid _ := two_cells w #[.int .i64 (C : Int), .int .i64 1, .int .i64 9] 24 #[.int .u64 (U : Int), .int .u64 0, .int .i64 (R : Int), .int .i64 (C : Int), .int .i64 1, .int .i64 9, .bool false, .int .i64 0, .int .i64 (N : Int), .int .i64 (G : Int)] 26
  unfold supV at *
  dsimp only at *
  rw [show ((0 : Nat) : Int) = 0 from rfl] at HE HM
  clear hI hU hM hm hT h1
  go_enter Try.func7, Try.ntmps7
  go_wp2_with fail
  refine (HE _).mono ?_
  rintro e w1 ⟨rfl, hb1⟩
  obtain ⟨hp1, hb⟩ := HT.out w1 hb1
  have HB1 : Hid (Below w.heap.size w w1) := hb
  have k0 := Go.Joins.cell_of_block hp1 0
  have k1 := Go.Joins.cell_of_block hp1 1
  have k2 := Go.Joins.cell_of_block hp1 2
  have k3 := Go.Joins.cell_of_block hp1 3
  have k4 := Go.Joins.cell_of_block hp1 4
  have k5 := Go.Joins.cell_of_block hp1 5
  have k6 := Go.Joins.cell_of_block hp1 6
  have k7 := Go.Joins.cell_of_block hp1 7
  have k8 := Go.Joins.cell_of_block hp1 8
  have k9 := Go.Joins.cell_of_block hp1 9
  simp only [List.getElem?_toArray, List.getElem?_cons_zero, List.getElem?_cons_succ] at k0 k1 k2 k3 k4 k5 k6 k7 k8 k9
  clear hb1 hb hp1 HT
  go_wp2_with fail
  refine (HM _).mono ?_
  rintro e w2 ⟨rfl, hb2⟩
  have HB2 : Hid (Below w.heap.size w w2) := below2 HB1.out hb2
  clear hb2 HB1 k0 k1 k2 k3 k4 k5 k6 k7 k8 k9
  go_wp2_with fail
  refine (shown8_any _).mono ?_
  rintro e w3 ⟨rfl, hb3⟩
  have HB3 : Hid (Below w.heap.size w w3) := below2 HB2.out hb3
  clear hb3
  go_wp2
  go_ret
  exact ⟨rfl, HB3.out⟩
set_option linter.unusedVariables false in
set_option maxRecDepth 100000 in
set_option maxHeartbeats 8000000 in
theorem walk_far (u cols more grown role U C N G R M : Nat) (p : Bool) (b1 : cols < 256) (b2 : more < 256) (b3 : grown < 256) (b4 : role < 256) (hU : max (u : Int) 1 = (U : Int)) (hU8 : U < 18446744073709551616) (hC : 4 + (cols : Int) % 7 = (C : Int)) (hN : (more : Int) % 14 = (N : Int)) (hG : (grown : Int) % 12 = (G : Int)) (hR : (role : Int) % 12 = (R : Int)) (hM : max (C : Int) (N : Int) = (M : Int)) (hp : decide (R < M) = p) (c4 : C ≤ 10) (n14 : N < 14) (g12 : G < 12) (r12 : R < 12)
    (h1 : ¬ (N : Int) = 0) (h3 : (C : Int) < (N : Int)) (h4 : (N : Int) ≤ 10) (h5 : ¬ (G : Int) ≤ 9) (hm : Sup.mayB ⟨U, 0, (R : Int), (C : Int), 1, 9, false, 0, (N : Int), (G : Int)⟩ = false) (w : World) :
    Calls Try.prog 7 #[.int .u64 (u : Int), .int .u8 (cols : Int), .int .u8 (more : Int), .int .u8 (grown : Int), .int .u8 (role : Int)] w fun e w' => e = .returned (.bool true) ∧ Below w.heap.size w w' := by
  have d_h1 : ((N : Int) == 0) = false := by rw [beq_eq_false_iff_ne]; exact h1
  have d_h3 : decide ((C : Int) < (N : Int)) = true := decide_eq_true h3
  have d_h4 : decide ((N : Int) ≤ 10) = true := decide_eq_true h4
  have d_h5 : decide ((G : Int) ≤ 9) = false := decide_eq_false h5
  have hI : Su.In ⟨U, 0, (R : Int), (C : Int), 1, 9, false, 0, (N : Int), (G : Int)⟩ := ⟨hU8, by dsimp only; omega, by dsimp only; omega, by dsimp only; omega⟩
  have HE := fun W => Encode8_any ⟨U, 0, (R : Int), (C : Int), 1, 9, false, 0, (N : Int), (G : Int)⟩ hI W
  have HM := fun W => May_any ⟨U, 0, (R : Int), (C : Int), 1, 9, false, 0, (N : Int), (G : Int)⟩ hI.nw hI.c W
  rw [hm] at HM
  rw [show Sup.encE ⟨U, 0, (R : Int), (C : Int), 1, 9, false, 0, (N : Int), (G : Int)⟩ = 1 by simp [Sup.encE, hm]] at HE
  obtain ⟨T, hT⟩ : ∃ T, Sup.encT ⟨U, 0, (R : Int), (C : Int), 1, 9, false, 0, (N : Int), (G : Int)⟩ = T := ⟨_, rfl⟩
  rw [hT] at HE
  have hmax : ∀ (ts : Array TypeId) (ty : TypeId) (W : World), (Builtin.max_ ts ty #[.int .u64 (u : Int), .int .u64 1]).run Try.prog W = .ok (.int .u64 (U : Int)) W := by
    intro ts ty W
    rw [← hU]
    simp [Builtin.max_, Builtin.max2]
    omega
  have hmax2 := max_run (C : Int) (N : Int) (M : Int) hM
  have HT : Hid _ := two_cells w #[.int .i64 (C : Int), .int .i64 1, .int .i64 9] 24 #[.int .u64 (U : Int), .int .u64 0, .int .i64 (R : Int), .int .i64 (C : Int), .int .i64 1, .int .i64 9, .bool false, .int .i64 0, .int .i64 (N : Int), .int .i64 (G : Int)] 26
  unfold supV at *
  dsimp only at *
  rw [show ((0 : Nat) : Int) = 0 from rfl] at HE HM
  clear hI hU hM hm hT h1
  go_enter Try.func7, Try.ntmps7
  go_wp2_with fail
  refine (HE _).mono ?_
  rintro e w1 ⟨rfl, hb1⟩
  obtain ⟨hp1, hb⟩ := HT.out w1 hb1
  have HB1 : Hid (Below w.heap.size w w1) := hb
  have k0 := Go.Joins.cell_of_block hp1 0
  have k1 := Go.Joins.cell_of_block hp1 1
  have k2 := Go.Joins.cell_of_block hp1 2
  have k3 := Go.Joins.cell_of_block hp1 3
  have k4 := Go.Joins.cell_of_block hp1 4
  have k5 := Go.Joins.cell_of_block hp1 5
  have k6 := Go.Joins.cell_of_block hp1 6
  have k7 := Go.Joins.cell_of_block hp1 7
  have k8 := Go.Joins.cell_of_block hp1 8
  have k9 := Go.Joins.cell_of_block hp1 9
  simp only [List.getElem?_toArray, List.getElem?_cons_zero, List.getElem?_cons_succ] at k0 k1 k2 k3 k4 k5 k6 k7 k8 k9
  clear hb1 hb hp1 HT
  go_wp2_with fail
  refine (HM _).mono ?_
  rintro e w2 ⟨rfl, hb2⟩
  have HB2 : Hid (Below w.heap.size w w2) := below2 HB1.out hb2
  clear hb2 HB1 k0 k1 k2 k3 k4 k5 k6 k7 k8 k9
  go_wp2_with fail
  refine (shown8_any _).mono ?_
  rintro e w3 ⟨rfl, hb3⟩
  have HB3 : Hid (Below w.heap.size w w3) := below2 HB2.out hb3
  clear hb3
  go_wp2
  go_ret
  exact ⟨rfl, HB3.out⟩
set_option linter.unusedVariables false in
set_option maxRecDepth 100000 in
set_option maxHeartbeats 8000000 in
theorem walk_good (u cols more grown role U C N G R M : Nat) (p : Bool) (b1 : cols < 256) (b2 : more < 256) (b3 : grown < 256) (b4 : role < 256) (hU : max (u : Int) 1 = (U : Int)) (hU8 : U < 18446744073709551616) (hC : 4 + (cols : Int) % 7 = (C : Int)) (hN : (more : Int) % 14 = (N : Int)) (hG : (grown : Int) % 12 = (G : Int)) (hR : (role : Int) % 12 = (R : Int)) (hM : max (C : Int) (N : Int) = (M : Int)) (hp : decide (R < M) = p) (c4 : C ≤ 10) (n14 : N < 14) (g12 : G < 12) (r12 : R < 12)
    (h1 : ¬ (N : Int) = 0) (h3 : (C : Int) < (N : Int)) (h4 : (N : Int) ≤ 10) (h5 : (G : Int) ≤ 9) (hm : Sup.mayB ⟨U, 0, (R : Int), (C : Int), 1, 9, false, 0, (N : Int), (G : Int)⟩ = p) (w : World) :
    Calls Try.prog 7 #[.int .u64 (u : Int), .int .u8 (cols : Int), .int .u8 (more : Int), .int .u8 (grown : Int), .int .u8 (role : Int)] w fun e w' => e = .returned (.bool true) ∧ Below w.heap.size w w' := by
  have d_h1 : ((N : Int) == 0) = false := by rw [beq_eq_false_iff_ne]; exact h1
  have d_h3 : decide ((C : Int) < (N : Int)) = true := decide_eq_true h3
  have d_h4 : decide ((N : Int) ≤ 10) = true := decide_eq_true h4
  have d_h5 : decide ((G : Int) ≤ 9) = true := decide_eq_true h5
  have hI : Su.In ⟨U, 0, (R : Int), (C : Int), 1, 9, false, 0, (N : Int), (G : Int)⟩ := ⟨hU8, by dsimp only; omega, by dsimp only; omega, by dsimp only; omega⟩
  have HE := fun W => Encode8_any ⟨U, 0, (R : Int), (C : Int), 1, 9, false, 0, (N : Int), (G : Int)⟩ hI W
  have HM := fun W => May_any ⟨U, 0, (R : Int), (C : Int), 1, 9, false, 0, (N : Int), (G : Int)⟩ hI.nw hI.c W
  rw [hm] at HM
  obtain ⟨n, hn⟩ : ∃ n, Sup.encE ⟨U, 0, (R : Int), (C : Int), 1, 9, false, 0, (N : Int), (G : Int)⟩ = n := ⟨_, rfl⟩
  have hnp : (n == 0) = p := by rw [← hn, ← hm]; unfold Sup.encE; cases Sup.mayB ⟨U, 0, (R : Int), (C : Int), 1, 9, false, 0, (N : Int), (G : Int)⟩ <;> rfl
  rw [hn] at HE
  obtain ⟨T, hT⟩ : ∃ T, Sup.encT ⟨U, 0, (R : Int), (C : Int), 1, 9, false, 0, (N : Int), (G : Int)⟩ = T := ⟨_, rfl⟩
  rw [hT] at HE
  have hmax : ∀ (ts : Array TypeId) (ty : TypeId) (W : World), (Builtin.max_ ts ty #[.int .u64 (u : Int), .int .u64 1]).run Try.prog W = .ok (.int .u64 (U : Int)) W := by
    intro ts ty W
    rw [← hU]
    simp [Builtin.max_, Builtin.max2]
    omega
  have hmax2 := max_run (C : Int) (N : Int) (M : Int) hM
  have HT : Hid _ := two_cells w #[.int .i64 (C : Int), .int .i64 1, .int .i64 9] 24 #[.int .u64 (U : Int), .int .u64 0, .int .i64 (R : Int), .int .i64 (C : Int), .int .i64 1, .int .i64 9, .bool false, .int .i64 0, .int .i64 (N : Int), .int .i64 (G : Int)] 26
  unfold supV at *
  dsimp only at *
  rw [show ((0 : Nat) : Int) = 0 from rfl] at HE HM
  clear hI hU hM hm hT h1 hn
  go_enter Try.func7, Try.ntmps7
  go_wp2_with fail
  refine (HE _).mono ?_
  rintro e w1 ⟨rfl, hb1⟩
  obtain ⟨hp1, hb⟩ := HT.out w1 hb1
  have HB1 : Hid (Below w.heap.size w w1) := hb
  have k0 := Go.Joins.cell_of_block hp1 0
  have k1 := Go.Joins.cell_of_block hp1 1
  have k2 := Go.Joins.cell_of_block hp1 2
  have k3 := Go.Joins.cell_of_block hp1 3
  have k4 := Go.Joins.cell_of_block hp1 4
  have k5 := Go.Joins.cell_of_block hp1 5
  have k6 := Go.Joins.cell_of_block hp1 6
  have k7 := Go.Joins.cell_of_block hp1 7
  have k8 := Go.Joins.cell_of_block hp1 8
  have k9 := Go.Joins.cell_of_block hp1 9
  simp only [List.getElem?_toArray, List.getElem?_cons_zero, List.getElem?_cons_succ] at k0 k1 k2 k3 k4 k5 k6 k7 k8 k9
  clear hb1 hb hp1 HT
  go_wp2_with fail
  refine (HM _).mono ?_
  rintro e w2 ⟨rfl, hb2⟩
  have HB2 : Hid (Below w.heap.size w w2) := below2 HB1.out hb2
  clear hb2 HB1 k0 k1 k2 k3 k4 k5 k6 k7 k8 k9
  go_wp2_with fail
  refine (shown8_any _).mono ?_
  rintro e w3 ⟨rfl, hb3⟩
  have HB3 : Hid (Below w.heap.size w w3) := below2 HB2.out hb3
  clear hb3
  go_wp2
  go_ret
  exact ⟨rfl, HB3.out⟩
theorem walk (u : Int) (wu : (Lit.int .u64 u).wf = true) (cols : Int) (w1 : (Lit.int .u8 cols).wf = true) (more : Int) (w2 : (Lit.int .u8 more).wf = true) (grown : Int) (w3 : (Lit.int .u8 grown).wf = true) (role : Int) (w4 : (Lit.int .u8 role).wf = true) (w : World) :
    Calls Try.prog 7 #[.int .u64 u, .int .u8 cols, .int .u8 more, .int .u8 grown, .int .u8 role] w fun e w' => e = .returned (.bool true) ∧ Below w.heap.size w w' := by
  obtain ⟨u, rfl, hu⟩ := u64_nat wu
  obtain ⟨cols, rfl, b1⟩ := u8_nat w1
  obtain ⟨more, rfl, b2⟩ := u8_nat w2
  obtain ⟨grown, rfl, b3⟩ := u8_nat w3
  obtain ⟨role, rfl, b4⟩ := u8_nat w4
  obtain ⟨U, hU⟩ : ∃ U : Nat, max (u : Int) 1 = (U : Int) := ⟨max u 1, by omega⟩
  obtain ⟨C, hC⟩ : ∃ C : Nat, 4 + (cols : Int) % 7 = (C : Int) := ⟨4 + cols % 7, by omega⟩
  obtain ⟨N, hN⟩ : ∃ N : Nat, (more : Int) % 14 = (N : Int) := ⟨more % 14, by omega⟩
  obtain ⟨G, hG⟩ : ∃ G : Nat, (grown : Int) % 12 = (G : Int) := ⟨grown % 12, by omega⟩
  obtain ⟨R, hR⟩ : ∃ R : Nat, (role : Int) % 12 = (R : Int) := ⟨role % 12, by omega⟩
  obtain ⟨M, hM⟩ : ∃ M : Nat, max (C : Int) (N : Int) = (M : Int) := ⟨max C N, by omega⟩
  have hU8 : U < 18446744073709551616 := by omega
  have c4 : C ≤ 10 := by omega
  have n14 : N < 14 := by omega
  have g12 : G < 12 := by omega
  have r12 : R < 12 := by omega
  have ho : Lay.ok (C : Int) 1 9 := ⟨by omega, by omega, by omega⟩
  obtain ⟨p, hp⟩ : ∃ p, decide (R < M) = p := ⟨_, rfl⟩
  have hm : Sup.mayB ⟨U, 0, (R : Int), (C : Int), 1, 9, false, 0, (N : Int), (G : Int)⟩ = ((decide ((N : Int) = 0) && decide ((G : Int) = 0) || decide ((C : Int) < (N : Int)) && decide ((N : Int) ≤ 10) && decide ((G : Int) ≤ 9)) && p) := by
    rw [← hp]
    unfold Sup.mayB Sup.may
    rw [Bool.eq_iff_iff]
    simp [ho]
    omega
  by_cases h1 : (N : Int) = 0
  · have h3 : ¬ (C : Int) < (N : Int) := by omega
    by_cases h2 : (G : Int) = 0
    · rw [decide_eq_true h1, decide_eq_true h2] at hm
      exact walk_still u cols more grown role U C N G R M p b1 b2 b3 b4 hU hU8 hC hN hG hR hM hp c4 n14 g12 r12 h1 h2 (by simpa using hm) w
    · rw [decide_eq_false h2, decide_eq_false h3] at hm
      exact walk_rows u cols more grown role U C N G R M p b1 b2 b3 b4 hU hU8 hC hN hG hR hM hp c4 n14 g12 r12 h1 h2 h3 (by simpa using hm) w
  rw [decide_eq_false h1] at hm
  by_cases h3 : (C : Int) < (N : Int)
  case neg => rw [decide_eq_false h3] at hm; exact walk_low u cols more grown role U C N G R M p b1 b2 b3 b4 hU hU8 hC hN hG hR hM hp c4 n14 g12 r12 h1 h3 (by simpa using hm) w
  by_cases h4 : (N : Int) ≤ 10
  case neg => rw [decide_eq_false h4] at hm; exact walk_top u cols more grown role U C N G R M p b1 b2 b3 b4 hU hU8 hC hN hG hR hM hp c4 n14 g12 r12 h1 h3 h4 (by simpa using hm) w
  by_cases h5 : (G : Int) ≤ 9
  case neg => rw [decide_eq_false h5] at hm; exact walk_far u cols more grown role U C N G R M p b1 b2 b3 b4 hU hU8 hC hN hG hR hM hp c4 n14 g12 r12 h1 h3 h4 h5 (by simpa using hm) w
  rw [decide_eq_true h3, decide_eq_true h4, decide_eq_true h5] at hm
  exact walk_good u cols more grown role U C N G R M p b1 b2 b3 b4 hU hU8 hC hN hG hR hM hp c4 n14 g12 r12 h1 h3 h4 h5 (by simpa using hm) w

theorem own : ownKnob Try.prog.godebug = none := by kernel_rfl
set_option linter.unusedVariables false in
set_option maxRecDepth 100000 in
theorem lifted (os : Os) (started : os.Started) (H : Type) (enc : TypeId × Value → H) :
    ReturnsInHanded {} Try.checked os 7 .any (Rows.superNewSpec.pre6 enc Try.prog Try.f7 Rows.superNewRow.domain false) (Rows.superNewSpec.post enc Try.prog Try.f7 false true false false) := by
  refine returnsInHanded_of_change (C := Try.checked) own started (by kernel_rfl) Try.func7
    (ChangeSpec.witness6 (enc := enc) (C := Try.checked) false ⟨#[], #[.int .u64 0, .int .u8 0, .int .u8 0, .int .u8 0, .int .u8 0], []⟩ 8 (by kernel_rfl) (by kernel_rfl) (by kernel_rfl) (by kernel_rfl)) ?_
  intro W base args ds gs before hval0 hW hcnd _
  have hval : ∀ (j : Nat) t v, Try.f7.params[j]? = some t → args[j]? = some v → Value.okWide Try.prog W .any base t v := hval0
  have hW' := hW
  obtain ⟨p, q, hA0, hV, rfl, hfz, hnd⟩ := hW
  have hA : DataW.TrodAll enc Try.prog W 0 (fun _ => true) true Try.f7.params.toList args.toList ds p := hA0
  rw [Try.params7] at hA hval
  obtain ⟨v0, vs0, d0, ds0, p0, q0, hargs, rfl, rfl, h0, r0⟩ := trodAll_cons hA
  obtain ⟨v1, vs1, d1, ds1, p1, q1, rfl, rfl, rfl, h1, r1⟩ := trodAll_cons r0
  obtain ⟨v2, vs2, d2, ds2, p2, q2, rfl, rfl, rfl, h2, r2⟩ := trodAll_cons r1
  obtain ⟨v3, vs3, d3, ds3, p3, q3, rfl, rfl, rfl, h3, r3⟩ := trodAll_cons r2
  obtain ⟨v4, vs4, d4, ds4, p4, q4, rfl, rfl, rfl, h4, r4⟩ := trodAll_cons r3
  obtain ⟨rfl, rfl, rfl⟩ := trodAll_nil r4
  obtain rfl : args = #[v0, v1, v2, v3, v4] := by cases args; simp_all
  obtain ⟨rfl, rfl⟩ := trodVars_none hV
  obtain ⟨a0, rfl, rfl, rfl, w0⟩ := open_int Try.underlying22 (hval 0 22 v0 rfl rfl) h0
  obtain ⟨a1, rfl, rfl, rfl, w1⟩ := open_int Try.underlying5 (hval 1 5 v1 rfl rfl) h1
  obtain ⟨a2, rfl, rfl, rfl, w2⟩ := open_int Try.underlying5 (hval 2 5 v2 rfl rfl) h2
  obtain ⟨a3, rfl, rfl, rfl, w3⟩ := open_int Try.underlying5 (hval 3 5 v3 rfl rfl) h3
  obtain ⟨a4, rfl, rfl, rfl, w4⟩ := open_int Try.underlying5 (hval 4 5 v4 rfl rfl) h4
  clear hA0 hval0
  simp only [List.append_nil] at hW'
  refine (walk a0 w0 a1 w1 a2 w2 a3 w3 a4 w4 W).mono fun e W' ⟨he, hg⟩ => ?_
  subst he
  exact ⟨_, rfl, _, _, _, [], [], [], hW', trodAll_mk1 (shut_bool Try.underlying4 _), (trodAll_cons_mk (shut_int Try.underlying22 w0) (trodAll_cons_mk (shut_int Try.underlying5 w1) (trodAll_cons_mk (shut_int Try.underlying5 w2) (trodAll_cons_mk (shut_int Try.underlying5 w3) (trodAll_cons_mk (shut_int Try.underlying5 w4) trodAll_mk0))))), rfl, hg.frame _, fun h => by cases h⟩
/-- For every input the law returns true, and each argument reads as it did. -/
theorem proved : Rows.SuperNewSaid :=
  OpenClaim.holds_of_wide 7 Try.f7 rfl rfl rfl rfl rfl rfl rfl ⟨rfl, rfl, rfl, rfl, rfl⟩ rfl rfl rfl rfl rfl (by kernel_rfl) Try.func7 (by kernel_rfl)
    (of_decide_eq_true (by kernel_rfl)) (by unfold Func.isWrapper; first | (rw [if_pos (by decide +kernel)]; kernel_rfl) | (rw [if_neg (by decide +kernel)]; exact ⟨rfl, rfl⟩))
    (fun os started H enc _ => lifted os started H enc)
end Go.Proofs.Ytinegeacpohlcaa.superNew
