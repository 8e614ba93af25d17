/- For all numbers the law SuperRoles returns true: a drive's role is a column, or it is a spare, or a journal; nothing else may be written down. No condition. -/
import Derived.Test.YtinegeacpohlcaaSup08
import Derived.ProofKit
import Derived.OpenShut
import Derived.ShutString
import Derived.ChangeOld
import Derived.Below
namespace Go.Proofs.Ytinegeacpohlcaa.superRoles
open Go.ChangeShapes Go.WideShapes Go.ChangeAt Go.RowKit
open Go.ChangeMaps (open_string shut_string)

set_option linter.unusedVariables false in
set_option maxRecDepth 100000 in
set_option maxHeartbeats 8000000 in
theorem walk_neg (u U : Nat) (role built : Int) (hU : max (u : Int) 1 = (U : Int)) (hU8 : U < 18446744073709551616) (h0 : ¬ 0 ≤ role) (h2 : ¬ role = 254) (h3 : ¬ role = 255) (hm : Sup.mayB ⟨U, 0, role, 6, 2, 10, false, built, 0, 0⟩ = false) (w : World) :
    Calls Try.prog 8 #[.int .u64 (u : Int), .int .i64 role, .int .i64 built] w fun e w' => e = .returned (.bool true) ∧ Below w.heap.size w w' := by
  have d_h0 : decide (0 ≤ role) = false := decide_eq_false h0
  have d_h2 : (role == 254) = false := by rw [beq_eq_false_iff_ne]; exact h2
  have d_h3 : (role == 255) = false := by rw [beq_eq_false_iff_ne]; exact h3
  have hI : Su.In ⟨U, 0, role, 6, 2, 10, false, built, 0, 0⟩ := ⟨hU8, by dsimp only; omega, by dsimp only; omega, by dsimp only; omega⟩
  have HE := fun W => Encode8_any ⟨U, 0, role, 6, 2, 10, false, built, 0, 0⟩ hI W
  have HM := fun W => May_any ⟨U, 0, role, 6, 2, 10, false, built, 0, 0⟩ hI.nw hI.c W
  have HZ := fun W => May_any ⟨0, 0, role, 6, 2, 10, false, built, 0, 0⟩ (by dsimp only; omega) (by dsimp only; omega) W
  rw [hm] at HM
  rw [show Sup.mayB ⟨0, 0, role, 6, 2, 10, false, built, 0, 0⟩ = false by simp [Sup.mayB, Sup.may]] at HZ
  rw [show Sup.encE ⟨U, 0, role, 6, 2, 10, false, built, 0, 0⟩ = 1 by simp [Sup.encE, hm], show Sup.encT ⟨U, 0, role, 6, 2, 10, false, built, 0, 0⟩ = ⟨#[]⟩ by simp [Sup.encT, hm]] at HE
  have hmax : ∀ (ts : Array TypeId) (ty : TypeId) (W : World), (Builtin.max_ ts ty #[.int .u64 (u : Int), .int .u64 1]).run Try.prog W = .ok (.int .u64 (U : Int)) W := by
    intro ts ty W
    rw [← hU]
    simp [Builtin.max_, Builtin.max2]
    omega
  have HT : Hid _ := SupAt.new w ⟨U, 0, role, 6, 2, 10, false, built, 0, 0⟩ 26
  unfold supV at *
  dsimp only at HE HM HZ
  rw [show ((0 : Nat) : Int) = 0 from rfl] at HE HM HZ
  clear hI hU hm
  go_enter Try.func8, Try.ntmps8
  go_wp2_with fail
  refine (HE _).mono ?_
  rintro e w1 ⟨rfl, hb1⟩
  have hp1 := (hb1.block w.heap.size (by rw [World.size_alloc]; exact Nat.lt_succ_self _)).trans (heap_new w _)
  have HB1 : Hid (Below w.heap.size w w1) := ((Below.refl w.heap.size w).alloc (Nat.le_refl _) _).trans (hb1.mono (by rw [World.size_alloc]; omega))
  have HP1 : Hid _ := hp1
  have k0 := Go.Joins.cell_of_block hp1 0
  have k1 := Go.Joins.cell_of_block hp1 1
  have k2 := Go.Joins.cell_of_block hp1 2
  have k3 := Go.Joins.cell_of_block hp1 3
  have k4 := Go.Joins.cell_of_block hp1 4
  have k5 := Go.Joins.cell_of_block hp1 5
  have k6 := Go.Joins.cell_of_block hp1 6
  have k7 := Go.Joins.cell_of_block hp1 7
  have k8 := Go.Joins.cell_of_block hp1 8
  have k9 := Go.Joins.cell_of_block hp1 9
  simp only [List.getElem?_toArray, List.getElem?_cons_zero, List.getElem?_cons_succ] at k0 k1 k2 k3 k4 k5 k6 k7 k8 k9
  have lt1 : w.heap.size < w1.heap.size := World.block_lt_of_cell? w1 _ k0
  clear hb1 hp1 HT
  go_wp2_with fail
  refine (HM _).mono ?_
  rintro e w2 ⟨rfl, hb2⟩
  have HB2 : Hid (Below w.heap.size w w2) := below2 HB1.out hb2
  have HP2 : Hid _ := (hb2.block _ lt1).trans HP1.out
  have lt2 : w.heap.size < w2.heap.size := Nat.lt_of_lt_of_le lt1 hb2.size
  clear hb2 HB1 HP1 k0 k1 k2 k3 k4 k5 k6 k7 k8 k9
  go_wp2_with fail
  refine (shown8_any _).mono ?_
  rintro e w3 ⟨rfl, hb3⟩
  have HB3 : Hid (Below w.heap.size w w3) := below2 HB2.out hb3
  have hp3 := (hb3.block _ lt2).trans HP2.out
  have hf3 := Go.Joins.unfrozen_of_block hp3
  have k0 := Go.Joins.cell_of_block hp3 0
  have k1 := Go.Joins.cell_of_block hp3 1
  have k2 := Go.Joins.cell_of_block hp3 2
  have k3 := Go.Joins.cell_of_block hp3 3
  have k4 := Go.Joins.cell_of_block hp3 4
  have k5 := Go.Joins.cell_of_block hp3 5
  have k6 := Go.Joins.cell_of_block hp3 6
  have k7 := Go.Joins.cell_of_block hp3 7
  have k8 := Go.Joins.cell_of_block hp3 8
  have k9 := Go.Joins.cell_of_block hp3 9
  simp only [List.getElem?_toArray, List.getElem?_cons_zero, List.getElem?_cons_succ] at k0 k1 k2 k3 k4 k5 k6 k7 k8 k9
  have lt3 : w.heap.size < w3.heap.size := World.block_lt_of_cell? w3 _ k0
  clear hb3 hp3 HB2 HP2
  go_wp2_with fail
  refine (HZ _).mono ?_
  rintro e w4 ⟨rfl, hb4⟩
  have HB4 : Hid (Below w.heap.size w w4) := below2 (HB3.out.setCell (p := ⟨w.heap.size, 0, none⟩) (Nat.le_refl _) _) hb4
  clear hb4 k0 k1 k2 k3 k4 k5 k6 k7 k8 k9 hf3
  go_wp2
  go_ret
  exact ⟨rfl, HB4.out⟩
set_option linter.unusedVariables false in
set_option maxRecDepth 100000 in
set_option maxHeartbeats 8000000 in
theorem walk_mid (u U : Nat) (role built : Int) (hU : max (u : Int) 1 = (U : Int)) (hU8 : U < 18446744073709551616) (h0 : 0 ≤ role) (h1 : ¬ role < 6) (h2 : ¬ role = 254) (h3 : ¬ role = 255) (hm : Sup.mayB ⟨U, 0, role, 6, 2, 10, false, built, 0, 0⟩ = false) (w : World) :
    Calls Try.prog 8 #[.int .u64 (u : Int), .int .i64 role, .int .i64 built] w fun e w' => e = .returned (.bool true) ∧ Below w.heap.size w w' := by
  have d_h0 : decide (0 ≤ role) = true := decide_eq_true h0
  have d_h1 : decide (role < 6) = false := decide_eq_false h1
  have d_h2 : (role == 254) = false := by rw [beq_eq_false_iff_ne]; exact h2
  have d_h3 : (role == 255) = false := by rw [beq_eq_false_iff_ne]; exact h3
  have hI : Su.In ⟨U, 0, role, 6, 2, 10, false, built, 0, 0⟩ := ⟨hU8, by dsimp only; omega, by dsimp only; omega, by dsimp only; omega⟩
  have HE := fun W => Encode8_any ⟨U, 0, role, 6, 2, 10, false, built, 0, 0⟩ hI W
  have HM := fun W => May_any ⟨U, 0, role, 6, 2, 10, false, built, 0, 0⟩ hI.nw hI.c W
  have HZ := fun W => May_any ⟨0, 0, role, 6, 2, 10, false, built, 0, 0⟩ (by dsimp only; omega) (by dsimp only; omega) W
  rw [hm] at HM
  rw [show Sup.mayB ⟨0, 0, role, 6, 2, 10, false, built, 0, 0⟩ = false by simp [Sup.mayB, Sup.may]] at HZ
  rw [show Sup.encE ⟨U, 0, role, 6, 2, 10, false, built, 0, 0⟩ = 1 by simp [Sup.encE, hm], show Sup.encT ⟨U, 0, role, 6, 2, 10, false, built, 0, 0⟩ = ⟨#[]⟩ by simp [Sup.encT, hm]] at HE
  have hmax : ∀ (ts : Array TypeId) (ty : TypeId) (W : World), (Builtin.max_ ts ty #[.int .u64 (u : Int), .int .u64 1]).run Try.prog W = .ok (.int .u64 (U : Int)) W := by
    intro ts ty W
    rw [← hU]
    simp [Builtin.max_, Builtin.max2]
    omega
  have HT : Hid _ := SupAt.new w ⟨U, 0, role, 6, 2, 10, false, built, 0, 0⟩ 26
  unfold supV at *
  dsimp only at HE HM HZ
  rw [show ((0 : Nat) : Int) = 0 from rfl] at HE HM HZ
  clear hI hU hm
  go_enter Try.func8, Try.ntmps8
  go_wp2_with fail
  refine (HE _).mono ?_
  rintro e w1 ⟨rfl, hb1⟩
  have hp1 := (hb1.block w.heap.size (by rw [World.size_alloc]; exact Nat.lt_succ_self _)).trans (heap_new w _)
  have HB1 : Hid (Below w.heap.size w w1) := ((Below.refl w.heap.size w).alloc (Nat.le_refl _) _).trans (hb1.mono (by rw [World.size_alloc]; omega))
  have HP1 : Hid _ := hp1
  have k0 := Go.Joins.cell_of_block hp1 0
  have k1 := Go.Joins.cell_of_block hp1 1
  have k2 := Go.Joins.cell_of_block hp1 2
  have k3 := Go.Joins.cell_of_block hp1 3
  have k4 := Go.Joins.cell_of_block hp1 4
  have k5 := Go.Joins.cell_of_block hp1 5
  have k6 := Go.Joins.cell_of_block hp1 6
  have k7 := Go.Joins.cell_of_block hp1 7
  have k8 := Go.Joins.cell_of_block hp1 8
  have k9 := Go.Joins.cell_of_block hp1 9
  simp only [List.getElem?_toArray, List.getElem?_cons_zero, List.getElem?_cons_succ] at k0 k1 k2 k3 k4 k5 k6 k7 k8 k9
  have lt1 : w.heap.size < w1.heap.size := World.block_lt_of_cell? w1 _ k0
  clear hb1 hp1 HT
  go_wp2_with fail
  refine (HM _).mono ?_
  rintro e w2 ⟨rfl, hb2⟩
  have HB2 : Hid (Below w.heap.size w w2) := below2 HB1.out hb2
  have HP2 : Hid _ := (hb2.block _ lt1).trans HP1.out
  have lt2 : w.heap.size < w2.heap.size := Nat.lt_of_lt_of_le lt1 hb2.size
  clear hb2 HB1 HP1 k0 k1 k2 k3 k4 k5 k6 k7 k8 k9
  go_wp2_with fail
  refine (shown8_any _).mono ?_
  rintro e w3 ⟨rfl, hb3⟩
  have HB3 : Hid (Below w.heap.size w w3) := below2 HB2.out hb3
  have hp3 := (hb3.block _ lt2).trans HP2.out
  have hf3 := Go.Joins.unfrozen_of_block hp3
  have k0 := Go.Joins.cell_of_block hp3 0
  have k1 := Go.Joins.cell_of_block hp3 1
  have k2 := Go.Joins.cell_of_block hp3 2
  have k3 := Go.Joins.cell_of_block hp3 3
  have k4 := Go.Joins.cell_of_block hp3 4
  have k5 := Go.Joins.cell_of_block hp3 5
  have k6 := Go.Joins.cell_of_block hp3 6
  have k7 := Go.Joins.cell_of_block hp3 7
  have k8 := Go.Joins.cell_of_block hp3 8
  have k9 := Go.Joins.cell_of_block hp3 9
  simp only [List.getElem?_toArray, List.getElem?_cons_zero, List.getElem?_cons_succ] at k0 k1 k2 k3 k4 k5 k6 k7 k8 k9
  have lt3 : w.heap.size < w3.heap.size := World.block_lt_of_cell? w3 _ k0
  clear hb3 hp3 HB2 HP2
  go_wp2_with fail
  refine (HZ _).mono ?_
  rintro e w4 ⟨rfl, hb4⟩
  have HB4 : Hid (Below w.heap.size w w4) := below2 (HB3.out.setCell (p := ⟨w.heap.size, 0, none⟩) (Nat.le_refl _) _) hb4
  clear hb4 k0 k1 k2 k3 k4 k5 k6 k7 k8 k9 hf3
  go_wp2
  go_ret
  exact ⟨rfl, HB4.out⟩
set_option linter.unusedVariables false in
set_option maxRecDepth 100000 in
set_option maxHeartbeats 8000000 in
theorem walk_a1 (u U : Nat) (role built : Int) (hU : max (u : Int) 1 = (U : Int)) (hU8 : U < 18446744073709551616) (h0 : 0 ≤ role) (h1 : role < 6) (h8 : ¬ 0 ≤ built) (hm : Sup.mayB ⟨U, 0, role, 6, 2, 10, false, built, 0, 0⟩ = false) (w : World) :
    Calls Try.prog 8 #[.int .u64 (u : Int), .int .i64 role, .int .i64 built] w fun e w' => e = .returned (.bool true) ∧ Below w.heap.size w w' := by
  have d_h0 : decide (0 ≤ role) = true := decide_eq_true h0
  have d_h1 : decide (role < 6) = true := decide_eq_true h1
  have d_h8 : decide (0 ≤ built) = false := decide_eq_false h8
  have hI : Su.In ⟨U, 0, role, 6, 2, 10, false, built, 0, 0⟩ := ⟨hU8, by dsimp only; omega, by dsimp only; omega, by dsimp only; omega⟩
  have HE := fun W => Encode8_any ⟨U, 0, role, 6, 2, 10, false, built, 0, 0⟩ hI W
  have HM := fun W => May_any ⟨U, 0, role, 6, 2, 10, false, built, 0, 0⟩ hI.nw hI.c W
  have HZ := fun W => May_any ⟨0, 0, role, 6, 2, 10, false, built, 0, 0⟩ (by dsimp only; omega) (by dsimp only; omega) W
  rw [hm] at HM
  rw [show Sup.mayB ⟨0, 0, role, 6, 2, 10, false, built, 0, 0⟩ = false by simp [Sup.mayB, Sup.may]] at HZ
  rw [show Sup.encE ⟨U, 0, role, 6, 2, 10, false, built, 0, 0⟩ = 1 by simp [Sup.encE, hm], show Sup.encT ⟨U, 0, role, 6, 2, 10, false, built, 0, 0⟩ = ⟨#[]⟩ by simp [Sup.encT, hm]] at HE
  have hmax : ∀ (ts : Array TypeId) (ty : TypeId) (W : World), (Builtin.max_ ts ty #[.int .u64 (u : Int), .int .u64 1]).run Try.prog W = .ok (.int .u64 (U : Int)) W := by
    intro ts ty W
    rw [← hU]
    simp [Builtin.max_, Builtin.max2]
    omega
  have HT : Hid _ := SupAt.new w ⟨U, 0, role, 6, 2, 10, false, built, 0, 0⟩ 26
  unfold supV at *
  dsimp only at HE HM HZ
  rw [show ((0 : Nat) : Int) = 0 from rfl] at HE HM HZ
  clear hI hU hm
  go_enter Try.func8, Try.ntmps8
  go_wp2_with fail
  refine (HE _).mono ?_
  rintro e w1 ⟨rfl, hb1⟩
  have hp1 := (hb1.block w.heap.size (by rw [World.size_alloc]; exact Nat.lt_succ_self _)).trans (heap_new w _)
  have HB1 : Hid (Below w.heap.size w w1) := ((Below.refl w.heap.size w).alloc (Nat.le_refl _) _).trans (hb1.mono (by rw [World.size_alloc]; omega))
  have HP1 : Hid _ := hp1
  have k0 := Go.Joins.cell_of_block hp1 0
  have k1 := Go.Joins.cell_of_block hp1 1
  have k2 := Go.Joins.cell_of_block hp1 2
  have k3 := Go.Joins.cell_of_block hp1 3
  have k4 := Go.Joins.cell_of_block hp1 4
  have k5 := Go.Joins.cell_of_block hp1 5
  have k6 := Go.Joins.cell_of_block hp1 6
  have k7 := Go.Joins.cell_of_block hp1 7
  have k8 := Go.Joins.cell_of_block hp1 8
  have k9 := Go.Joins.cell_of_block hp1 9
  simp only [List.getElem?_toArray, List.getElem?_cons_zero, List.getElem?_cons_succ] at k0 k1 k2 k3 k4 k5 k6 k7 k8 k9
  have lt1 : w.heap.size < w1.heap.size := World.block_lt_of_cell? w1 _ k0
  clear hb1 hp1 HT
  go_wp2_with fail
  refine (HM _).mono ?_
  rintro e w2 ⟨rfl, hb2⟩
  have HB2 : Hid (Below w.heap.size w w2) := below2 HB1.out hb2
  have HP2 : Hid _ := (hb2.block _ lt1).trans HP1.out
  have lt2 : w.heap.size < w2.heap.size := Nat.lt_of_lt_of_le lt1 hb2.size
  clear hb2 HB1 HP1 k0 k1 k2 k3 k4 k5 k6 k7 k8 k9
  go_wp2_with fail
  refine (shown8_any _).mono ?_
  rintro e w3 ⟨rfl, hb3⟩
  have HB3 : Hid (Below w.heap.size w w3) := below2 HB2.out hb3
  have hp3 := (hb3.block _ lt2).trans HP2.out
  have hf3 := Go.Joins.unfrozen_of_block hp3
  have k0 := Go.Joins.cell_of_block hp3 0
  have k1 := Go.Joins.cell_of_block hp3 1
  have k2 := Go.Joins.cell_of_block hp3 2
  have k3 := Go.Joins.cell_of_block hp3 3
  have k4 := Go.Joins.cell_of_block hp3 4
  have k5 := Go.Joins.cell_of_block hp3 5
  have k6 := Go.Joins.cell_of_block hp3 6
  have k7 := Go.Joins.cell_of_block hp3 7
  have k8 := Go.Joins.cell_of_block hp3 8
  have k9 := Go.Joins.cell_of_block hp3 9
  simp only [List.getElem?_toArray, List.getElem?_cons_zero, List.getElem?_cons_succ] at k0 k1 k2 k3 k4 k5 k6 k7 k8 k9
  have lt3 : w.heap.size < w3.heap.size := World.block_lt_of_cell? w3 _ k0
  clear hb3 hp3 HB2 HP2
  go_wp2_with fail
  refine (HZ _).mono ?_
  rintro e w4 ⟨rfl, hb4⟩
  have HB4 : Hid (Below w.heap.size w w4) := below2 (HB3.out.setCell (p := ⟨w.heap.size, 0, none⟩) (Nat.le_refl _) _) hb4
  clear hb4 k0 k1 k2 k3 k4 k5 k6 k7 k8 k9 hf3
  go_wp2
  go_ret
  exact ⟨rfl, HB4.out⟩
set_option linter.unusedVariables false in
set_option maxRecDepth 100000 in
set_option maxHeartbeats 8000000 in
theorem walk_a2 (u U : Nat) (role built : Int) (hU : max (u : Int) 1 = (U : Int)) (hU8 : U < 18446744073709551616) (h0 : 0 ≤ role) (h1 : role < 6) (h8 : 0 ≤ built) (h9 : ¬ built ≤ 10) (hm : Sup.mayB ⟨U, 0, role, 6, 2, 10, false, built, 0, 0⟩ = false) (w : World) :
    Calls Try.prog 8 #[.int .u64 (u : Int), .int .i64 role, .int .i64 built] w fun e w' => e = .returned (.bool true) ∧ Below w.heap.size w w' := by
  have d_h0 : decide (0 ≤ role) = true := decide_eq_true h0
  have d_h1 : decide (role < 6) = true := decide_eq_true h1
  have d_h8 : decide (0 ≤ built) = true := decide_eq_true h8
  have d_h9 : decide (built ≤ 10) = false := decide_eq_false h9
  have hI : Su.In ⟨U, 0, role, 6, 2, 10, false, built, 0, 0⟩ := ⟨hU8, by dsimp only; omega, by dsimp only; omega, by dsimp only; omega⟩
  have HE := fun W => Encode8_any ⟨U, 0, role, 6, 2, 10, false, built, 0, 0⟩ hI W
  have HM := fun W => May_any ⟨U, 0, role, 6, 2, 10, false, built, 0, 0⟩ hI.nw hI.c W
  have HZ := fun W => May_any ⟨0, 0, role, 6, 2, 10, false, built, 0, 0⟩ (by dsimp only; omega) (by dsimp only; omega) W
  rw [hm] at HM
  rw [show Sup.mayB ⟨0, 0, role, 6, 2, 10, false, built, 0, 0⟩ = false by simp [Sup.mayB, Sup.may]] at HZ
  rw [show Sup.encE ⟨U, 0, role, 6, 2, 10, false, built, 0, 0⟩ = 1 by simp [Sup.encE, hm], show Sup.encT ⟨U, 0, role, 6, 2, 10, false, built, 0, 0⟩ = ⟨#[]⟩ by simp [Sup.encT, hm]] at HE
  have hmax : ∀ (ts : Array TypeId) (ty : TypeId) (W : World), (Builtin.max_ ts ty #[.int .u64 (u : Int), .int .u64 1]).run Try.prog W = .ok (.int .u64 (U : Int)) W := by
    intro ts ty W
    rw [← hU]
    simp [Builtin.max_, Builtin.max2]
    omega
  have HT : Hid _ := SupAt.new w ⟨U, 0, role, 6, 2, 10, false, built, 0, 0⟩ 26
  unfold supV at *
  dsimp only at HE HM HZ
  rw [show ((0 : Nat) : Int) = 0 from rfl] at HE HM HZ
  clear hI hU hm
  go_enter Try.func8, Try.ntmps8
  go_wp2_with fail
  refine (HE _).mono ?_
  rintro e w1 ⟨rfl, hb1⟩
  have hp1 := (hb1.block w.heap.size (by rw [World.size_alloc]; exact Nat.lt_succ_self _)).trans (heap_new w _)
  have HB1 : Hid (Below w.heap.size w w1) := ((Below.refl w.heap.size w).alloc (Nat.le_refl _) _).trans (hb1.mono (by rw [World.size_alloc]; omega))
  have HP1 : Hid _ := hp1
  have k0 := Go.Joins.cell_of_block hp1 0
  have k1 := Go.Joins.cell_of_block hp1 1
  have k2 := Go.Joins.cell_of_block hp1 2
  have k3 := Go.Joins.cell_of_block hp1 3
  have k4 := Go.Joins.cell_of_block hp1 4
  have k5 := Go.Joins.cell_of_block hp1 5
  have k6 := Go.Joins.cell_of_block hp1 6
  have k7 := Go.Joins.cell_of_block hp1 7
  have k8 := Go.Joins.cell_of_block hp1 8
  have k9 := Go.Joins.cell_of_block hp1 9
  simp only [List.getElem?_toArray, List.getElem?_cons_zero, List.getElem?_cons_succ] at k0 k1 k2 k3 k4 k5 k6 k7 k8 k9
  have lt1 : w.heap.size < w1.heap.size := World.block_lt_of_cell? w1 _ k0
  clear hb1 hp1 HT
  go_wp2_with fail
  refine (HM _).mono ?_
  rintro e w2 ⟨rfl, hb2⟩
  have HB2 : Hid (Below w.heap.size w w2) := below2 HB1.out hb2
  have HP2 : Hid _ := (hb2.block _ lt1).trans HP1.out
  have lt2 : w.heap.size < w2.heap.size := Nat.lt_of_lt_of_le lt1 hb2.size
  clear hb2 HB1 HP1 k0 k1 k2 k3 k4 k5 k6 k7 k8 k9
  go_wp2_with fail
  refine (shown8_any _).mono ?_
  rintro e w3 ⟨rfl, hb3⟩
  have HB3 : Hid (Below w.heap.size w w3) := below2 HB2.out hb3
  have hp3 := (hb3.block _ lt2).trans HP2.out
  have hf3 := Go.Joins.unfrozen_of_block hp3
  have k0 := Go.Joins.cell_of_block hp3 0
  have k1 := Go.Joins.cell_of_block hp3 1
  have k2 := Go.Joins.cell_of_block hp3 2
  have k3 := Go.Joins.cell_of_block hp3 3
  have k4 := Go.Joins.cell_of_block hp3 4
  have k5 := Go.Joins.cell_of_block hp3 5
  have k6 := Go.Joins.cell_of_block hp3 6
  have k7 := Go.Joins.cell_of_block hp3 7
  have k8 := Go.Joins.cell_of_block hp3 8
  have k9 := Go.Joins.cell_of_block hp3 9
  simp only [List.getElem?_toArray, List.getElem?_cons_zero, List.getElem?_cons_succ] at k0 k1 k2 k3 k4 k5 k6 k7 k8 k9
  have lt3 : w.heap.size < w3.heap.size := World.block_lt_of_cell? w3 _ k0
  clear hb3 hp3 HB2 HP2
  go_wp2_with fail
  refine (HZ _).mono ?_
  rintro e w4 ⟨rfl, hb4⟩
  have HB4 : Hid (Below w.heap.size w w4) := below2 (HB3.out.setCell (p := ⟨w.heap.size, 0, none⟩) (Nat.le_refl _) _) hb4
  clear hb4 k0 k1 k2 k3 k4 k5 k6 k7 k8 k9 hf3
  go_wp2
  go_ret
  exact ⟨rfl, HB4.out⟩
set_option linter.unusedVariables false in
set_option maxRecDepth 100000 in
set_option maxHeartbeats 8000000 in
theorem walk_a3 (u U : Nat) (role built : Int) (hU : max (u : Int) 1 = (U : Int)) (hU8 : U < 18446744073709551616) (h0 : 0 ≤ role) (h1 : role < 6) (h8 : 0 ≤ built) (h9 : built ≤ 10) (hm : Sup.mayB ⟨U, 0, role, 6, 2, 10, false, built, 0, 0⟩ = true) (w : World) :
    Calls Try.prog 8 #[.int .u64 (u : Int), .int .i64 role, .int .i64 built] w fun e w' => e = .returned (.bool true) ∧ Below w.heap.size w w' := by
  have d_h0 : decide (0 ≤ role) = true := decide_eq_true h0
  have d_h1 : decide (role < 6) = true := decide_eq_true h1
  have d_h8 : decide (0 ≤ built) = true := decide_eq_true h8
  have d_h9 : decide (built ≤ 10) = true := decide_eq_true h9
  have hI : Su.In ⟨U, 0, role, 6, 2, 10, false, built, 0, 0⟩ := ⟨hU8, by dsimp only; omega, by dsimp only; omega, by dsimp only; omega⟩
  have HE := fun W => Encode8_any ⟨U, 0, role, 6, 2, 10, false, built, 0, 0⟩ hI W
  have HM := fun W => May_any ⟨U, 0, role, 6, 2, 10, false, built, 0, 0⟩ hI.nw hI.c W
  have HZ := fun W => May_any ⟨0, 0, role, 6, 2, 10, false, built, 0, 0⟩ (by dsimp only; omega) (by dsimp only; omega) W
  rw [hm] at HM
  rw [show Sup.mayB ⟨0, 0, role, 6, 2, 10, false, built, 0, 0⟩ = false by simp [Sup.mayB, Sup.may]] at HZ
  rw [show Sup.encE ⟨U, 0, role, 6, 2, 10, false, built, 0, 0⟩ = 0 by simp [Sup.encE, hm]] at HE
  obtain ⟨T, hT⟩ : ∃ T, Sup.encT ⟨U, 0, role, 6, 2, 10, false, built, 0, 0⟩ = T := ⟨_, rfl⟩
  rw [hT] at HE
  clear hT
  have hmax : ∀ (ts : Array TypeId) (ty : TypeId) (W : World), (Builtin.max_ ts ty #[.int .u64 (u : Int), .int .u64 1]).run Try.prog W = .ok (.int .u64 (U : Int)) W := by
    intro ts ty W
    rw [← hU]
    simp [Builtin.max_, Builtin.max2]
    omega
  have HT : Hid _ := SupAt.new w ⟨U, 0, role, 6, 2, 10, false, built, 0, 0⟩ 26
  unfold supV at *
  dsimp only at HE HM HZ
  rw [show ((0 : Nat) : Int) = 0 from rfl] at HE HM HZ
  clear hI hU hm
  go_enter Try.func8, Try.ntmps8
  go_wp2_with fail
  refine (HE _).mono ?_
  rintro e w1 ⟨rfl, hb1⟩
  have hp1 := (hb1.block w.heap.size (by rw [World.size_alloc]; exact Nat.lt_succ_self _)).trans (heap_new w _)
  have HB1 : Hid (Below w.heap.size w w1) := ((Below.refl w.heap.size w).alloc (Nat.le_refl _) _).trans (hb1.mono (by rw [World.size_alloc]; omega))
  have HP1 : Hid _ := hp1
  have k0 := Go.Joins.cell_of_block hp1 0
  have k1 := Go.Joins.cell_of_block hp1 1
  have k2 := Go.Joins.cell_of_block hp1 2
  have k3 := Go.Joins.cell_of_block hp1 3
  have k4 := Go.Joins.cell_of_block hp1 4
  have k5 := Go.Joins.cell_of_block hp1 5
  have k6 := Go.Joins.cell_of_block hp1 6
  have k7 := Go.Joins.cell_of_block hp1 7
  have k8 := Go.Joins.cell_of_block hp1 8
  have k9 := Go.Joins.cell_of_block hp1 9
  simp only [List.getElem?_toArray, List.getElem?_cons_zero, List.getElem?_cons_succ] at k0 k1 k2 k3 k4 k5 k6 k7 k8 k9
  have lt1 : w.heap.size < w1.heap.size := World.block_lt_of_cell? w1 _ k0
  clear hb1 hp1 HT
  go_wp2_with fail
  refine (HM _).mono ?_
  rintro e w2 ⟨rfl, hb2⟩
  have HB2 : Hid (Below w.heap.size w w2) := below2 HB1.out hb2
  have HP2 : Hid _ := (hb2.block _ lt1).trans HP1.out
  have lt2 : w.heap.size < w2.heap.size := Nat.lt_of_lt_of_le lt1 hb2.size
  clear hb2 HB1 HP1 k0 k1 k2 k3 k4 k5 k6 k7 k8 k9
  go_wp2_with fail
  refine (shown8_any _).mono ?_
  rintro e w3 ⟨rfl, hb3⟩
  have HB3 : Hid (Below w.heap.size w w3) := below2 HB2.out hb3
  have hp3 := (hb3.block _ lt2).trans HP2.out
  have hf3 := Go.Joins.unfrozen_of_block hp3
  have k0 := Go.Joins.cell_of_block hp3 0
  have k1 := Go.Joins.cell_of_block hp3 1
  have k2 := Go.Joins.cell_of_block hp3 2
  have k3 := Go.Joins.cell_of_block hp3 3
  have k4 := Go.Joins.cell_of_block hp3 4
  have k5 := Go.Joins.cell_of_block hp3 5
  have k6 := Go.Joins.cell_of_block hp3 6
  have k7 := Go.Joins.cell_of_block hp3 7
  have k8 := Go.Joins.cell_of_block hp3 8
  have k9 := Go.Joins.cell_of_block hp3 9
  simp only [List.getElem?_toArray, List.getElem?_cons_zero, List.getElem?_cons_succ] at k0 k1 k2 k3 k4 k5 k6 k7 k8 k9
  have lt3 : w.heap.size < w3.heap.size := World.block_lt_of_cell? w3 _ k0
  clear hb3 hp3 HB2 HP2
  go_wp2_with fail
  refine (HZ _).mono ?_
  rintro e w4 ⟨rfl, hb4⟩
  have HB4 : Hid (Below w.heap.size w w4) := below2 (HB3.out.setCell (p := ⟨w.heap.size, 0, none⟩) (Nat.le_refl _) _) hb4
  clear hb4 k0 k1 k2 k3 k4 k5 k6 k7 k8 k9 hf3
  go_wp2
  go_ret
  exact ⟨rfl, HB4.out⟩
set_option linter.unusedVariables false in
set_option maxRecDepth 100000 in
set_option maxHeartbeats 8000000 in
theorem walk_c1 (u U : Nat) (role built : Int) (hU : max (u : Int) 1 = (U : Int)) (hU8 : U < 18446744073709551616) (h0 : 0 ≤ role) (h1 : ¬ role < 6) (h2 : role = 254) (h8 : ¬ 0 ≤ built) (hm : Sup.mayB ⟨U, 0, role, 6, 2, 10, false, built, 0, 0⟩ = false) (w : World) :
    Calls Try.prog 8 #[.int .u64 (u : Int), .int .i64 role, .int .i64 built] w fun e w' => e = .returned (.bool true) ∧ Below w.heap.size w w' := by
  have d_h0 : decide (0 ≤ role) = true := decide_eq_true h0
  have d_h1 : decide (role < 6) = false := decide_eq_false h1
  have d_h2 : (role == 254) = true := by rw [beq_iff_eq]; exact h2
  clear h2
  have d_h8 : decide (0 ≤ built) = false := decide_eq_false h8
  have hI : Su.In ⟨U, 0, role, 6, 2, 10, false, built, 0, 0⟩ := ⟨hU8, by dsimp only; omega, by dsimp only; omega, by dsimp only; omega⟩
  have HE := fun W => Encode8_any ⟨U, 0, role, 6, 2, 10, false, built, 0, 0⟩ hI W
  have HM := fun W => May_any ⟨U, 0, role, 6, 2, 10, false, built, 0, 0⟩ hI.nw hI.c W
  have HZ := fun W => May_any ⟨0, 0, role, 6, 2, 10, false, built, 0, 0⟩ (by dsimp only; omega) (by dsimp only; omega) W
  rw [hm] at HM
  rw [show Sup.mayB ⟨0, 0, role, 6, 2, 10, false, built, 0, 0⟩ = false by simp [Sup.mayB, Sup.may]] at HZ
  rw [show Sup.encE ⟨U, 0, role, 6, 2, 10, false, built, 0, 0⟩ = 1 by simp [Sup.encE, hm], show Sup.encT ⟨U, 0, role, 6, 2, 10, false, built, 0, 0⟩ = ⟨#[]⟩ by simp [Sup.encT, hm]] at HE
  have hmax : ∀ (ts : Array TypeId) (ty : TypeId) (W : World), (Builtin.max_ ts ty #[.int .u64 (u : Int), .int .u64 1]).run Try.prog W = .ok (.int .u64 (U : Int)) W := by
    intro ts ty W
    rw [← hU]
    simp [Builtin.max_, Builtin.max2]
    omega
  have HT : Hid _ := SupAt.new w ⟨U, 0, role, 6, 2, 10, false, built, 0, 0⟩ 26
  unfold supV at *
  dsimp only at HE HM HZ
  rw [show ((0 : Nat) : Int) = 0 from rfl] at HE HM HZ
  clear hI hU hm
  go_enter Try.func8, Try.ntmps8
  go_wp2_with fail
  refine (HE _).mono ?_
  rintro e w1 ⟨rfl, hb1⟩
  have hp1 := (hb1.block w.heap.size (by rw [World.size_alloc]; exact Nat.lt_succ_self _)).trans (heap_new w _)
  have HB1 : Hid (Below w.heap.size w w1) := ((Below.refl w.heap.size w).alloc (Nat.le_refl _) _).trans (hb1.mono (by rw [World.size_alloc]; omega))
  have HP1 : Hid _ := hp1
  have k0 := Go.Joins.cell_of_block hp1 0
  have k1 := Go.Joins.cell_of_block hp1 1
  have k2 := Go.Joins.cell_of_block hp1 2
  have k3 := Go.Joins.cell_of_block hp1 3
  have k4 := Go.Joins.cell_of_block hp1 4
  have k5 := Go.Joins.cell_of_block hp1 5
  have k6 := Go.Joins.cell_of_block hp1 6
  have k7 := Go.Joins.cell_of_block hp1 7
  have k8 := Go.Joins.cell_of_block hp1 8
  have k9 := Go.Joins.cell_of_block hp1 9
  simp only [List.getElem?_toArray, List.getElem?_cons_zero, List.getElem?_cons_succ] at k0 k1 k2 k3 k4 k5 k6 k7 k8 k9
  have lt1 : w.heap.size < w1.heap.size := World.block_lt_of_cell? w1 _ k0
  clear hb1 hp1 HT
  go_wp2_with fail
  refine (HM _).mono ?_
  rintro e w2 ⟨rfl, hb2⟩
  have HB2 : Hid (Below w.heap.size w w2) := below2 HB1.out hb2
  have HP2 : Hid _ := (hb2.block _ lt1).trans HP1.out
  have lt2 : w.heap.size < w2.heap.size := Nat.lt_of_lt_of_le lt1 hb2.size
  clear hb2 HB1 HP1 k0 k1 k2 k3 k4 k5 k6 k7 k8 k9
  go_wp2_with fail
  refine (shown8_any _).mono ?_
  rintro e w3 ⟨rfl, hb3⟩
  have HB3 : Hid (Below w.heap.size w w3) := below2 HB2.out hb3
  have hp3 := (hb3.block _ lt2).trans HP2.out
  have hf3 := Go.Joins.unfrozen_of_block hp3
  have k0 := Go.Joins.cell_of_block hp3 0
  have k1 := Go.Joins.cell_of_block hp3 1
  have k2 := Go.Joins.cell_of_block hp3 2
  have k3 := Go.Joins.cell_of_block hp3 3
  have k4 := Go.Joins.cell_of_block hp3 4
  have k5 := Go.Joins.cell_of_block hp3 5
  have k6 := Go.Joins.cell_of_block hp3 6
  have k7 := Go.Joins.cell_of_block hp3 7
  have k8 := Go.Joins.cell_of_block hp3 8
  have k9 := Go.Joins.cell_of_block hp3 9
  simp only [List.getElem?_toArray, List.getElem?_cons_zero, List.getElem?_cons_succ] at k0 k1 k2 k3 k4 k5 k6 k7 k8 k9
  have lt3 : w.heap.size < w3.heap.size := World.block_lt_of_cell? w3 _ k0
  clear hb3 hp3 HB2 HP2
  go_wp2_with fail
  refine (HZ _).mono ?_
  rintro e w4 ⟨rfl, hb4⟩
  have HB4 : Hid (Below w.heap.size w w4) := below2 (HB3.out.setCell (p := ⟨w.heap.size, 0, none⟩) (Nat.le_refl _) _) hb4
  clear hb4 k0 k1 k2 k3 k4 k5 k6 k7 k8 k9 hf3
  go_wp2
  go_ret
  exact ⟨rfl, HB4.out⟩
set_option linter.unusedVariables false in
set_option maxRecDepth 100000 in
set_option maxHeartbeats 8000000 in
theorem walk_c2 (u U : Nat) (role built : Int) (hU : max (u : Int) 1 = (U : Int)) (hU8 : U < 18446744073709551616) (h0 : 0 ≤ role) (h1 : ¬ role < 6) (h2 : role = 254) (h8 : 0 ≤ built) (h9 : ¬ built ≤ 10) (hm : Sup.mayB ⟨U, 0, role, 6, 2, 10, false, built, 0, 0⟩ = false) (w : World) :
    Calls Try.prog 8 #[.int .u64 (u : Int), .int .i64 role, .int .i64 built] w fun e w' => e = .returned (.bool true) ∧ Below w.heap.size w w' := by
  have d_h0 : decide (0 ≤ role) = true := decide_eq_true h0
  have d_h1 : decide (role < 6) = false := decide_eq_false h1
  have d_h2 : (role == 254) = true := by rw [beq_iff_eq]; exact h2
  clear h2
  have d_h8 : decide (0 ≤ built) = true := decide_eq_true h8
  have d_h9 : decide (built ≤ 10) = false := decide_eq_false h9
  have hI : Su.In ⟨U, 0, role, 6, 2, 10, false, built, 0, 0⟩ := ⟨hU8, by dsimp only; omega, by dsimp only; omega, by dsimp only; omega⟩
  have HE := fun W => Encode8_any ⟨U, 0, role, 6, 2, 10, false, built, 0, 0⟩ hI W
  have HM := fun W => May_any ⟨U, 0, role, 6, 2, 10, false, built, 0, 0⟩ hI.nw hI.c W
  have HZ := fun W => May_any ⟨0, 0, role, 6, 2, 10, false, built, 0, 0⟩ (by dsimp only; omega) (by dsimp only; omega) W
  rw [hm] at HM
  rw [show Sup.mayB ⟨0, 0, role, 6, 2, 10, false, built, 0, 0⟩ = false by simp [Sup.mayB, Sup.may]] at HZ
  rw [show Sup.encE ⟨U, 0, role, 6, 2, 10, false, built, 0, 0⟩ = 1 by simp [Sup.encE, hm], show Sup.encT ⟨U, 0, role, 6, 2, 10, false, built, 0, 0⟩ = ⟨#[]⟩ by simp [Sup.encT, hm]] at HE
  have hmax : ∀ (ts : Array TypeId) (ty : TypeId) (W : World), (Builtin.max_ ts ty #[.int .u64 (u : Int), .int .u64 1]).run Try.prog W = .ok (.int .u64 (U : Int)) W := by
    intro ts ty W
    rw [← hU]
    simp [Builtin.max_, Builtin.max2]
    omega
  have HT : Hid _ := SupAt.new w ⟨U, 0, role, 6, 2, 10, false, built, 0, 0⟩ 26
  unfold supV at *
  dsimp only at HE HM HZ
  rw [show ((0 : Nat) : Int) = 0 from rfl] at HE HM HZ
  clear hI hU hm
  go_enter Try.func8, Try.ntmps8
  go_wp2_with fail
  refine (HE _).mono ?_
  rintro e w1 ⟨rfl, hb1⟩
  have hp1 := (hb1.block w.heap.size (by rw [World.size_alloc]; exact Nat.lt_succ_self _)).trans (heap_new w _)
  have HB1 : Hid (Below w.heap.size w w1) := ((Below.refl w.heap.size w).alloc (Nat.le_refl _) _).trans (hb1.mono (by rw [World.size_alloc]; omega))
  have HP1 : Hid _ := hp1
  have k0 := Go.Joins.cell_of_block hp1 0
  have k1 := Go.Joins.cell_of_block hp1 1
  have k2 := Go.Joins.cell_of_block hp1 2
  have k3 := Go.Joins.cell_of_block hp1 3
  have k4 := Go.Joins.cell_of_block hp1 4
  have k5 := Go.Joins.cell_of_block hp1 5
  have k6 := Go.Joins.cell_of_block hp1 6
  have k7 := Go.Joins.cell_of_block hp1 7
  have k8 := Go.Joins.cell_of_block hp1 8
  have k9 := Go.Joins.cell_of_block hp1 9
  simp only [List.getElem?_toArray, List.getElem?_cons_zero, List.getElem?_cons_succ] at k0 k1 k2 k3 k4 k5 k6 k7 k8 k9
  have lt1 : w.heap.size < w1.heap.size := World.block_lt_of_cell? w1 _ k0
  clear hb1 hp1 HT
  go_wp2_with fail
  refine (HM _).mono ?_
  rintro e w2 ⟨rfl, hb2⟩
  have HB2 : Hid (Below w.heap.size w w2) := below2 HB1.out hb2
  have HP2 : Hid _ := (hb2.block _ lt1).trans HP1.out
  have lt2 : w.heap.size < w2.heap.size := Nat.lt_of_lt_of_le lt1 hb2.size
  clear hb2 HB1 HP1 k0 k1 k2 k3 k4 k5 k6 k7 k8 k9
  go_wp2_with fail
  refine (shown8_any _).mono ?_
  rintro e w3 ⟨rfl, hb3⟩
  have HB3 : Hid (Below w.heap.size w w3) := below2 HB2.out hb3
  have hp3 := (hb3.block _ lt2).trans HP2.out
  have hf3 := Go.Joins.unfrozen_of_block hp3
  have k0 := Go.Joins.cell_of_block hp3 0
  have k1 := Go.Joins.cell_of_block hp3 1
  have k2 := Go.Joins.cell_of_block hp3 2
  have k3 := Go.Joins.cell_of_block hp3 3
  have k4 := Go.Joins.cell_of_block hp3 4
  have k5 := Go.Joins.cell_of_block hp3 5
  have k6 := Go.Joins.cell_of_block hp3 6
  have k7 := Go.Joins.cell_of_block hp3 7
  have k8 := Go.Joins.cell_of_block hp3 8
  have k9 := Go.Joins.cell_of_block hp3 9
  simp only [List.getElem?_toArray, List.getElem?_cons_zero, List.getElem?_cons_succ] at k0 k1 k2 k3 k4 k5 k6 k7 k8 k9
  have lt3 : w.heap.size < w3.heap.size := World.block_lt_of_cell? w3 _ k0
  clear hb3 hp3 HB2 HP2
  go_wp2_with fail
  refine (HZ _).mono ?_
  rintro e w4 ⟨rfl, hb4⟩
  have HB4 : Hid (Below w.heap.size w w4) := below2 (HB3.out.setCell (p := ⟨w.heap.size, 0, none⟩) (Nat.le_refl _) _) hb4
  clear hb4 k0 k1 k2 k3 k4 k5 k6 k7 k8 k9 hf3
  go_wp2
  go_ret
  exact ⟨rfl, HB4.out⟩
set_option linter.unusedVariables false in
set_option maxRecDepth 100000 in
set_option maxHeartbeats 8000000 in
theorem walk_c3 (u U : Nat) (role built : Int) (hU : max (u : Int) 1 = (U : Int)) (hU8 : U < 18446744073709551616) (h0 : 0 ≤ role) (h1 : ¬ role < 6) (h2 : role = 254) (h8 : 0 ≤ built) (h9 : built ≤ 10) (hm : Sup.mayB ⟨U, 0, role, 6, 2, 10, false, built, 0, 0⟩ = true) (w : World) :
    Calls Try.prog 8 #[.int .u64 (u : Int), .int .i64 role, .int .i64 built] w fun e w' => e = .returned (.bool true) ∧ Below w.heap.size w w' := by
  have d_h0 : decide (0 ≤ role) = true := decide_eq_true h0
  have d_h1 : decide (role < 6) = false := decide_eq_false h1
  have d_h2 : (role == 254) = true := by rw [beq_iff_eq]; exact h2
  clear h2
  have d_h8 : decide (0 ≤ built) = true := decide_eq_true h8
  have d_h9 : decide (built ≤ 10) = true := decide_eq_true h9
  have hI : Su.In ⟨U, 0, role, 6, 2, 10, false, built, 0, 0⟩ := ⟨hU8, by dsimp only; omega, by dsimp only; omega, by dsimp only; omega⟩
  have HE := fun W => Encode8_any ⟨U, 0, role, 6, 2, 10, false, built, 0, 0⟩ hI W
  have HM := fun W => May_any ⟨U, 0, role, 6, 2, 10, false, built, 0, 0⟩ hI.nw hI.c W
  have HZ := fun W => May_any ⟨0, 0, role, 6, 2, 10, false, built, 0, 0⟩ (by dsimp only; omega) (by dsimp only; omega) W
  rw [hm] at HM
  rw [show Sup.mayB ⟨0, 0, role, 6, 2, 10, false, built, 0, 0⟩ = false by simp [Sup.mayB, Sup.may]] at HZ
  rw [show Sup.encE ⟨U, 0, role, 6, 2, 10, false, built, 0, 0⟩ = 0 by simp [Sup.encE, hm]] at HE
  obtain ⟨T, hT⟩ : ∃ T, Sup.encT ⟨U, 0, role, 6, 2, 10, false, built, 0, 0⟩ = T := ⟨_, rfl⟩
  rw [hT] at HE
  clear hT
  have hmax : ∀ (ts : Array TypeId) (ty : TypeId) (W : World), (Builtin.max_ ts ty #[.int .u64 (u : Int), .int .u64 1]).run Try.prog W = .ok (.int .u64 (U : Int)) W := by
    intro ts ty W
    rw [← hU]
    simp [Builtin.max_, Builtin.max2]
    omega
  have HT : Hid _ := SupAt.new w ⟨U, 0, role, 6, 2, 10, false, built, 0, 0⟩ 26
  unfold supV at *
  dsimp only at HE HM HZ
  rw [show ((0 : Nat) : Int) = 0 from rfl] at HE HM HZ
  clear hI hU hm
  go_enter Try.func8, Try.ntmps8
  go_wp2_with fail
  refine (HE _).mono ?_
  rintro e w1 ⟨rfl, hb1⟩
  have hp1 := (hb1.block w.heap.size (by rw [World.size_alloc]; exact Nat.lt_succ_self _)).trans (heap_new w _)
  have HB1 : Hid (Below w.heap.size w w1) := ((Below.refl w.heap.size w).alloc (Nat.le_refl _) _).trans (hb1.mono (by rw [World.size_alloc]; omega))
  have HP1 : Hid _ := hp1
  have k0 := Go.Joins.cell_of_block hp1 0
  have k1 := Go.Joins.cell_of_block hp1 1
  have k2 := Go.Joins.cell_of_block hp1 2
  have k3 := Go.Joins.cell_of_block hp1 3
  have k4 := Go.Joins.cell_of_block hp1 4
  have k5 := Go.Joins.cell_of_block hp1 5
  have k6 := Go.Joins.cell_of_block hp1 6
  have k7 := Go.Joins.cell_of_block hp1 7
  have k8 := Go.Joins.cell_of_block hp1 8
  have k9 := Go.Joins.cell_of_block hp1 9
  simp only [List.getElem?_toArray, List.getElem?_cons_zero, List.getElem?_cons_succ] at k0 k1 k2 k3 k4 k5 k6 k7 k8 k9
  have lt1 : w.heap.size < w1.heap.size := World.block_lt_of_cell? w1 _ k0
  clear hb1 hp1 HT
  go_wp2_with fail
  refine (HM _).mono ?_
  rintro e w2 ⟨rfl, hb2⟩
  have HB2 : Hid (Below w.heap.size w w2) := below2 HB1.out hb2
  have HP2 : Hid _ := (hb2.block _ lt1).trans HP1.out
  have lt2 : w.heap.size < w2.heap.size := Nat.lt_of_lt_of_le lt1 hb2.size
  clear hb2 HB1 HP1 k0 k1 k2 k3 k4 k5 k6 k7 k8 k9
  go_wp2_with fail
  refine (shown8_any _).mono ?_
  rintro e w3 ⟨rfl, hb3⟩
  have HB3 : Hid (Below w.heap.size w w3) := below2 HB2.out hb3
  have hp3 := (hb3.block _ lt2).trans HP2.out
  have hf3 := Go.Joins.unfrozen_of_block hp3
  have k0 := Go.Joins.cell_of_block hp3 0
  have k1 := Go.Joins.cell_of_block hp3 1
  have k2 := Go.Joins.cell_of_block hp3 2
  have k3 := Go.Joins.cell_of_block hp3 3
  have k4 := Go.Joins.cell_of_block hp3 4
  have k5 := Go.Joins.cell_of_block hp3 5
  have k6 := Go.Joins.cell_of_block hp3 6
  have k7 := Go.Joins.cell_of_block hp3 7
  have k8 := Go.Joins.cell_of_block hp3 8
  have k9 := Go.Joins.cell_of_block hp3 9
  simp only [List.getElem?_toArray, List.getElem?_cons_zero, List.getElem?_cons_succ] at k0 k1 k2 k3 k4 k5 k6 k7 k8 k9
  have lt3 : w.heap.size < w3.heap.size := World.block_lt_of_cell? w3 _ k0
  clear hb3 hp3 HB2 HP2
  go_wp2_with fail
  refine (HZ _).mono ?_
  rintro e w4 ⟨rfl, hb4⟩
  have HB4 : Hid (Below w.heap.size w w4) := below2 (HB3.out.setCell (p := ⟨w.heap.size, 0, none⟩) (Nat.le_refl _) _) hb4
  clear hb4 k0 k1 k2 k3 k4 k5 k6 k7 k8 k9 hf3
  go_wp2
  go_ret
  exact ⟨rfl, HB4.out⟩
set_option linter.unusedVariables false in
set_option maxRecDepth 100000 in
set_option maxHeartbeats 8000000 in
theorem walk_d1 (u U : Nat) (role built : Int) (hU : max (u : Int) 1 = (U : Int)) (hU8 : U < 18446744073709551616) (h0 : 0 ≤ role) (h1 : ¬ role < 6) (h2 : ¬ role = 254) (h3 : role = 255) (h8 : ¬ 0 ≤ built) (hm : Sup.mayB ⟨U, 0, role, 6, 2, 10, false, built, 0, 0⟩ = false) (w : World) :
    Calls Try.prog 8 #[.int .u64 (u : Int), .int .i64 role, .int .i64 built] w fun e w' => e = .returned (.bool true) ∧ Below w.heap.size w w' := by
  have d_h0 : decide (0 ≤ role) = true := decide_eq_true h0
  have d_h1 : decide (role < 6) = false := decide_eq_false h1
  have d_h2 : (role == 254) = false := by rw [beq_eq_false_iff_ne]; exact h2
  have d_h3 : (role == 255) = true := by rw [beq_iff_eq]; exact h3
  clear h3
  have d_h8 : decide (0 ≤ built) = false := decide_eq_false h8
  have hI : Su.In ⟨U, 0, role, 6, 2, 10, false, built, 0, 0⟩ := ⟨hU8, by dsimp only; omega, by dsimp only; omega, by dsimp only; omega⟩
  have HE := fun W => Encode8_any ⟨U, 0, role, 6, 2, 10, false, built, 0, 0⟩ hI W
  have HM := fun W => May_any ⟨U, 0, role, 6, 2, 10, false, built, 0, 0⟩ hI.nw hI.c W
  have HZ := fun W => May_any ⟨0, 0, role, 6, 2, 10, false, built, 0, 0⟩ (by dsimp only; omega) (by dsimp only; omega) W
  rw [hm] at HM
  rw [show Sup.mayB ⟨0, 0, role, 6, 2, 10, false, built, 0, 0⟩ = false by simp [Sup.mayB, Sup.may]] at HZ
  rw [show Sup.encE ⟨U, 0, role, 6, 2, 10, false, built, 0, 0⟩ = 1 by simp [Sup.encE, hm], show Sup.encT ⟨U, 0, role, 6, 2, 10, false, built, 0, 0⟩ = ⟨#[]⟩ by simp [Sup.encT, hm]] at HE
  have hmax : ∀ (ts : Array TypeId) (ty : TypeId) (W : World), (Builtin.max_ ts ty #[.int .u64 (u : Int), .int .u64 1]).run Try.prog W = .ok (.int .u64 (U : Int)) W := by
    intro ts ty W
    rw [← hU]
    simp [Builtin.max_, Builtin.max2]
    omega
  have HT : Hid _ := SupAt.new w ⟨U, 0, role, 6, 2, 10, false, built, 0, 0⟩ 26
  unfold supV at *
  dsimp only at HE HM HZ
  rw [show ((0 : Nat) : Int) = 0 from rfl] at HE HM HZ
  clear hI hU hm
  go_enter Try.func8, Try.ntmps8
  go_wp2_with fail
  refine (HE _).mono ?_
  rintro e w1 ⟨rfl, hb1⟩
  have hp1 := (hb1.block w.heap.size (by rw [World.size_alloc]; exact Nat.lt_succ_self _)).trans (heap_new w _)
  have HB1 : Hid (Below w.heap.size w w1) := ((Below.refl w.heap.size w).alloc (Nat.le_refl _) _).trans (hb1.mono (by rw [World.size_alloc]; omega))
  have HP1 : Hid _ := hp1
  have k0 := Go.Joins.cell_of_block hp1 0
  have k1 := Go.Joins.cell_of_block hp1 1
  have k2 := Go.Joins.cell_of_block hp1 2
  have k3 := Go.Joins.cell_of_block hp1 3
  have k4 := Go.Joins.cell_of_block hp1 4
  have k5 := Go.Joins.cell_of_block hp1 5
  have k6 := Go.Joins.cell_of_block hp1 6
  have k7 := Go.Joins.cell_of_block hp1 7
  have k8 := Go.Joins.cell_of_block hp1 8
  have k9 := Go.Joins.cell_of_block hp1 9
  simp only [List.getElem?_toArray, List.getElem?_cons_zero, List.getElem?_cons_succ] at k0 k1 k2 k3 k4 k5 k6 k7 k8 k9
  have lt1 : w.heap.size < w1.heap.size := World.block_lt_of_cell? w1 _ k0
  clear hb1 hp1 HT
  go_wp2_with fail
  refine (HM _).mono ?_
  rintro e w2 ⟨rfl, hb2⟩
  have HB2 : Hid (Below w.heap.size w w2) := below2 HB1.out hb2
  have HP2 : Hid _ := (hb2.block _ lt1).trans HP1.out
  have lt2 : w.heap.size < w2.heap.size := Nat.lt_of_lt_of_le lt1 hb2.size
  clear hb2 HB1 HP1 k0 k1 k2 k3 k4 k5 k6 k7 k8 k9
  go_wp2_with fail
  refine (shown8_any _).mono ?_
  rintro e w3 ⟨rfl, hb3⟩
  have HB3 : Hid (Below w.heap.size w w3) := below2 HB2.out hb3
  have hp3 := (hb3.block _ lt2).trans HP2.out
  have hf3 := Go.Joins.unfrozen_of_block hp3
  have k0 := Go.Joins.cell_of_block hp3 0
  have k1 := Go.Joins.cell_of_block hp3 1
  have k2 := Go.Joins.cell_of_block hp3 2
  have k3 := Go.Joins.cell_of_block hp3 3
  have k4 := Go.Joins.cell_of_block hp3 4
  have k5 := Go.Joins.cell_of_block hp3 5
  have k6 := Go.Joins.cell_of_block hp3 6
  have k7 := Go.Joins.cell_of_block hp3 7
  have k8 := Go.Joins.cell_of_block hp3 8
  have k9 := Go.Joins.cell_of_block hp3 9
  simp only [List.getElem?_toArray, List.getElem?_cons_zero, List.getElem?_cons_succ] at k0 k1 k2 k3 k4 k5 k6 k7 k8 k9
  have lt3 : w.heap.size < w3.heap.size := World.block_lt_of_cell? w3 _ k0
  clear hb3 hp3 HB2 HP2
  go_wp2_with fail
  refine (HZ _).mono ?_
  rintro e w4 ⟨rfl, hb4⟩
  have HB4 : Hid (Below w.heap.size w w4) := below2 (HB3.out.setCell (p := ⟨w.heap.size, 0, none⟩) (Nat.le_refl _) _) hb4
  clear hb4 k0 k1 k2 k3 k4 k5 k6 k7 k8 k9 hf3
  go_wp2
  go_ret
  exact ⟨rfl, HB4.out⟩
set_option linter.unusedVariables false in
set_option maxRecDepth 100000 in
set_option maxHeartbeats 8000000 in
theorem walk_d2 (u U : Nat) (role built : Int) (hU : max (u : Int) 1 = (U : Int)) (hU8 : U < 18446744073709551616) (h0 : 0 ≤ role) (h1 : ¬ role < 6) (h2 : ¬ role = 254) (h3 : role = 255) (h8 : 0 ≤ built) (h9 : ¬ built ≤ 10) (hm : Sup.mayB ⟨U, 0, role, 6, 2, 10, false, built, 0, 0⟩ = false) (w : World) :
    Calls Try.prog 8 #[.int .u64 (u : Int), .int .i64 role, .int .i64 built] w fun e w' => e = .returned (.bool true) ∧ Below w.heap.size w w' := by
  have d_h0 : decide (0 ≤ role) = true := decide_eq_true h0
  have d_h1 : decide (role < 6) = false := decide_eq_false h1
  have d_h2 : (role == 254) = false := by rw [beq_eq_false_iff_ne]; exact h2
  have d_h3 : (role == 255) = true := by rw [beq_iff_eq]; exact h3
  clear h3
  have d_h8 : decide (0 ≤ built) = true := decide_eq_true h8
  have d_h9 : decide (built ≤ 10) = false := decide_eq_false h9
  have hI : Su.In ⟨U, 0, role, 6, 2, 10, false, built, 0, 0⟩ := ⟨hU8, by dsimp only; omega, by dsimp only; omega, by dsimp only; omega⟩
  have HE := fun W => Encode8_any ⟨U, 0, role, 6, 2, 10, false, built, 0, 0⟩ hI W
  have HM := fun W => May_any ⟨U, 0, role, 6, 2, 10, false, built, 0, 0⟩ hI.nw hI.c W
  have HZ := fun W => May_any ⟨0, 0, role, 6, 2, 10, false, built, 0, 0⟩ (by dsimp only; omega) (by dsimp only; omega) W
  rw [hm] at HM
  rw [show Sup.mayB ⟨0, 0, role, 6, 2, 10, false, built, 0, 0⟩ = false by simp [Sup.mayB, Sup.may]] at HZ
  rw [show Sup.encE ⟨U, 0, role, 6, 2, 10, false, built, 0, 0⟩ = 1 by simp [Sup.encE, hm], show Sup.encT ⟨U, 0, role, 6, 2, 10, false, built, 0, 0⟩ = ⟨#[]⟩ by simp [Sup.encT, hm]] at HE
  have hmax : ∀ (ts : Array TypeId) (ty : TypeId) (W : World), (Builtin.max_ ts ty #[.int .u64 (u : Int), .int .u64 1]).run Try.prog W = .ok (.int .u64 (U : Int)) W := by
    intro ts ty W
    rw [← hU]
    simp [Builtin.max_, Builtin.max2]
    omega
  have HT : Hid _ := SupAt.new w ⟨U, 0, role, 6, 2, 10, false, built, 0, 0⟩ 26
  unfold supV at *
  dsimp only at HE HM HZ
  rw [show ((0 : Nat) : Int) = 0 from rfl] at HE HM HZ
  clear hI hU hm
  go_enter Try.func8, Try.ntmps8
  go_wp2_with fail
  refine (HE _).mono ?_
  rintro e w1 ⟨rfl, hb1⟩
  have hp1 := (hb1.block w.heap.size (by rw [World.size_alloc]; exact Nat.lt_succ_self _)).trans (heap_new w _)
  have HB1 : Hid (Below w.heap.size w w1) := ((Below.refl w.heap.size w).alloc (Nat.le_refl _) _).trans (hb1.mono (by rw [World.size_alloc]; omega))
  have HP1 : Hid _ := hp1
  have k0 := Go.Joins.cell_of_block hp1 0
  have k1 := Go.Joins.cell_of_block hp1 1
  have k2 := Go.Joins.cell_of_block hp1 2
  have k3 := Go.Joins.cell_of_block hp1 3
  have k4 := Go.Joins.cell_of_block hp1 4
  have k5 := Go.Joins.cell_of_block hp1 5
  have k6 := Go.Joins.cell_of_block hp1 6
  have k7 := Go.Joins.cell_of_block hp1 7
  have k8 := Go.Joins.cell_of_block hp1 8
  have k9 := Go.Joins.cell_of_block hp1 9
  simp only [List.getElem?_toArray, List.getElem?_cons_zero, List.getElem?_cons_succ] at k0 k1 k2 k3 k4 k5 k6 k7 k8 k9
  have lt1 : w.heap.size < w1.heap.size := World.block_lt_of_cell? w1 _ k0
  clear hb1 hp1 HT
  go_wp2_with fail
  refine (HM _).mono ?_
  rintro e w2 ⟨rfl, hb2⟩
  have HB2 : Hid (Below w.heap.size w w2) := below2 HB1.out hb2
  have HP2 : Hid _ := (hb2.block _ lt1).trans HP1.out
  have lt2 : w.heap.size < w2.heap.size := Nat.lt_of_lt_of_le lt1 hb2.size
  clear hb2 HB1 HP1 k0 k1 k2 k3 k4 k5 k6 k7 k8 k9
  go_wp2_with fail
  refine (shown8_any _).mono ?_
  rintro e w3 ⟨rfl, hb3⟩
  have HB3 : Hid (Below w.heap.size w w3) := below2 HB2.out hb3
  have hp3 := (hb3.block _ lt2).trans HP2.out
  have hf3 := Go.Joins.unfrozen_of_block hp3
  have k0 := Go.Joins.cell_of_block hp3 0
  have k1 := Go.Joins.cell_of_block hp3 1
  have k2 := Go.Joins.cell_of_block hp3 2
  have k3 := Go.Joins.cell_of_block hp3 3
  have k4 := Go.Joins.cell_of_block hp3 4
  have k5 := Go.Joins.cell_of_block hp3 5
  have k6 := Go.Joins.cell_of_block hp3 6
  have k7 := Go.Joins.cell_of_block hp3 7
  have k8 := Go.Joins.cell_of_block hp3 8
  have k9 := Go.Joins.cell_of_block hp3 9
  simp only [List.getElem?_toArray, List.getElem?_cons_zero, List.getElem?_cons_succ] at k0 k1 k2 k3 k4 k5 k6 k7 k8 k9
  have lt3 : w.heap.size < w3.heap.size := World.block_lt_of_cell? w3 _ k0
  clear hb3 hp3 HB2 HP2
  go_wp2_with fail
  refine (HZ _).mono ?_
  rintro e w4 ⟨rfl, hb4⟩
  have HB4 : Hid (Below w.heap.size w w4) := below2 (HB3.out.setCell (p := ⟨w.heap.size, 0, none⟩) (Nat.le_refl _) _) hb4
  clear hb4 k0 k1 k2 k3 k4 k5 k6 k7 k8 k9 hf3
  go_wp2
  go_ret
  exact ⟨rfl, HB4.out⟩
set_option linter.unusedVariables false in
set_option maxRecDepth 100000 in
set_option maxHeartbeats 8000000 in
theorem walk_d3 (u U : Nat) (role built : Int) (hU : max (u : Int) 1 = (U : Int)) (hU8 : U < 18446744073709551616) (h0 : 0 ≤ role) (h1 : ¬ role < 6) (h2 : ¬ role = 254) (h3 : role = 255) (h8 : 0 ≤ built) (h9 : built ≤ 10) (hm : Sup.mayB ⟨U, 0, role, 6, 2, 10, false, built, 0, 0⟩ = true) (w : World) :
    Calls Try.prog 8 #[.int .u64 (u : Int), .int .i64 role, .int .i64 built] w fun e w' => e = .returned (.bool true) ∧ Below w.heap.size w w' := by
  have d_h0 : decide (0 ≤ role) = true := decide_eq_true h0
  have d_h1 : decide (role < 6) = false := decide_eq_false h1
  have d_h2 : (role == 254) = false := by rw [beq_eq_false_iff_ne]; exact h2
  have d_h3 : (role == 255) = true := by rw [beq_iff_eq]; exact h3
  clear h3
  have d_h8 : decide (0 ≤ built) = true := decide_eq_true h8
  have d_h9 : decide (built ≤ 10) = true := decide_eq_true h9
  have hI : Su.In ⟨U, 0, role, 6, 2, 10, false, built, 0, 0⟩ := ⟨hU8, by dsimp only; omega, by dsimp only; omega, by dsimp only; omega⟩
  have HE := fun W => Encode8_any ⟨U, 0, role, 6, 2, 10, false, built, 0, 0⟩ hI W
  have HM := fun W => May_any ⟨U, 0, role, 6, 2, 10, false, built, 0, 0⟩ hI.nw hI.c W
  have HZ := fun W => May_any ⟨0, 0, role, 6, 2, 10, false, built, 0, 0⟩ (by dsimp only; omega) (by dsimp only; omega) W
  rw [hm] at HM
  rw [show Sup.mayB ⟨0, 0, role, 6, 2, 10, false, built, 0, 0⟩ = false by simp [Sup.mayB, Sup.may]] at HZ
  rw [show Sup.encE ⟨U, 0, role, 6, 2, 10, false, built, 0, 0⟩ = 0 by simp [Sup.encE, hm]] at HE
  obtain ⟨T, hT⟩ : ∃ T, Sup.encT ⟨U, 0, role, 6, 2, 10, false, built, 0, 0⟩ = T := ⟨_, rfl⟩
  rw [hT] at HE
  clear hT
  have hmax : ∀ (ts : Array TypeId) (ty : TypeId) (W : World), (Builtin.max_ ts ty #[.int .u64 (u : Int), .int .u64 1]).run Try.prog W = .ok (.int .u64 (U : Int)) W := by
    intro ts ty W
    rw [← hU]
    simp [Builtin.max_, Builtin.max2]
    omega
  have HT : Hid _ := SupAt.new w ⟨U, 0, role, 6, 2, 10, false, built, 0, 0⟩ 26
  unfold supV at *
  dsimp only at HE HM HZ
  rw [show ((0 : Nat) : Int) = 0 from rfl] at HE HM HZ
  clear hI hU hm
  go_enter Try.func8, Try.ntmps8
  go_wp2_with fail
  refine (HE _).mono ?_
  rintro e w1 ⟨rfl, hb1⟩
  have hp1 := (hb1.block w.heap.size (by rw [World.size_alloc]; exact Nat.lt_succ_self _)).trans (heap_new w _)
  have HB1 : Hid (Below w.heap.size w w1) := ((Below.refl w.heap.size w).alloc (Nat.le_refl _) _).trans (hb1.mono (by rw [World.size_alloc]; omega))
  have HP1 : Hid _ := hp1
  have k0 := Go.Joins.cell_of_block hp1 0
  have k1 := Go.Joins.cell_of_block hp1 1
  have k2 := Go.Joins.cell_of_block hp1 2
  have k3 := Go.Joins.cell_of_block hp1 3
  have k4 := Go.Joins.cell_of_block hp1 4
  have k5 := Go.Joins.cell_of_block hp1 5
  have k6 := Go.Joins.cell_of_block hp1 6
  have k7 := Go.Joins.cell_of_block hp1 7
  have k8 := Go.Joins.cell_of_block hp1 8
  have k9 := Go.Joins.cell_of_block hp1 9
  simp only [List.getElem?_toArray, List.getElem?_cons_zero, List.getElem?_cons_succ] at k0 k1 k2 k3 k4 k5 k6 k7 k8 k9
  have lt1 : w.heap.size < w1.heap.size := World.block_lt_of_cell? w1 _ k0
  clear hb1 hp1 HT
  go_wp2_with fail
  refine (HM _).mono ?_
  rintro e w2 ⟨rfl, hb2⟩
  have HB2 : Hid (Below w.heap.size w w2) := below2 HB1.out hb2
  have HP2 : Hid _ := (hb2.block _ lt1).trans HP1.out
  have lt2 : w.heap.size < w2.heap.size := Nat.lt_of_lt_of_le lt1 hb2.size
  clear hb2 HB1 HP1 k0 k1 k2 k3 k4 k5 k6 k7 k8 k9
  go_wp2_with fail
  refine (shown8_any _).mono ?_
  rintro e w3 ⟨rfl, hb3⟩
  have HB3 : Hid (Below w.heap.size w w3) := below2 HB2.out hb3
  have hp3 := (hb3.block _ lt2).trans HP2.out
  have hf3 := Go.Joins.unfrozen_of_block hp3
  have k0 := Go.Joins.cell_of_block hp3 0
  have k1 := Go.Joins.cell_of_block hp3 1
  have k2 := Go.Joins.cell_of_block hp3 2
  have k3 := Go.Joins.cell_of_block hp3 3
  have k4 := Go.Joins.cell_of_block hp3 4
  have k5 := Go.Joins.cell_of_block hp3 5
  have k6 := Go.Joins.cell_of_block hp3 6
  have k7 := Go.Joins.cell_of_block hp3 7
  have k8 := Go.Joins.cell_of_block hp3 8
  have k9 := Go.Joins.cell_of_block hp3 9
  simp only [List.getElem?_toArray, List.getElem?_cons_zero, List.getElem?_cons_succ] at k0 k1 k2 k3 k4 k5 k6 k7 k8 k9
  have lt3 : w.heap.size < w3.heap.size := World.block_lt_of_cell? w3 _ k0
  clear hb3 hp3 HB2 HP2
  go_wp2_with fail
  refine (HZ _).mono ?_
  rintro e w4 ⟨rfl, hb4⟩
  have HB4 : Hid (Below w.heap.size w w4) := below2 (HB3.out.setCell (p := ⟨w.heap.size, 0, none⟩) (Nat.le_refl _) _) hb4
  clear hb4 k0 k1 k2 k3 k4 k5 k6 k7 k8 k9 hf3
  go_wp2
  go_ret
  exact ⟨rfl, HB4.out⟩
theorem walk (u : Int) (wu : (Lit.int .u64 u).wf = true) (role : Int) (_wr : (Lit.int .i64 role).wf = true) (built : Int) (_wb : (Lit.int .i64 built).wf = true) (w : World) :
    Calls Try.prog 8 #[.int .u64 u, .int .i64 role, .int .i64 built] w fun e w' => e = .returned (.bool true) ∧ Below w.heap.size w w' := by
  obtain ⟨u, rfl, hu⟩ := u64_nat wu
  obtain ⟨U, hU⟩ : ∃ U : Nat, max (u : Int) 1 = (U : Int) := ⟨max u 1, by omega⟩
  have hU8 : U < 18446744073709551616 := by omega
  have ho : Lay.ok 6 2 10 := ⟨by omega, by omega, by omega⟩
  have hm : Sup.mayB ⟨U, 0, role, 6, 2, 10, false, built, 0, 0⟩ = ((decide (0 ≤ role) && decide (role < 6) || decide (role = 254) || decide (role = 255)) && decide (0 ≤ built) && decide (built ≤ 10)) := by
    unfold Sup.mayB Sup.may
    rw [Bool.eq_iff_iff]
    simp [ho]
    omega
  by_cases h0 : 0 ≤ role
  case neg =>
    have h2 : ¬ role = 254 := by omega
    have h3 : ¬ role = 255 := by omega
    exact walk_neg u U role built hU hU8 h0 h2 h3 (by rw [hm]; simp [h0, h2, h3]) w
  by_cases h1 : role < 6
  · by_cases h8 : 0 ≤ built
    case neg => exact walk_a1 u U role built hU hU8 h0 h1 h8 (by rw [hm]; simp [h8]) w
    by_cases h9 : built ≤ 10
    case neg => exact walk_a2 u U role built hU hU8 h0 h1 h8 h9 (by rw [hm]; simp [h9]) w
    exact walk_a3 u U role built hU hU8 h0 h1 h8 h9 (by rw [hm]; simp [h0, h1, h8, h9]) w
  by_cases h2 : role = 254
  · by_cases h8 : 0 ≤ built
    case neg => exact walk_c1 u U role built hU hU8 h0 h1 h2 h8 (by rw [hm]; simp [h8]) w
    by_cases h9 : built ≤ 10
    case neg => exact walk_c2 u U role built hU hU8 h0 h1 h2 h8 h9 (by rw [hm]; simp [h9]) w
    exact walk_c3 u U role built hU hU8 h0 h1 h2 h8 h9 (by rw [hm]; simp [h2, h8, h9]) w
  by_cases h3 : role = 255
  · by_cases h8 : 0 ≤ built
    case neg => exact walk_d1 u U role built hU hU8 h0 h1 h2 h3 h8 (by rw [hm]; simp [h8]) w
    by_cases h9 : built ≤ 10
    case neg => exact walk_d2 u U role built hU hU8 h0 h1 h2 h3 h8 h9 (by rw [hm]; simp [h9]) w
    exact walk_d3 u U role built hU hU8 h0 h1 h2 h3 h8 h9 (by rw [hm]; simp [h3, h8, h9]) w
  exact walk_mid u U role built hU hU8 h0 h1 h2 h3 (by rw [hm]; simp [h1, h2, h3]) w

theorem own : ownKnob Try.prog.godebug = none := by kernel_rfl
set_option linter.unusedVariables false in
set_option maxRecDepth 100000 in
theorem lifted (os : Os) (started : os.Started) (H : Type) (enc : TypeId × Value → H) :
    ReturnsInHanded {} Try.checked os 8 .any (Rows.superRolesSpec.pre6 enc Try.prog Try.f8 Rows.superRolesRow.domain false) (Rows.superRolesSpec.post enc Try.prog Try.f8 false true false false) := by
  refine returnsInHanded_of_change (C := Try.checked) own started (by kernel_rfl) Try.func8
    (ChangeSpec.witness6 (enc := enc) (C := Try.checked) false ⟨#[], #[.int .u64 0, .int .i64 0, .int .i64 0], []⟩ 8 (by kernel_rfl) (by kernel_rfl) (by kernel_rfl) (by kernel_rfl)) ?_
  intro W base args ds gs before hval0 hW hcnd _
  have hval : ∀ (j : Nat) t v, Try.f8.params[j]? = some t → args[j]? = some v → Value.okWide Try.prog W .any base t v := hval0
  have hW' := hW
  obtain ⟨p, q, hA0, hV, rfl, hfz, hnd⟩ := hW
  have hA : DataW.TrodAll enc Try.prog W 0 (fun _ => true) true Try.f8.params.toList args.toList ds p := hA0
  rw [Try.params8] at hA hval
  obtain ⟨v0, vs0, d0, ds0, p0, q0, hargs, rfl, rfl, h0, r0⟩ := trodAll_cons hA
  obtain ⟨v1, vs1, d1, ds1, p1, q1, rfl, rfl, rfl, h1, r1⟩ := trodAll_cons r0
  obtain ⟨v2, vs2, d2, ds2, p2, q2, rfl, rfl, rfl, h2, r2⟩ := trodAll_cons r1
  obtain ⟨rfl, rfl, rfl⟩ := trodAll_nil r2
  obtain rfl : args = #[v0, v1, v2] := by cases args; simp_all
  obtain ⟨rfl, rfl⟩ := trodVars_none hV
  obtain ⟨a0, rfl, rfl, rfl, w0⟩ := open_int Try.underlying22 (hval 0 22 v0 rfl rfl) h0
  obtain ⟨a1, rfl, rfl, rfl, w1⟩ := open_int Try.underlying3 (hval 1 3 v1 rfl rfl) h1
  obtain ⟨a2, rfl, rfl, rfl, w2⟩ := open_int Try.underlying3 (hval 2 3 v2 rfl rfl) h2
  clear hA0 hval0
  simp only [List.append_nil] at hW'
  refine (walk a0 w0 a1 w1 a2 w2 W).mono fun e W' ⟨he, hg⟩ => ?_
  subst he
  exact ⟨_, rfl, _, _, _, [], [], [], hW', trodAll_mk1 (shut_bool Try.underlying4 _), (trodAll_cons_mk (shut_int Try.underlying22 w0) (trodAll_cons_mk (shut_int Try.underlying3 w1) (trodAll_cons_mk (shut_int Try.underlying3 w2) trodAll_mk0))), rfl, hg.frame _, fun h => by cases h⟩
/-- For every input the law returns true, and each argument reads as it did. -/
theorem proved : Rows.SuperRolesSaid :=
  OpenClaim.holds_of_wide 8 Try.f8 rfl rfl rfl rfl rfl rfl rfl ⟨rfl, rfl, rfl, rfl, rfl⟩ rfl rfl rfl rfl rfl (by kernel_rfl) Try.func8 (by kernel_rfl)
    (of_decide_eq_true (by kernel_rfl)) (by unfold Func.isWrapper; first | (rw [if_pos (by decide +kernel)]; kernel_rfl) | (rw [if_neg (by decide +kernel)]; exact ⟨rfl, rfl⟩))
    (fun os started H enc _ => lifted os started H enc)
end Go.Proofs.Ytinegeacpohlcaa.superRoles
