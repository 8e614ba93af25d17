/- The walks of super's parts, tell and put: a block's numbers by pointers to them. -/
import Derived.Test.YtgkhnfchohcjeaaMSupA
import Derived.Test.YtgkhnfchohcjeaaKitMem
import Derived.BigRegion
import Derived.Deep.RegionHeld3
namespace Go.Proofs.Ytgkhnfchohcjeaa
open Go.RowKit

/-- what a part of a block points with, and how many bytes its number has -/
def partI (p : Nat) : Nat → Value
  | 0 => .iface 105 (.pointer (some ⟨p, 0, none⟩))
  | 1 => .iface 105 (.pointer (some ⟨p, 1, none⟩))
  | 2 => .iface 105 (.pointer (some ⟨p, 2, none⟩))
  | 3 => .iface 106 (.pointer (some ⟨p, 3, none⟩))
  | 4 => .iface 106 (.pointer (some ⟨p, 4, none⟩))
  | 5 => .iface 106 (.pointer (some ⟨p, 5, none⟩))
  | 6 => .iface 106 (.pointer (some ⟨p, 6, none⟩))
  | 7 => .iface 107 (.pointer (some ⟨p, 7, none⟩))
  | 8 => .iface 106 (.pointer (some ⟨p, 8, none⟩))
  | 9 => .iface 106 (.pointer (some ⟨p, 9, none⟩))
  | _ => .iface 106 (.pointer (some ⟨p, 10, none⟩))
/-- the parts' cells -/
def partC (p : Nat) : Array Value := #[.iface 105 (.pointer (some ⟨p, 0, none⟩)), .int .i64 4, .iface 105 (.pointer (some ⟨p, 1, none⟩)), .int .i64 8, .iface 105 (.pointer (some ⟨p, 2, none⟩)), .int .i64 8, .iface 106 (.pointer (some ⟨p, 3, none⟩)), .int .i64 1, .iface 106 (.pointer (some ⟨p, 4, none⟩)), .int .i64 1, .iface 106 (.pointer (some ⟨p, 5, none⟩)), .int .i64 1, .iface 106 (.pointer (some ⟨p, 6, none⟩)), .int .i64 2, .iface 107 (.pointer (some ⟨p, 7, none⟩)), .int .i64 1, .iface 106 (.pointer (some ⟨p, 8, none⟩)), .int .i64 2, .iface 106 (.pointer (some ⟨p, 9, none⟩)), .int .i64 1, .iface 106 (.pointer (some ⟨p, 10, none⟩)), .int .i64 2]
theorem partC_iface (p j : Nat) (hj : j < 11) : (partC p)[j * 2]? = some (partI p j) := by
  have : j = 0 ∨ j = 1 ∨ j = 2 ∨ j = 3 ∨ j = 4 ∨ j = 5 ∨ j = 6 ∨ j = 7 ∨ j = 8 ∨ j = 9 ∨ j = 10 := by omega
  rcases this with rfl | rfl | rfl | rfl | rfl | rfl | rfl | rfl | rfl | rfl | rfl <;> rfl
theorem partC_wid (p j : Nat) (hj : j < 11) : (partC p)[j * 2 + 1]? = some (.int .i64 (Sup.wL.getD j 0)) := by
  have : j = 0 ∨ j = 1 ∨ j = 2 ∨ j = 3 ∨ j = 4 ∨ j = 5 ∨ j = 6 ∨ j = 7 ∨ j = 8 ∨ j = 9 ∨ j = 10 := by omega
  rcases this with rfl | rfl | rfl | rfl | rfl | rfl | rfl | rfl | rfl | rfl | rfl <;> rfl
theorem as_uu (v : Value) (w : World) : (Instr.typeAssert (.iface 105 v) 20 105 true).run Try.prog w = .ok (.tuple #[v, .bool true]) w := by kernel_rfl
theorem as_iu (v : Value) (w : World) : (Instr.typeAssert (.iface 106 v) 20 105 true).run Try.prog w = .ok (.tuple #[.pointer none, .bool false]) w := by kernel_rfl
theorem as_ii (v : Value) (w : World) : (Instr.typeAssert (.iface 106 v) 20 106 true).run Try.prog w = .ok (.tuple #[v, .bool true]) w := by kernel_rfl
theorem as_bu (v : Value) (w : World) : (Instr.typeAssert (.iface 107 v) 20 105 true).run Try.prog w = .ok (.tuple #[.pointer none, .bool false]) w := by kernel_rfl
theorem as_bi (v : Value) (w : World) : (Instr.typeAssert (.iface 107 v) 20 106 true).run Try.prog w = .ok (.tuple #[.pointer none, .bool false]) w := by kernel_rfl
theorem as_bb (v : Value) (w : World) : (Instr.typeAssert (.iface 107 v) 20 107 true).run Try.prog w = .ok (.tuple #[v, .bool true]) w := by kernel_rfl
set_option maxRecDepth 100000 in
set_option maxHeartbeats 1000000 in
theorem tell_u64 (a : Addr) (x n : Int) (w : World) (h : w.cell? a = some (.int .u64 n)) :
    Calls Try.prog 45 #[.agg #[.iface 105 (.pointer (some a)), .int .i64 x]] w fun e w' => e = .returned (.int .u64 n) ∧ Below w.heap.size w w' := by
  have f_uu := as_uu
  have lt : a.block < w.heap.size := World.block_lt_of_cell? w a h
  go_enter Try.func45, Try.ntmps45
  go_wp2
  go_ret
  exact ⟨rfl, (Below.refl _ _).alloc (Nat.le_refl _) _⟩
set_option maxRecDepth 100000 in
set_option maxHeartbeats 1000000 in
theorem tell_int (a : Addr) (x n : Int) (w : World) (h : w.cell? a = some (.int .i64 n)) (n0 : 0 ≤ n) (n1 : n < 9223372036854775808) :
    Calls Try.prog 45 #[.agg #[.iface 106 (.pointer (some a)), .int .i64 x]] w fun e w' => e = .returned (.int .u64 n) ∧ Below w.heap.size w w' := by
  have f_iu := as_iu
  have f_ii := as_ii
  have lt : a.block < w.heap.size := World.block_lt_of_cell? w a h
  go_enter Try.func45, Try.ntmps45
  go_wp2
  go_ret
  exact ⟨rfl, (Below.refl _ _).alloc (Nat.le_refl _) _⟩
set_option maxRecDepth 100000 in
set_option maxHeartbeats 1000000 in
theorem tell_bool (a : Addr) (x : Int) (n : Bool) (w : World) (h : w.cell? a = some (.bool n)) :
    Calls Try.prog 45 #[.agg #[.iface 107 (.pointer (some a)), .int .i64 x]] w fun e w' => e = .returned (.int .u64 (bif n then 1 else 0)) ∧ Below w.heap.size w w' := by
  have f_bu := as_bu
  have f_bi := as_bi
  have f_bb := as_bb
  have lt : a.block < w.heap.size := World.block_lt_of_cell? w a h
  cases n
  · go_enter Try.func45, Try.ntmps45
    go_wp2
    go_ret
    exact ⟨rfl, (Below.refl _ _).alloc (Nat.le_refl _) _⟩
  · go_enter Try.func45, Try.ntmps45
    go_wp2
    go_ret
    exact ⟨rfl, (Below.refl _ _).alloc (Nat.le_refl _) _⟩

theorem heap_new (w : World) (o : Obj) : (w.alloc o).heap[w.heap.size]? = some o := by
  show (w.heap.push o)[w.heap.size]? = some o
  simp

set_option maxRecDepth 100000 in
set_option maxHeartbeats 4000000 in
theorem parts_any (p : Nat) (w : World) :
    Calls Try.prog 44 #[.pointer (some ⟨p, 0, none⟩)] w fun e w' => e = .returned (.slice (some ⟨w.heap.size, 0, none⟩) 11 11) ∧ Below w.heap.size w w' ∧ w.heap.size < w'.heap.size ∧ w'.heap[w.heap.size]? = some (.cells (partC p) 89 (0, 0)) := by
  have HMX : Hid (Try.prog.follows .mixedOrders = true) := by show _ = _; kernel_rfl
  have iu : ∀ (x : Value) (w : World), (Instr.makeInterface 105 x).run Try.prog w = .ok (.iface 105 x) w := fun x w => run_makeInterface w _ x (by kernel_rfl)
  have ii : ∀ (x : Value) (w : World), (Instr.makeInterface 106 x).run Try.prog w = .ok (.iface 106 x) w := fun x w => run_makeInterface w _ x (by kernel_rfl)
  have ib : ∀ (x : Value) (w : World), (Instr.makeInterface 107 x).run Try.prog w = .ok (.iface 107 x) w := fun x w => run_makeInterface w _ x (by kernel_rfl)
  go_enter Try.func44, Try.ntmps44
  go_wp2_with fail
  refine wp_region_held (S := fun _ => True) HMX.out ?_
  have hS : (fun _ : World => True) w.drew := trivial
  change wpAnyH _ _ _ _ _ _ _ _ w.drew
  refine held_quiet 0 (v := ?v0q1) rfl (by kernel_rfl) (fun _ _ _ h => h) (by assumption) rfl ?hy0q1 ?rest0q1
  case hy0q1 => (intro wS hSw; (try dsimp only at hSw); go_simp; try with_reducible rfl)
  try simp only [Act.put, List.setIfInBounds_toArray, List.set_cons_zero, List.set_cons_succ]
  refine held_quiet 1 (v := ?v1q2) rfl (by kernel_rfl) (fun _ _ _ h => h) (by assumption) rfl ?hy1q2 ?rest1q2
  case hy1q2 => (intro wS hSw; (try dsimp only at hSw); go_simp; try with_reducible rfl)
  try simp only [Act.put, List.setIfInBounds_toArray, List.set_cons_zero, List.set_cons_succ]
  refine held_quiet 2 (v := ?v2q3) rfl (by kernel_rfl) (fun _ _ _ h => h) (by assumption) rfl ?hy2q3 ?rest2q3
  case hy2q3 => (intro wS hSw; (try dsimp only at hSw); go_simp; try with_reducible rfl)
  try simp only [Act.put, List.setIfInBounds_toArray, List.set_cons_zero, List.set_cons_succ]
  refine held_quiet 3 (v := ?v3q4) rfl (by kernel_rfl) (fun _ _ _ h => h) (by assumption) rfl ?hy3q4 ?rest3q4
  case hy3q4 => (intro wS hSw; (try dsimp only at hSw); go_simp; try with_reducible rfl)
  try simp only [Act.put, List.setIfInBounds_toArray, List.set_cons_zero, List.set_cons_succ]
  refine held_quiet 4 (v := ?v4q5) rfl (by kernel_rfl) (fun _ _ _ h => h) (by assumption) rfl ?hy4q5 ?rest4q5
  case hy4q5 => (intro wS hSw; (try dsimp only at hSw); go_simp; try with_reducible rfl)
  try simp only [Act.put, List.setIfInBounds_toArray, List.set_cons_zero, List.set_cons_succ]
  refine held_quiet 5 (v := ?v5q6) rfl (by kernel_rfl) (fun _ _ _ h => h) (by assumption) rfl ?hy5q6 ?rest5q6
  case hy5q6 => (intro wS hSw; (try dsimp only at hSw); go_simp; try with_reducible rfl)
  try simp only [Act.put, List.setIfInBounds_toArray, List.set_cons_zero, List.set_cons_succ]
  refine held_quiet 6 (v := ?v6q7) rfl (by kernel_rfl) (fun _ _ _ h => h) (by assumption) rfl ?hy6q7 ?rest6q7
  case hy6q7 => (intro wS hSw; (try dsimp only at hSw); go_simp; try with_reducible rfl)
  try simp only [Act.put, List.setIfInBounds_toArray, List.set_cons_zero, List.set_cons_succ]
  refine held_quiet 7 (v := ?v7q8) rfl (by kernel_rfl) (fun _ _ _ h => h) (by assumption) rfl ?hy7q8 ?rest7q8
  case hy7q8 => (intro wS hSw; (try dsimp only at hSw); go_simp; try with_reducible rfl)
  try simp only [Act.put, List.setIfInBounds_toArray, List.set_cons_zero, List.set_cons_succ]
  refine held_quiet 8 (v := ?v8q9) rfl (by kernel_rfl) (fun _ _ _ h => h) (by assumption) rfl ?hy8q9 ?rest8q9
  case hy8q9 => (intro wS hSw; (try dsimp only at hSw); go_simp; try with_reducible rfl)
  try simp only [Act.put, List.setIfInBounds_toArray, List.set_cons_zero, List.set_cons_succ]
  refine held_quiet 9 (v := ?v9q10) rfl (by kernel_rfl) (fun _ _ _ h => h) (by assumption) rfl ?hy9q10 ?rest9q10
  case hy9q10 => (intro wS hSw; (try dsimp only at hSw); go_simp; try with_reducible rfl)
  try simp only [Act.put, List.setIfInBounds_toArray, List.set_cons_zero, List.set_cons_succ]
  refine held_quiet 10 (v := ?v10q11) rfl (by kernel_rfl) (fun _ _ _ h => h) (by assumption) rfl ?hy10q11 ?rest10q11
  case hy10q11 => (intro wS hSw; (try dsimp only at hSw); go_simp; try with_reducible rfl)
  try simp only [Act.put, List.setIfInBounds_toArray, List.set_cons_zero, List.set_cons_succ]
  refine held_quiet 11 (v := ?v11q12) rfl (by kernel_rfl) (fun _ _ _ h => h) (by assumption) rfl ?hy11q12 ?rest11q12
  case hy11q12 => (intro wS hSw; (try dsimp only at hSw); go_simp; try with_reducible rfl)
  try simp only [Act.put, List.setIfInBounds_toArray, List.set_cons_zero, List.set_cons_succ]
  refine held_quiet 12 (v := ?v12q13) rfl (by kernel_rfl) (fun _ _ _ h => h) (by assumption) rfl ?hy12q13 ?rest12q13
  case hy12q13 => (intro wS hSw; (try dsimp only at hSw); go_simp; try with_reducible rfl)
  try simp only [Act.put, List.setIfInBounds_toArray, List.set_cons_zero, List.set_cons_succ]
  refine held_quiet 13 (v := ?v13q14) rfl (by kernel_rfl) (fun _ _ _ h => h) (by assumption) rfl ?hy13q14 ?rest13q14
  case hy13q14 => (intro wS hSw; (try dsimp only at hSw); go_simp; try with_reducible rfl)
  try simp only [Act.put, List.setIfInBounds_toArray, List.set_cons_zero, List.set_cons_succ]
  refine held_quiet 14 (v := ?v14q15) rfl (by kernel_rfl) (fun _ _ _ h => h) (by assumption) rfl ?hy14q15 ?rest14q15
  case hy14q15 => (intro wS hSw; (try dsimp only at hSw); go_simp; try with_reducible rfl)
  try simp only [Act.put, List.setIfInBounds_toArray, List.set_cons_zero, List.set_cons_succ]
  refine held_quiet 15 (v := ?v15q16) rfl (by kernel_rfl) (fun _ _ _ h => h) (by assumption) rfl ?hy15q16 ?rest15q16
  case hy15q16 => (intro wS hSw; (try dsimp only at hSw); go_simp; try with_reducible rfl)
  try simp only [Act.put, List.setIfInBounds_toArray, List.set_cons_zero, List.set_cons_succ]
  refine held_quiet 16 (v := ?v16q17) rfl (by kernel_rfl) (fun _ _ _ h => h) (by assumption) rfl ?hy16q17 ?rest16q17
  case hy16q17 => (intro wS hSw; (try dsimp only at hSw); go_simp; try with_reducible rfl)
  try simp only [Act.put, List.setIfInBounds_toArray, List.set_cons_zero, List.set_cons_succ]
  refine held_quiet 17 (v := ?v17q18) rfl (by kernel_rfl) (fun _ _ _ h => h) (by assumption) rfl ?hy17q18 ?rest17q18
  case hy17q18 => (intro wS hSw; (try dsimp only at hSw); go_simp; try with_reducible rfl)
  try simp only [Act.put, List.setIfInBounds_toArray, List.set_cons_zero, List.set_cons_succ]
  refine held_quiet 18 (v := ?v18q19) rfl (by kernel_rfl) (fun _ _ _ h => h) (by assumption) rfl ?hy18q19 ?rest18q19
  case hy18q19 => (intro wS hSw; (try dsimp only at hSw); go_simp; try with_reducible rfl)
  try simp only [Act.put, List.setIfInBounds_toArray, List.set_cons_zero, List.set_cons_succ]
  refine held_quiet 19 (v := ?v19q20) rfl (by kernel_rfl) (fun _ _ _ h => h) (by assumption) rfl ?hy19q20 ?rest19q20
  case hy19q20 => (intro wS hSw; (try dsimp only at hSw); go_simp; try with_reducible rfl)
  try simp only [Act.put, List.setIfInBounds_toArray, List.set_cons_zero, List.set_cons_succ]
  refine held_quiet 20 (v := ?v20q21) rfl (by kernel_rfl) (fun _ _ _ h => h) (by assumption) rfl ?hy20q21 ?rest20q21
  case hy20q21 => (intro wS hSw; (try dsimp only at hSw); go_simp; try with_reducible rfl)
  try simp only [Act.put, List.setIfInBounds_toArray, List.set_cons_zero, List.set_cons_succ]
  refine held_quiet 21 (v := ?v21q22) rfl (by kernel_rfl) (fun _ _ _ h => h) (by assumption) rfl ?hy21q22 ?rest21q22
  case hy21q22 => (intro wS hSw; (try dsimp only at hSw); go_simp; try with_reducible rfl)
  try simp only [Act.put, List.setIfInBounds_toArray, List.set_cons_zero, List.set_cons_succ]
  refine held_quiet 22 (v := ?v22q23) rfl (by kernel_rfl) (fun _ _ _ h => h) (by assumption) rfl ?hy22q23 ?rest22q23
  case hy22q23 => (intro wS hSw; (try dsimp only at hSw); go_simp; try with_reducible rfl)
  try simp only [Act.put, List.setIfInBounds_toArray, List.set_cons_zero, List.set_cons_succ]
  refine held_quiet 23 (v := ?v23q24) rfl (by kernel_rfl) (fun _ _ _ h => h) (by assumption) rfl ?hy23q24 ?rest23q24
  case hy23q24 => (intro wS hSw; (try dsimp only at hSw); go_simp; try with_reducible rfl)
  try simp only [Act.put, List.setIfInBounds_toArray, List.set_cons_zero, List.set_cons_succ]
  refine held_quiet 24 (v := ?v24q25) rfl (by kernel_rfl) (fun _ _ _ h => h) (by assumption) rfl ?hy24q25 ?rest24q25
  case hy24q25 => (intro wS hSw; (try dsimp only at hSw); go_simp; try with_reducible rfl)
  try simp only [Act.put, List.setIfInBounds_toArray, List.set_cons_zero, List.set_cons_succ]
  refine held_quiet 25 (v := ?v25q26) rfl (by kernel_rfl) (fun _ _ _ h => h) (by assumption) rfl ?hy25q26 ?rest25q26
  case hy25q26 => (intro wS hSw; (try dsimp only at hSw); go_simp; try with_reducible rfl)
  try simp only [Act.put, List.setIfInBounds_toArray, List.set_cons_zero, List.set_cons_succ]
  refine held_quiet 26 (v := ?v26q27) rfl (by kernel_rfl) (fun _ _ _ h => h) (by assumption) rfl ?hy26q27 ?rest26q27
  case hy26q27 => (intro wS hSw; (try dsimp only at hSw); go_simp; try with_reducible rfl)
  try simp only [Act.put, List.setIfInBounds_toArray, List.set_cons_zero, List.set_cons_succ]
  refine held_quiet 27 (v := ?v27q28) rfl (by kernel_rfl) (fun _ _ _ h => h) (by assumption) rfl ?hy27q28 ?rest27q28
  case hy27q28 => (intro wS hSw; (try dsimp only at hSw); go_simp; try with_reducible rfl)
  try simp only [Act.put, List.setIfInBounds_toArray, List.set_cons_zero, List.set_cons_succ]
  refine held_quiet 28 (v := ?v28q29) rfl (by kernel_rfl) (fun _ _ _ h => h) (by assumption) rfl ?hy28q29 ?rest28q29
  case hy28q29 => (intro wS hSw; (try dsimp only at hSw); go_simp; try with_reducible rfl)
  try simp only [Act.put, List.setIfInBounds_toArray, List.set_cons_zero, List.set_cons_succ]
  refine held_quiet 29 (v := ?v29q30) rfl (by kernel_rfl) (fun _ _ _ h => h) (by assumption) rfl ?hy29q30 ?rest29q30
  case hy29q30 => (intro wS hSw; (try dsimp only at hSw); go_simp; try with_reducible rfl)
  try simp only [Act.put, List.setIfInBounds_toArray, List.set_cons_zero, List.set_cons_succ]
  refine held_quiet 30 (v := ?v30q31) rfl (by kernel_rfl) (fun _ _ _ h => h) (by assumption) rfl ?hy30q31 ?rest30q31
  case hy30q31 => (intro wS hSw; (try dsimp only at hSw); go_simp; try with_reducible rfl)
  try simp only [Act.put, List.setIfInBounds_toArray, List.set_cons_zero, List.set_cons_succ]
  refine held_quiet 31 (v := ?v31q32) rfl (by kernel_rfl) (fun _ _ _ h => h) (by assumption) rfl ?hy31q32 ?rest31q32
  case hy31q32 => (intro wS hSw; (try dsimp only at hSw); go_simp; try with_reducible rfl)
  try simp only [Act.put, List.setIfInBounds_toArray, List.set_cons_zero, List.set_cons_succ]
  refine held_quiet 32 (v := ?v32q33) rfl (by kernel_rfl) (fun _ _ _ h => h) (by assumption) rfl ?hy32q33 ?rest32q33
  case hy32q33 => (intro wS hSw; (try dsimp only at hSw); go_simp; try with_reducible rfl)
  try simp only [Act.put, List.setIfInBounds_toArray, List.set_cons_zero, List.set_cons_succ]
  refine held_quiet 33 (v := ?v33q34) rfl (by kernel_rfl) (fun _ _ _ h => h) (by assumption) rfl ?hy33q34 ?rest33q34
  case hy33q34 => (intro wS hSw; (try dsimp only at hSw); go_simp; try with_reducible rfl)
  try simp only [Act.put, List.setIfInBounds_toArray, List.set_cons_zero, List.set_cons_succ]
  refine held_quiet 34 (v := ?v34q35) rfl (by kernel_rfl) (fun _ _ _ h => h) (by assumption) rfl ?hy34q35 ?rest34q35
  case hy34q35 => (intro wS hSw; (try dsimp only at hSw); go_simp; try with_reducible rfl)
  try simp only [Act.put, List.setIfInBounds_toArray, List.set_cons_zero, List.set_cons_succ]
  refine held_quiet 35 (v := ?v35q36) rfl (by kernel_rfl) (fun _ _ _ h => h) (by assumption) rfl ?hy35q36 ?rest35q36
  case hy35q36 => (intro wS hSw; (try dsimp only at hSw); go_simp; try with_reducible rfl)
  try simp only [Act.put, List.setIfInBounds_toArray, List.set_cons_zero, List.set_cons_succ]
  refine held_quiet 36 (v := ?v36q37) rfl (by kernel_rfl) (fun _ _ _ h => h) (by assumption) rfl ?hy36q37 ?rest36q37
  case hy36q37 => (intro wS hSw; (try dsimp only at hSw); go_simp; try with_reducible rfl)
  try simp only [Act.put, List.setIfInBounds_toArray, List.set_cons_zero, List.set_cons_succ]
  refine held_quiet 37 (v := ?v37q38) rfl (by kernel_rfl) (fun _ _ _ h => h) (by assumption) rfl ?hy37q38 ?rest37q38
  case hy37q38 => (intro wS hSw; (try dsimp only at hSw); go_simp; try with_reducible rfl)
  try simp only [Act.put, List.setIfInBounds_toArray, List.set_cons_zero, List.set_cons_succ]
  refine held_quiet 38 (v := ?v38q39) rfl (by kernel_rfl) (fun _ _ _ h => h) (by assumption) rfl ?hy38q39 ?rest38q39
  case hy38q39 => (intro wS hSw; (try dsimp only at hSw); go_simp; try with_reducible rfl)
  try simp only [Act.put, List.setIfInBounds_toArray, List.set_cons_zero, List.set_cons_succ]
  refine held_quiet 39 (v := ?v39q40) rfl (by kernel_rfl) (fun _ _ _ h => h) (by assumption) rfl ?hy39q40 ?rest39q40
  case hy39q40 => (intro wS hSw; (try dsimp only at hSw); go_simp; try with_reducible rfl)
  try simp only [Act.put, List.setIfInBounds_toArray, List.set_cons_zero, List.set_cons_succ]
  refine held_quiet 40 (v := ?v40q41) rfl (by kernel_rfl) (fun _ _ _ h => h) (by assumption) rfl ?hy40q41 ?rest40q41
  case hy40q41 => (intro wS hSw; (try dsimp only at hSw); go_simp; try with_reducible rfl)
  try simp only [Act.put, List.setIfInBounds_toArray, List.set_cons_zero, List.set_cons_succ]
  refine held_quiet 41 (v := ?v41q42) rfl (by kernel_rfl) (fun _ _ _ h => h) (by assumption) rfl ?hy41q42 ?rest41q42
  case hy41q42 => (intro wS hSw; (try dsimp only at hSw); go_simp; try with_reducible rfl)
  try simp only [Act.put, List.setIfInBounds_toArray, List.set_cons_zero, List.set_cons_succ]
  refine held_quiet 42 (v := ?v42q43) rfl (by kernel_rfl) (fun _ _ _ h => h) (by assumption) rfl ?hy42q43 ?rest42q43
  case hy42q43 => (intro wS hSw; (try dsimp only at hSw); go_simp; try with_reducible rfl)
  try simp only [Act.put, List.setIfInBounds_toArray, List.set_cons_zero, List.set_cons_succ]
  refine held_quiet 43 (v := ?v43q44) rfl (by kernel_rfl) (fun _ _ _ h => h) (by assumption) rfl ?hy43q44 ?rest43q44
  case hy43q44 => (intro wS hSw; (try dsimp only at hSw); go_simp; try with_reducible rfl)
  try simp only [Act.put, List.setIfInBounds_toArray, List.set_cons_zero, List.set_cons_succ]
  refine held_quiet 44 (v := ?v44q45) rfl (by kernel_rfl) (fun _ _ _ h => h) (by assumption) rfl ?hy44q45 ?rest44q45
  case hy44q45 => (intro wS hSw; (try dsimp only at hSw); go_simp; try with_reducible rfl)
  try simp only [Act.put, List.setIfInBounds_toArray, List.set_cons_zero, List.set_cons_succ]
  refine held_quiet 45 (v := ?v45q46) rfl (by kernel_rfl) (fun _ _ _ h => h) (by assumption) rfl ?hy45q46 ?rest45q46
  case hy45q46 => (intro wS hSw; (try dsimp only at hSw); go_simp; try with_reducible rfl)
  try simp only [Act.put, List.setIfInBounds_toArray, List.set_cons_zero, List.set_cons_succ]
  refine held_quiet 46 (v := ?v46q47) rfl (by kernel_rfl) (fun _ _ _ h => h) (by assumption) rfl ?hy46q47 ?rest46q47
  case hy46q47 => (intro wS hSw; (try dsimp only at hSw); go_simp; try with_reducible rfl)
  try simp only [Act.put, List.setIfInBounds_toArray, List.set_cons_zero, List.set_cons_succ]
  refine held_quiet 47 (v := ?v47q48) rfl (by kernel_rfl) (fun _ _ _ h => h) (by assumption) rfl ?hy47q48 ?rest47q48
  case hy47q48 => (intro wS hSw; (try dsimp only at hSw); go_simp; try with_reducible rfl)
  try simp only [Act.put, List.setIfInBounds_toArray, List.set_cons_zero, List.set_cons_succ]
  refine held_quiet 48 (v := ?v48q49) rfl (by kernel_rfl) (fun _ _ _ h => h) (by assumption) rfl ?hy48q49 ?rest48q49
  case hy48q49 => (intro wS hSw; (try dsimp only at hSw); go_simp; try with_reducible rfl)
  try simp only [Act.put, List.setIfInBounds_toArray, List.set_cons_zero, List.set_cons_succ]
  refine held_quiet 49 (v := ?v49q50) rfl (by kernel_rfl) (fun _ _ _ h => h) (by assumption) rfl ?hy49q50 ?rest49q50
  case hy49q50 => (intro wS hSw; (try dsimp only at hSw); go_simp; try with_reducible rfl)
  try simp only [Act.put, List.setIfInBounds_toArray, List.set_cons_zero, List.set_cons_succ]
  refine held_quiet 50 (v := ?v50q51) rfl (by kernel_rfl) (fun _ _ _ h => h) (by assumption) rfl ?hy50q51 ?rest50q51
  case hy50q51 => (intro wS hSw; (try dsimp only at hSw); go_simp; try with_reducible rfl)
  try simp only [Act.put, List.setIfInBounds_toArray, List.set_cons_zero, List.set_cons_succ]
  refine held_quiet 51 (v := ?v51q52) rfl (by kernel_rfl) (fun _ _ _ h => h) (by assumption) rfl ?hy51q52 ?rest51q52
  case hy51q52 => (intro wS hSw; (try dsimp only at hSw); go_simp; try with_reducible rfl)
  try simp only [Act.put, List.setIfInBounds_toArray, List.set_cons_zero, List.set_cons_succ]
  refine held_quiet 52 (v := ?v52q53) rfl (by kernel_rfl) (fun _ _ _ h => h) (by assumption) rfl ?hy52q53 ?rest52q53
  case hy52q53 => (intro wS hSw; (try dsimp only at hSw); go_simp; try with_reducible rfl)
  try simp only [Act.put, List.setIfInBounds_toArray, List.set_cons_zero, List.set_cons_succ]
  refine held_quiet 53 (v := ?v53q54) rfl (by kernel_rfl) (fun _ _ _ h => h) (by assumption) rfl ?hy53q54 ?rest53q54
  case hy53q54 => (intro wS hSw; (try dsimp only at hSw); go_simp; try with_reducible rfl)
  try simp only [Act.put, List.setIfInBounds_toArray, List.set_cons_zero, List.set_cons_succ]
  refine held_quiet 54 (v := ?v54q55) rfl (by kernel_rfl) (fun _ _ _ h => h) (by assumption) rfl ?hy54q55 ?rest54q55
  case hy54q55 => (intro wS hSw; (try dsimp only at hSw); go_simp; try with_reducible rfl)
  try simp only [Act.put, List.setIfInBounds_toArray, List.set_cons_zero, List.set_cons_succ]
  refine held_quiet 55 (v := ?v55q56) rfl (by kernel_rfl) (fun _ _ _ h => h) (by assumption) rfl ?hy55q56 ?rest55q56
  case hy55q56 => (intro wS hSw; (try dsimp only at hSw); go_simp; try with_reducible rfl)
  try simp only [Act.put, List.setIfInBounds_toArray, List.set_cons_zero, List.set_cons_succ]
  refine held_quiet 56 (v := ?v56q57) rfl (by kernel_rfl) (fun _ _ _ h => h) (by assumption) rfl ?hy56q57 ?rest56q57
  case hy56q57 => (intro wS hSw; (try dsimp only at hSw); go_simp; try with_reducible rfl)
  try simp only [Act.put, List.setIfInBounds_toArray, List.set_cons_zero, List.set_cons_succ]
  refine held_quiet 57 (v := ?v57q58) rfl (by kernel_rfl) (fun _ _ _ h => h) (by assumption) rfl ?hy57q58 ?rest57q58
  case hy57q58 => (intro wS hSw; (try dsimp only at hSw); go_simp; try with_reducible rfl)
  try simp only [Act.put, List.setIfInBounds_toArray, List.set_cons_zero, List.set_cons_succ]
  refine held_one 58 rfl (by kernel_rfl) ?_
  go_wp2
  try refine ⟨trivial, ?_⟩
  refine held_quiet 59 (v := ?v59q59) rfl (by kernel_rfl) (fun _ _ _ h => h) (by assumption) rfl ?hy59q59 ?rest59q59
  case hy59q59 => (intro wS hSw; (try dsimp only at hSw); go_simp; try with_reducible rfl)
  try simp only [Act.put, List.setIfInBounds_toArray, List.set_cons_zero, List.set_cons_succ]
  refine held_done (by kernel_rfl) ?_
  go_wp2
  go_ret
  refine ⟨rfl, ?_, by show w.heap.size < (w.alloc _).heap.size; rw [World.size_alloc]; exact Nat.lt_succ_self _, heap_new w _⟩
  first | exact (Below.refl _ _).drew.alloc (Nat.le_refl _) _ | exact ((Below.refl _ _).alloc (Nat.le_refl _) _).drew
end Go.Proofs.Ytgkhnfchohcjeaa
