/- The walks of super's parts, tell and put: a block's numbers by pointers to them. -/
import Derived.Test.YtinegeacpohlcaaSupMay
import Derived.Test.YtinegeacpohlcaaKitMem
import Derived.BigRegion
import Derived.Deep.RegionHeld3
namespace Go.Proofs.Ytinegeacpohlcaa
open Go.RowKit

/-- what a part of a block points with, and how many bytes its number has -/
def partI (p : Nat) : Nat → Value
  | 0 => .iface 89 (.pointer (some ⟨p, 0, none⟩))
  | 1 => .iface 89 (.pointer (some ⟨p, 1, none⟩))
  | 2 => .iface 89 (.pointer (some ⟨p, 2, none⟩))
  | 3 => .iface 90 (.pointer (some ⟨p, 3, none⟩))
  | 4 => .iface 90 (.pointer (some ⟨p, 4, none⟩))
  | 5 => .iface 90 (.pointer (some ⟨p, 5, none⟩))
  | 6 => .iface 90 (.pointer (some ⟨p, 6, none⟩))
  | 7 => .iface 91 (.pointer (some ⟨p, 7, none⟩))
  | 8 => .iface 90 (.pointer (some ⟨p, 8, none⟩))
  | 9 => .iface 90 (.pointer (some ⟨p, 9, none⟩))
  | _ => .iface 90 (.pointer (some ⟨p, 10, none⟩))
/-- the parts' cells -/
def partC (p : Nat) : Array Value := #[.iface 89 (.pointer (some ⟨p, 0, none⟩)), .int .i64 4, .iface 89 (.pointer (some ⟨p, 1, none⟩)), .int .i64 8, .iface 89 (.pointer (some ⟨p, 2, none⟩)), .int .i64 8, .iface 90 (.pointer (some ⟨p, 3, none⟩)), .int .i64 1, .iface 90 (.pointer (some ⟨p, 4, none⟩)), .int .i64 1, .iface 90 (.pointer (some ⟨p, 5, none⟩)), .int .i64 1, .iface 90 (.pointer (some ⟨p, 6, none⟩)), .int .i64 2, .iface 91 (.pointer (some ⟨p, 7, none⟩)), .int .i64 1, .iface 90 (.pointer (some ⟨p, 8, none⟩)), .int .i64 2, .iface 90 (.pointer (some ⟨p, 9, none⟩)), .int .i64 1, .iface 90 (.pointer (some ⟨p, 10, none⟩)), .int .i64 2]
theorem partC_iface (p j : Nat) (hj : j < 11) : (partC p)[j * 2]? = some (partI p j) := by
  have : j = 0 ∨ j = 1 ∨ j = 2 ∨ j = 3 ∨ j = 4 ∨ j = 5 ∨ j = 6 ∨ j = 7 ∨ j = 8 ∨ j = 9 ∨ j = 10 := by omega
  rcases this with rfl | rfl | rfl | rfl | rfl | rfl | rfl | rfl | rfl | rfl | rfl <;> rfl
theorem partC_wid (p j : Nat) (hj : j < 11) : (partC p)[j * 2 + 1]? = some (.int .i64 (Sup.wL.getD j 0)) := by
  have : j = 0 ∨ j = 1 ∨ j = 2 ∨ j = 3 ∨ j = 4 ∨ j = 5 ∨ j = 6 ∨ j = 7 ∨ j = 8 ∨ j = 9 ∨ j = 10 := by omega
  rcases this with rfl | rfl | rfl | rfl | rfl | rfl | rfl | rfl | rfl | rfl | rfl <;> rfl
theorem as_uu (v : Value) (w : World) : (Instr.typeAssert (.iface 89 v) 20 89 true).run Try.prog w = .ok (.tuple #[v, .bool true]) w := by kernel_rfl
theorem as_iu (v : Value) (w : World) : (Instr.typeAssert (.iface 90 v) 20 89 true).run Try.prog w = .ok (.tuple #[.pointer none, .bool false]) w := by kernel_rfl
theorem as_ii (v : Value) (w : World) : (Instr.typeAssert (.iface 90 v) 20 90 true).run Try.prog w = .ok (.tuple #[v, .bool true]) w := by kernel_rfl
theorem as_bu (v : Value) (w : World) : (Instr.typeAssert (.iface 91 v) 20 89 true).run Try.prog w = .ok (.tuple #[.pointer none, .bool false]) w := by kernel_rfl
theorem as_bi (v : Value) (w : World) : (Instr.typeAssert (.iface 91 v) 20 90 true).run Try.prog w = .ok (.tuple #[.pointer none, .bool false]) w := by kernel_rfl
theorem as_bb (v : Value) (w : World) : (Instr.typeAssert (.iface 91 v) 20 91 true).run Try.prog w = .ok (.tuple #[v, .bool true]) w := by kernel_rfl
set_option maxRecDepth 100000 in
set_option maxHeartbeats 1000000 in
theorem tell_u64 (a : Addr) (x n : Int) (w : World) (h : w.cell? a = some (.int .u64 n)) :
    Calls Try.prog 37 #[.agg #[.iface 89 (.pointer (some a)), .int .i64 x]] w fun e w' => e = .returned (.int .u64 n) ∧ Below w.heap.size w w' := by
  have f_uu := as_uu
  have lt : a.block < w.heap.size := World.block_lt_of_cell? w a h
  go_enter Try.func37, Try.ntmps37
  go_wp2
  go_ret
  exact ⟨rfl, (Below.refl _ _).alloc (Nat.le_refl _) _⟩
set_option maxRecDepth 100000 in
set_option maxHeartbeats 1000000 in
theorem tell_int (a : Addr) (x n : Int) (w : World) (h : w.cell? a = some (.int .i64 n)) (n0 : 0 ≤ n) (n1 : n < 9223372036854775808) :
    Calls Try.prog 37 #[.agg #[.iface 90 (.pointer (some a)), .int .i64 x]] w fun e w' => e = .returned (.int .u64 n) ∧ Below w.heap.size w w' := by
  have f_iu := as_iu
  have f_ii := as_ii
  have lt : a.block < w.heap.size := World.block_lt_of_cell? w a h
  go_enter Try.func37, Try.ntmps37
  go_wp2
  go_ret
  exact ⟨rfl, (Below.refl _ _).alloc (Nat.le_refl _) _⟩
set_option maxRecDepth 100000 in
set_option maxHeartbeats 1000000 in
theorem tell_bool (a : Addr) (x : Int) (n : Bool) (w : World) (h : w.cell? a = some (.bool n)) :
    Calls Try.prog 37 #[.agg #[.iface 91 (.pointer (some a)), .int .i64 x]] w fun e w' => e = .returned (.int .u64 (bif n then 1 else 0)) ∧ Below w.heap.size w w' := by
  have f_bu := as_bu
  have f_bi := as_bi
  have f_bb := as_bb
  have lt : a.block < w.heap.size := World.block_lt_of_cell? w a h
  cases n
  · go_enter Try.func37, Try.ntmps37
    go_wp2
    go_ret
    exact ⟨rfl, (Below.refl _ _).alloc (Nat.le_refl _) _⟩
  · go_enter Try.func37, Try.ntmps37
    go_wp2
    go_ret
    exact ⟨rfl, (Below.refl _ _).alloc (Nat.le_refl _) _⟩

theorem heap_new (w : World) (o : Obj) : (w.alloc o).heap[w.heap.size]? = some o := by
  show (w.heap.push o)[w.heap.size]? = some o
  simp

set_option maxRecDepth 100000 in
set_option maxHeartbeats 4000000 in
theorem parts_any (p : Nat) (w : World) :
    Calls Try.prog 36 #[.pointer (some ⟨p, 0, none⟩)] w fun e w' => e = .returned (.slice (some ⟨w.heap.size, 0, none⟩) 11 11) ∧ Below w.heap.size w w' ∧ w.heap.size < w'.heap.size ∧ w'.heap[w.heap.size]? = some (.cells (partC p) 75 (0, 0)) := by
  have HMX : Hid (Try.prog.follows .mixedOrders = true) := by show _ = _; kernel_rfl
  have iu : ∀ (x : Value) (w : World), (Instr.makeInterface 89 x).run Try.prog w = .ok (.iface 89 x) w := fun x w => run_makeInterface w _ x (by kernel_rfl)
  have ii : ∀ (x : Value) (w : World), (Instr.makeInterface 90 x).run Try.prog w = .ok (.iface 90 x) w := fun x w => run_makeInterface w _ x (by kernel_rfl)
  have ib : ∀ (x : Value) (w : World), (Instr.makeInterface 91 x).run Try.prog w = .ok (.iface 91 x) w := fun x w => run_makeInterface w _ x (by kernel_rfl)
  go_enter Try.func36, Try.ntmps36
  go_wp2_with fail
  refine wp_region_held (S := fun _ => True) HMX.out ?_
  have hS : (fun _ : World => True) w.drew := trivial
  change wpAnyH _ _ _ _ _ _ _ _ w.drew
  refine held_quiet 0 (v := ?v0) rfl (by kernel_rfl) (fun _ _ _ h => h) (by assumption) rfl ?hy0 ?rest0
  case hy0 => (intro wS hSw; (try dsimp only at hSw); go_simp; try with_reducible rfl)
  try simp only [Act.put, List.setIfInBounds_toArray, List.set_cons_zero, List.set_cons_succ]
  refine held_quiet 1 (v := ?v1) rfl (by kernel_rfl) (fun _ _ _ h => h) (by assumption) rfl ?hy1 ?rest1
  case hy1 => (intro wS hSw; (try dsimp only at hSw); go_simp; try with_reducible rfl)
  try simp only [Act.put, List.setIfInBounds_toArray, List.set_cons_zero, List.set_cons_succ]
  refine held_quiet 2 (v := ?v2) rfl (by kernel_rfl) (fun _ _ _ h => h) (by assumption) rfl ?hy2 ?rest2
  case hy2 => (intro wS hSw; (try dsimp only at hSw); go_simp; try with_reducible rfl)
  try simp only [Act.put, List.setIfInBounds_toArray, List.set_cons_zero, List.set_cons_succ]
  refine held_quiet 3 (v := ?v3) rfl (by kernel_rfl) (fun _ _ _ h => h) (by assumption) rfl ?hy3 ?rest3
  case hy3 => (intro wS hSw; (try dsimp only at hSw); go_simp; try with_reducible rfl)
  try simp only [Act.put, List.setIfInBounds_toArray, List.set_cons_zero, List.set_cons_succ]
  refine held_quiet 4 (v := ?v4) rfl (by kernel_rfl) (fun _ _ _ h => h) (by assumption) rfl ?hy4 ?rest4
  case hy4 => (intro wS hSw; (try dsimp only at hSw); go_simp; try with_reducible rfl)
  try simp only [Act.put, List.setIfInBounds_toArray, List.set_cons_zero, List.set_cons_succ]
  refine held_quiet 5 (v := ?v5) rfl (by kernel_rfl) (fun _ _ _ h => h) (by assumption) rfl ?hy5 ?rest5
  case hy5 => (intro wS hSw; (try dsimp only at hSw); go_simp; try with_reducible rfl)
  try simp only [Act.put, List.setIfInBounds_toArray, List.set_cons_zero, List.set_cons_succ]
  refine held_quiet 6 (v := ?v6) rfl (by kernel_rfl) (fun _ _ _ h => h) (by assumption) rfl ?hy6 ?rest6
  case hy6 => (intro wS hSw; (try dsimp only at hSw); go_simp; try with_reducible rfl)
  try simp only [Act.put, List.setIfInBounds_toArray, List.set_cons_zero, List.set_cons_succ]
  refine held_quiet 7 (v := ?v7) rfl (by kernel_rfl) (fun _ _ _ h => h) (by assumption) rfl ?hy7 ?rest7
  case hy7 => (intro wS hSw; (try dsimp only at hSw); go_simp; try with_reducible rfl)
  try simp only [Act.put, List.setIfInBounds_toArray, List.set_cons_zero, List.set_cons_succ]
  refine held_quiet 8 (v := ?v8) rfl (by kernel_rfl) (fun _ _ _ h => h) (by assumption) rfl ?hy8 ?rest8
  case hy8 => (intro wS hSw; (try dsimp only at hSw); go_simp; try with_reducible rfl)
  try simp only [Act.put, List.setIfInBounds_toArray, List.set_cons_zero, List.set_cons_succ]
  refine held_quiet 9 (v := ?v9) rfl (by kernel_rfl) (fun _ _ _ h => h) (by assumption) rfl ?hy9 ?rest9
  case hy9 => (intro wS hSw; (try dsimp only at hSw); go_simp; try with_reducible rfl)
  try simp only [Act.put, List.setIfInBounds_toArray, List.set_cons_zero, List.set_cons_succ]
  refine held_quiet 10 (v := ?v10) rfl (by kernel_rfl) (fun _ _ _ h => h) (by assumption) rfl ?hy10 ?rest10
  case hy10 => (intro wS hSw; (try dsimp only at hSw); go_simp; try with_reducible rfl)
  try simp only [Act.put, List.setIfInBounds_toArray, List.set_cons_zero, List.set_cons_succ]
  refine held_quiet 11 (v := ?v11) rfl (by kernel_rfl) (fun _ _ _ h => h) (by assumption) rfl ?hy11 ?rest11
  case hy11 => (intro wS hSw; (try dsimp only at hSw); go_simp; try with_reducible rfl)
  try simp only [Act.put, List.setIfInBounds_toArray, List.set_cons_zero, List.set_cons_succ]
  refine held_quiet 12 (v := ?v12) rfl (by kernel_rfl) (fun _ _ _ h => h) (by assumption) rfl ?hy12 ?rest12
  case hy12 => (intro wS hSw; (try dsimp only at hSw); go_simp; try with_reducible rfl)
  try simp only [Act.put, List.setIfInBounds_toArray, List.set_cons_zero, List.set_cons_succ]
  refine held_quiet 13 (v := ?v13) rfl (by kernel_rfl) (fun _ _ _ h => h) (by assumption) rfl ?hy13 ?rest13
  case hy13 => (intro wS hSw; (try dsimp only at hSw); go_simp; try with_reducible rfl)
  try simp only [Act.put, List.setIfInBounds_toArray, List.set_cons_zero, List.set_cons_succ]
  refine held_quiet 14 (v := ?v14) rfl (by kernel_rfl) (fun _ _ _ h => h) (by assumption) rfl ?hy14 ?rest14
  case hy14 => (intro wS hSw; (try dsimp only at hSw); go_simp; try with_reducible rfl)
  try simp only [Act.put, List.setIfInBounds_toArray, List.set_cons_zero, List.set_cons_succ]
  refine held_quiet 15 (v := ?v15) rfl (by kernel_rfl) (fun _ _ _ h => h) (by assumption) rfl ?hy15 ?rest15
  case hy15 => (intro wS hSw; (try dsimp only at hSw); go_simp; try with_reducible rfl)
  try simp only [Act.put, List.setIfInBounds_toArray, List.set_cons_zero, List.set_cons_succ]
  refine held_quiet 16 (v := ?v16) rfl (by kernel_rfl) (fun _ _ _ h => h) (by assumption) rfl ?hy16 ?rest16
  case hy16 => (intro wS hSw; (try dsimp only at hSw); go_simp; try with_reducible rfl)
  try simp only [Act.put, List.setIfInBounds_toArray, List.set_cons_zero, List.set_cons_succ]
  refine held_quiet 17 (v := ?v17) rfl (by kernel_rfl) (fun _ _ _ h => h) (by assumption) rfl ?hy17 ?rest17
  case hy17 => (intro wS hSw; (try dsimp only at hSw); go_simp; try with_reducible rfl)
  try simp only [Act.put, List.setIfInBounds_toArray, List.set_cons_zero, List.set_cons_succ]
  refine held_quiet 18 (v := ?v18) rfl (by kernel_rfl) (fun _ _ _ h => h) (by assumption) rfl ?hy18 ?rest18
  case hy18 => (intro wS hSw; (try dsimp only at hSw); go_simp; try with_reducible rfl)
  try simp only [Act.put, List.setIfInBounds_toArray, List.set_cons_zero, List.set_cons_succ]
  refine held_quiet 19 (v := ?v19) rfl (by kernel_rfl) (fun _ _ _ h => h) (by assumption) rfl ?hy19 ?rest19
  case hy19 => (intro wS hSw; (try dsimp only at hSw); go_simp; try with_reducible rfl)
  try simp only [Act.put, List.setIfInBounds_toArray, List.set_cons_zero, List.set_cons_succ]
  refine held_quiet 20 (v := ?v20) rfl (by kernel_rfl) (fun _ _ _ h => h) (by assumption) rfl ?hy20 ?rest20
  case hy20 => (intro wS hSw; (try dsimp only at hSw); go_simp; try with_reducible rfl)
  try simp only [Act.put, List.setIfInBounds_toArray, List.set_cons_zero, List.set_cons_succ]
  refine held_quiet 21 (v := ?v21) rfl (by kernel_rfl) (fun _ _ _ h => h) (by assumption) rfl ?hy21 ?rest21
  case hy21 => (intro wS hSw; (try dsimp only at hSw); go_simp; try with_reducible rfl)
  try simp only [Act.put, List.setIfInBounds_toArray, List.set_cons_zero, List.set_cons_succ]
  refine held_quiet 22 (v := ?v22) rfl (by kernel_rfl) (fun _ _ _ h => h) (by assumption) rfl ?hy22 ?rest22
  case hy22 => (intro wS hSw; (try dsimp only at hSw); go_simp; try with_reducible rfl)
  try simp only [Act.put, List.setIfInBounds_toArray, List.set_cons_zero, List.set_cons_succ]
  refine held_quiet 23 (v := ?v23) rfl (by kernel_rfl) (fun _ _ _ h => h) (by assumption) rfl ?hy23 ?rest23
  case hy23 => (intro wS hSw; (try dsimp only at hSw); go_simp; try with_reducible rfl)
  try simp only [Act.put, List.setIfInBounds_toArray, List.set_cons_zero, List.set_cons_succ]
  refine held_quiet 24 (v := ?v24) rfl (by kernel_rfl) (fun _ _ _ h => h) (by assumption) rfl ?hy24 ?rest24
  case hy24 => (intro wS hSw; (try dsimp only at hSw); go_simp; try with_reducible rfl)
  try simp only [Act.put, List.setIfInBounds_toArray, List.set_cons_zero, List.set_cons_succ]
  refine held_quiet 25 (v := ?v25) rfl (by kernel_rfl) (fun _ _ _ h => h) (by assumption) rfl ?hy25 ?rest25
  case hy25 => (intro wS hSw; (try dsimp only at hSw); go_simp; try with_reducible rfl)
  try simp only [Act.put, List.setIfInBounds_toArray, List.set_cons_zero, List.set_cons_succ]
  refine held_quiet 26 (v := ?v26) rfl (by kernel_rfl) (fun _ _ _ h => h) (by assumption) rfl ?hy26 ?rest26
  case hy26 => (intro wS hSw; (try dsimp only at hSw); go_simp; try with_reducible rfl)
  try simp only [Act.put, List.setIfInBounds_toArray, List.set_cons_zero, List.set_cons_succ]
  refine held_quiet 27 (v := ?v27) rfl (by kernel_rfl) (fun _ _ _ h => h) (by assumption) rfl ?hy27 ?rest27
  case hy27 => (intro wS hSw; (try dsimp only at hSw); go_simp; try with_reducible rfl)
  try simp only [Act.put, List.setIfInBounds_toArray, List.set_cons_zero, List.set_cons_succ]
  refine held_quiet 28 (v := ?v28) rfl (by kernel_rfl) (fun _ _ _ h => h) (by assumption) rfl ?hy28 ?rest28
  case hy28 => (intro wS hSw; (try dsimp only at hSw); go_simp; try with_reducible rfl)
  try simp only [Act.put, List.setIfInBounds_toArray, List.set_cons_zero, List.set_cons_succ]
  refine held_quiet 29 (v := ?v29) rfl (by kernel_rfl) (fun _ _ _ h => h) (by assumption) rfl ?hy29 ?rest29
  case hy29 => (intro wS hSw; (try dsimp only at hSw); go_simp; try with_reducible rfl)
  try simp only [Act.put, List.setIfInBounds_toArray, List.set_cons_zero, List.set_cons_succ]
  refine held_quiet 30 (v := ?v30) rfl (by kernel_rfl) (fun _ _ _ h => h) (by assumption) rfl ?hy30 ?rest30
  case hy30 => (intro wS hSw; (try dsimp only at hSw); go_simp; try with_reducible rfl)
  try simp only [Act.put, List.setIfInBounds_toArray, List.set_cons_zero, List.set_cons_succ]
  refine held_quiet 31 (v := ?v31) rfl (by kernel_rfl) (fun _ _ _ h => h) (by assumption) rfl ?hy31 ?rest31
  case hy31 => (intro wS hSw; (try dsimp only at hSw); go_simp; try with_reducible rfl)
  try simp only [Act.put, List.setIfInBounds_toArray, List.set_cons_zero, List.set_cons_succ]
  refine held_quiet 32 (v := ?v32) rfl (by kernel_rfl) (fun _ _ _ h => h) (by assumption) rfl ?hy32 ?rest32
  case hy32 => (intro wS hSw; (try dsimp only at hSw); go_simp; try with_reducible rfl)
  try simp only [Act.put, List.setIfInBounds_toArray, List.set_cons_zero, List.set_cons_succ]
  refine held_quiet 33 (v := ?v33) rfl (by kernel_rfl) (fun _ _ _ h => h) (by assumption) rfl ?hy33 ?rest33
  case hy33 => (intro wS hSw; (try dsimp only at hSw); go_simp; try with_reducible rfl)
  try simp only [Act.put, List.setIfInBounds_toArray, List.set_cons_zero, List.set_cons_succ]
  refine held_quiet 34 (v := ?v34) rfl (by kernel_rfl) (fun _ _ _ h => h) (by assumption) rfl ?hy34 ?rest34
  case hy34 => (intro wS hSw; (try dsimp only at hSw); go_simp; try with_reducible rfl)
  try simp only [Act.put, List.setIfInBounds_toArray, List.set_cons_zero, List.set_cons_succ]
  refine held_quiet 35 (v := ?v35) rfl (by kernel_rfl) (fun _ _ _ h => h) (by assumption) rfl ?hy35 ?rest35
  case hy35 => (intro wS hSw; (try dsimp only at hSw); go_simp; try with_reducible rfl)
  try simp only [Act.put, List.setIfInBounds_toArray, List.set_cons_zero, List.set_cons_succ]
  refine held_quiet 36 (v := ?v36) rfl (by kernel_rfl) (fun _ _ _ h => h) (by assumption) rfl ?hy36 ?rest36
  case hy36 => (intro wS hSw; (try dsimp only at hSw); go_simp; try with_reducible rfl)
  try simp only [Act.put, List.setIfInBounds_toArray, List.set_cons_zero, List.set_cons_succ]
  refine held_quiet 37 (v := ?v37) rfl (by kernel_rfl) (fun _ _ _ h => h) (by assumption) rfl ?hy37 ?rest37
  case hy37 => (intro wS hSw; (try dsimp only at hSw); go_simp; try with_reducible rfl)
  try simp only [Act.put, List.setIfInBounds_toArray, List.set_cons_zero, List.set_cons_succ]
  refine held_quiet 38 (v := ?v38) rfl (by kernel_rfl) (fun _ _ _ h => h) (by assumption) rfl ?hy38 ?rest38
  case hy38 => (intro wS hSw; (try dsimp only at hSw); go_simp; try with_reducible rfl)
  try simp only [Act.put, List.setIfInBounds_toArray, List.set_cons_zero, List.set_cons_succ]
  refine held_quiet 39 (v := ?v39) rfl (by kernel_rfl) (fun _ _ _ h => h) (by assumption) rfl ?hy39 ?rest39
  case hy39 => (intro wS hSw; (try dsimp only at hSw); go_simp; try with_reducible rfl)
  try simp only [Act.put, List.setIfInBounds_toArray, List.set_cons_zero, List.set_cons_succ]
  refine held_quiet 40 (v := ?v40) rfl (by kernel_rfl) (fun _ _ _ h => h) (by assumption) rfl ?hy40 ?rest40
  case hy40 => (intro wS hSw; (try dsimp only at hSw); go_simp; try with_reducible rfl)
  try simp only [Act.put, List.setIfInBounds_toArray, List.set_cons_zero, List.set_cons_succ]
  refine held_quiet 41 (v := ?v41) rfl (by kernel_rfl) (fun _ _ _ h => h) (by assumption) rfl ?hy41 ?rest41
  case hy41 => (intro wS hSw; (try dsimp only at hSw); go_simp; try with_reducible rfl)
  try simp only [Act.put, List.setIfInBounds_toArray, List.set_cons_zero, List.set_cons_succ]
  refine held_quiet 42 (v := ?v42) rfl (by kernel_rfl) (fun _ _ _ h => h) (by assumption) rfl ?hy42 ?rest42
  case hy42 => (intro wS hSw; (try dsimp only at hSw); go_simp; try with_reducible rfl)
  try simp only [Act.put, List.setIfInBounds_toArray, List.set_cons_zero, List.set_cons_succ]
  refine held_quiet 43 (v := ?v43) rfl (by kernel_rfl) (fun _ _ _ h => h) (by assumption) rfl ?hy43 ?rest43
  case hy43 => (intro wS hSw; (try dsimp only at hSw); go_simp; try with_reducible rfl)
  try simp only [Act.put, List.setIfInBounds_toArray, List.set_cons_zero, List.set_cons_succ]
  refine held_quiet 44 (v := ?v44) rfl (by kernel_rfl) (fun _ _ _ h => h) (by assumption) rfl ?hy44 ?rest44
  case hy44 => (intro wS hSw; (try dsimp only at hSw); go_simp; try with_reducible rfl)
  try simp only [Act.put, List.setIfInBounds_toArray, List.set_cons_zero, List.set_cons_succ]
  refine held_quiet 45 (v := ?v45) rfl (by kernel_rfl) (fun _ _ _ h => h) (by assumption) rfl ?hy45 ?rest45
  case hy45 => (intro wS hSw; (try dsimp only at hSw); go_simp; try with_reducible rfl)
  try simp only [Act.put, List.setIfInBounds_toArray, List.set_cons_zero, List.set_cons_succ]
  refine held_quiet 46 (v := ?v46) rfl (by kernel_rfl) (fun _ _ _ h => h) (by assumption) rfl ?hy46 ?rest46
  case hy46 => (intro wS hSw; (try dsimp only at hSw); go_simp; try with_reducible rfl)
  try simp only [Act.put, List.setIfInBounds_toArray, List.set_cons_zero, List.set_cons_succ]
  refine held_quiet 47 (v := ?v47) rfl (by kernel_rfl) (fun _ _ _ h => h) (by assumption) rfl ?hy47 ?rest47
  case hy47 => (intro wS hSw; (try dsimp only at hSw); go_simp; try with_reducible rfl)
  try simp only [Act.put, List.setIfInBounds_toArray, List.set_cons_zero, List.set_cons_succ]
  refine held_quiet 48 (v := ?v48) rfl (by kernel_rfl) (fun _ _ _ h => h) (by assumption) rfl ?hy48 ?rest48
  case hy48 => (intro wS hSw; (try dsimp only at hSw); go_simp; try with_reducible rfl)
  try simp only [Act.put, List.setIfInBounds_toArray, List.set_cons_zero, List.set_cons_succ]
  refine held_quiet 49 (v := ?v49) rfl (by kernel_rfl) (fun _ _ _ h => h) (by assumption) rfl ?hy49 ?rest49
  case hy49 => (intro wS hSw; (try dsimp only at hSw); go_simp; try with_reducible rfl)
  try simp only [Act.put, List.setIfInBounds_toArray, List.set_cons_zero, List.set_cons_succ]
  refine held_quiet 50 (v := ?v50) rfl (by kernel_rfl) (fun _ _ _ h => h) (by assumption) rfl ?hy50 ?rest50
  case hy50 => (intro wS hSw; (try dsimp only at hSw); go_simp; try with_reducible rfl)
  try simp only [Act.put, List.setIfInBounds_toArray, List.set_cons_zero, List.set_cons_succ]
  refine held_quiet 51 (v := ?v51) rfl (by kernel_rfl) (fun _ _ _ h => h) (by assumption) rfl ?hy51 ?rest51
  case hy51 => (intro wS hSw; (try dsimp only at hSw); go_simp; try with_reducible rfl)
  try simp only [Act.put, List.setIfInBounds_toArray, List.set_cons_zero, List.set_cons_succ]
  refine held_quiet 52 (v := ?v52) rfl (by kernel_rfl) (fun _ _ _ h => h) (by assumption) rfl ?hy52 ?rest52
  case hy52 => (intro wS hSw; (try dsimp only at hSw); go_simp; try with_reducible rfl)
  try simp only [Act.put, List.setIfInBounds_toArray, List.set_cons_zero, List.set_cons_succ]
  refine held_quiet 53 (v := ?v53) rfl (by kernel_rfl) (fun _ _ _ h => h) (by assumption) rfl ?hy53 ?rest53
  case hy53 => (intro wS hSw; (try dsimp only at hSw); go_simp; try with_reducible rfl)
  try simp only [Act.put, List.setIfInBounds_toArray, List.set_cons_zero, List.set_cons_succ]
  refine held_quiet 54 (v := ?v54) rfl (by kernel_rfl) (fun _ _ _ h => h) (by assumption) rfl ?hy54 ?rest54
  case hy54 => (intro wS hSw; (try dsimp only at hSw); go_simp; try with_reducible rfl)
  try simp only [Act.put, List.setIfInBounds_toArray, List.set_cons_zero, List.set_cons_succ]
  refine held_quiet 55 (v := ?v55) rfl (by kernel_rfl) (fun _ _ _ h => h) (by assumption) rfl ?hy55 ?rest55
  case hy55 => (intro wS hSw; (try dsimp only at hSw); go_simp; try with_reducible rfl)
  try simp only [Act.put, List.setIfInBounds_toArray, List.set_cons_zero, List.set_cons_succ]
  refine held_quiet 56 (v := ?v56) rfl (by kernel_rfl) (fun _ _ _ h => h) (by assumption) rfl ?hy56 ?rest56
  case hy56 => (intro wS hSw; (try dsimp only at hSw); go_simp; try with_reducible rfl)
  try simp only [Act.put, List.setIfInBounds_toArray, List.set_cons_zero, List.set_cons_succ]
  refine held_quiet 57 (v := ?v57) rfl (by kernel_rfl) (fun _ _ _ h => h) (by assumption) rfl ?hy57 ?rest57
  case hy57 => (intro wS hSw; (try dsimp only at hSw); go_simp; try with_reducible rfl)
  try simp only [Act.put, List.setIfInBounds_toArray, List.set_cons_zero, List.set_cons_succ]
  refine held_one 58 rfl (by kernel_rfl) ?_
  go_wp2
  try refine ⟨trivial, ?_⟩
  refine held_quiet 59 (v := ?v59) rfl (by kernel_rfl) (fun _ _ _ h => h) (by assumption) rfl ?hy59 ?rest59
  case hy59 => (intro wS hSw; (try dsimp only at hSw); go_simp; try with_reducible rfl)
  try simp only [Act.put, List.setIfInBounds_toArray, List.set_cons_zero, List.set_cons_succ]
  refine held_done (by kernel_rfl) ?_
  go_wp2
  go_ret
  refine ⟨rfl, ?_, by show w.heap.size < (w.alloc _).heap.size; rw [World.size_alloc]; exact Nat.lt_succ_self _, heap_new w _⟩
  first | exact (Below.refl _ _).drew.alloc (Nat.le_refl _) _ | exact ((Below.refl _ _).alloc (Nat.le_refl _) _).drew
end Go.Proofs.Ytinegeacpohlcaa
