/- The walks of super's tell and put at each of a block's parts. -/
import Derived.Test.YtgkhnfchohcjeaaSupParts
import Derived.Test.YtgkhnfchohcjeaaKitMem
import Derived.Lib.SmallJoins
namespace Go.Proofs.Ytgkhnfchohcjeaa
open Go.RowKit

/-- a block's cells -/
def blkC (f : Nat) (s : Su) : Array Value := #[.int .u64 (f : Int), .int .u64 (s.uu : Int), .int .u64 (s.ev : Int), .int .i64 s.role, .int .i64 s.c, .int .i64 s.k, .int .i64 s.r, .bool s.cl, .int .i64 s.b, .int .i64 s.nw, .int .i64 s.g]
theorem blkV_eq (f : Nat) (s : Su) : blkV f s = .agg (blkC f s) := rfl
theorem el11 {P : Nat → Prop} (h0 : P 0) (h1 : P 1) (h2 : P 2) (h3 : P 3) (h4 : P 4) (h5 : P 5) (h6 : P 6) (h7 : P 7) (h8 : P 8) (h9 : P 9) (h10 : P 10) (j : Nat) (hj : j < 11) : P j := by
  have : j = 0 ∨ j = 1 ∨ j = 2 ∨ j = 3 ∨ j = 4 ∨ j = 5 ∨ j = 6 ∨ j = 7 ∨ j = 8 ∨ j = 9 ∨ j = 10 := by omega
  rcases this with rfl | rfl | rfl | rfl | rfl | rfl | rfl | rfl | rfl | rfl | rfl <;> assumption

theorem tell_part (p f : Nat) (s : Su) (hF : Sup.Fit f s) (x : Int) (W : World) (h : ∀ j, j < 11 → W.cell? ⟨p, j, none⟩ = (blkC f s)[j]?) (j : Nat) (hj : j < 11) :
    Calls Try.prog 45 #[.agg #[partI p j, .int .i64 x]] W fun e w' => e = .returned (.int .u64 ((Sup.nums f s).getD j 0 : Nat)) ∧ Below W.heap.size W w' := by
  have key : ∀ (n : Int) (m : Nat), 0 ≤ n → m = n.toNat → ((m : Nat) : Int) = n := fun n m h e => by omega
  revert j
  refine el11 ?_ ?_ ?_ ?_ ?_ ?_ ?_ ?_ ?_ ?_ ?_
  · exact tell_u64 _ x f W (h 0 (by decide))
  · exact tell_u64 _ x s.uu W (h 1 (by decide))
  · exact tell_u64 _ x s.ev W (h 2 (by decide))
  · have := tell_int _ x s.role W (h 3 (by decide)) hF.role.1 (by have := hF.role.2; omega)
    rw [← key s.role _ hF.role.1 rfl] at this
    exact this
  · have := tell_int _ x s.c W (h 4 (by decide)) hF.c.1 (by have := hF.c.2; omega)
    rw [← key s.c _ hF.c.1 rfl] at this
    exact this
  · have := tell_int _ x s.k W (h 5 (by decide)) hF.k.1 (by have := hF.k.2; omega)
    rw [← key s.k _ hF.k.1 rfl] at this
    exact this
  · have := tell_int _ x s.r W (h 6 (by decide)) hF.r.1 (by have := hF.r.2; omega)
    rw [← key s.r _ hF.r.1 rfl] at this
    exact this
  · have := tell_bool _ x s.cl W (h 7 (by decide))
    rw [show (bif s.cl then (1 : Int) else 0) = (((Sup.nums f s).getD 7 0 : Nat) : Int) by cases hc : s.cl <;> simp [Sup.nums, hc]] at this
    exact this
  · have := tell_int _ x s.b W (h 8 (by decide)) hF.b.1 (by have := hF.b.2; omega)
    rw [← key s.b _ hF.b.1 rfl] at this
    exact this
  · have := tell_int _ x s.nw W (h 9 (by decide)) hF.nw.1 (by have := hF.nw.2; omega)
    rw [← key s.nw _ hF.nw.1 rfl] at this
    exact this
  · have := tell_int _ x s.g W (h 10 (by decide)) hF.g.1 (by have := hF.g.2; omega)
    rw [← key s.g _ hF.g.1 rfl] at this
    exact this

set_option maxRecDepth 100000 in
set_option maxHeartbeats 1000000 in
theorem put_u64 (p o : Nat) (x n : Int) (C : Array Value) (w : World) (h : w.heap[p]? = some (.cells C 67 (0, 0))) (v : Value) (hv : C[o]? = some v) :
    Calls Try.prog 70 #[.agg #[.iface 105 (.pointer (some ⟨p, o, none⟩)), .int .i64 x], .int .u64 n] w fun e w' => e = .returned (.tuple #[]) ∧ Only (fun b => b = p) w w' ∧ w'.heap[p]? = some (.cells (C.setIfInBounds o (.int .u64 n)) 67 (0, 0)) := by
  have f_uu := as_uu
  have hc : w.cell? ⟨p, o, none⟩ = some v := by rw [Go.Joins.cell_of_block h]; exact hv
  have hf : w.frozen? ⟨p, o, none⟩ = false := Go.Joins.unfrozen_of_block h o
  have lt : p < w.heap.size := World.block_lt_of_cell? w ⟨p, o, none⟩ hc
  go_enter Try.func70, Try.ntmps70
  go_wp2
  go_end0
  refine ⟨rfl, ?_, ?_⟩
  · exact (Only.setCell (fun b => b = p) w ⟨p, o, none⟩ _ rfl).then (Only.alloc _ _ _)
  · have hb := Go.Joins.block_setCell h (i := o) (.int .u64 n)
    have hl := Below.heap_alloc (w.setCell ⟨p, o, none⟩ (.int .u64 n)) (.cells #[.iface 105 (.pointer (some ⟨p, o, none⟩)), .int .i64 x] 89) p (by have := World.block_lt_of_cell? w ⟨p, o, none⟩ hc; simpa using this)
    rw [hl]; exact hb
set_option maxRecDepth 100000 in
set_option maxHeartbeats 1000000 in
theorem put_int (p o : Nat) (x n : Int) (C : Array Value) (w : World) (h : w.heap[p]? = some (.cells C 67 (0, 0))) (v : Value) (hv : C[o]? = some v) (n0 : 0 ≤ n) (n1 : n < 9223372036854775808) :
    Calls Try.prog 70 #[.agg #[.iface 106 (.pointer (some ⟨p, o, none⟩)), .int .i64 x], .int .u64 n] w fun e w' => e = .returned (.tuple #[]) ∧ Only (fun b => b = p) w w' ∧ w'.heap[p]? = some (.cells (C.setIfInBounds o (.int .i64 n)) 67 (0, 0)) := by
  have f_iu := as_iu
  have f_ii := as_ii
  have hc : w.cell? ⟨p, o, none⟩ = some v := by rw [Go.Joins.cell_of_block h]; exact hv
  have hf : w.frozen? ⟨p, o, none⟩ = false := Go.Joins.unfrozen_of_block h o
  have lt : p < w.heap.size := World.block_lt_of_cell? w ⟨p, o, none⟩ hc
  go_enter Try.func70, Try.ntmps70
  go_wp2
  go_end0
  refine ⟨rfl, ?_, ?_⟩
  · exact (Only.setCell (fun b => b = p) w ⟨p, o, none⟩ _ rfl).then (Only.alloc _ _ _)
  · have hb := Go.Joins.block_setCell h (i := o) (.int .i64 n)
    have hl := Below.heap_alloc (w.setCell ⟨p, o, none⟩ (.int .i64 n)) (.cells #[.iface 106 (.pointer (some ⟨p, o, none⟩)), .int .i64 x] 89) p (by have := World.block_lt_of_cell? w ⟨p, o, none⟩ hc; simpa using this)
    rw [hl]; exact hb
set_option maxRecDepth 100000 in
set_option maxHeartbeats 1000000 in
theorem put_bool (p o : Nat) (x n : Int) (C : Array Value) (w : World) (h : w.heap[p]? = some (.cells C 67 (0, 0))) (v : Value) (hv : C[o]? = some v) :
    Calls Try.prog 70 #[.agg #[.iface 107 (.pointer (some ⟨p, o, none⟩)), .int .i64 x], .int .u64 n] w fun e w' => e = .returned (.tuple #[]) ∧ Only (fun b => b = p) w w' ∧ w'.heap[p]? = some (.cells (C.setIfInBounds o (.bool (n == 1))) 67 (0, 0)) := by
  have f_bu := as_bu
  have f_bi := as_bi
  have f_bb := as_bb
  have hc : w.cell? ⟨p, o, none⟩ = some v := by rw [Go.Joins.cell_of_block h]; exact hv
  have hf : w.frozen? ⟨p, o, none⟩ = false := Go.Joins.unfrozen_of_block h o
  have lt : p < w.heap.size := World.block_lt_of_cell? w ⟨p, o, none⟩ hc
  go_enter Try.func70, Try.ntmps70
  go_wp2
  go_end0
  refine ⟨rfl, ?_, ?_⟩
  · exact (Only.setCell (fun b => b = p) w ⟨p, o, none⟩ _ rfl).then (Only.alloc _ _ _)
  · have hb := Go.Joins.block_setCell h (i := o) (.bool (n == 1))
    have hl := Below.heap_alloc (w.setCell ⟨p, o, none⟩ (.bool (n == 1))) (.cells #[.iface 107 (.pointer (some ⟨p, o, none⟩)), .int .i64 x] 89) p (by have := World.block_lt_of_cell? w ⟨p, o, none⟩ hc; simpa using this)
    rw [hl]; exact hb
end Go.Proofs.Ytgkhnfchohcjeaa
