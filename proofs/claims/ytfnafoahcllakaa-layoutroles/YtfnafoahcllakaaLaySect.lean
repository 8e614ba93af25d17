/- The walk of a shape's sector: which sector stands at a place. -/
import Derived.Test.YtfnafoahcllakaaLayWalk
import Derived.Laws.StructEq
import Derived.Laws.Cover2
namespace Go.Proofs.Ytfnafoahcllakaa
open Go.RowKit

theorem eqPlace (a b c x y z : Int) (w : World) : (Op.equalIn 10000 50 (.agg #[.int .i64 a, .int .i64 b, .int .i64 c]) (.agg #[.int .i64 x, .int .i64 y, .int .i64 z])).run Try.prog w = .ok (a == x && b == y && c == z) w := by
  rw [run_equalIn_struct w 9999 50 _ _ (by kernel_rfl) (by kernel_rfl)]
  go_simp
  by_cases h1 : a = x <;> by_cases h2 : b = y <;> by_cases h3 : c = z <;> simp [h1, h2, h3]

/-- two blocks of three cells, under 'what lay below is as it was' -/
theorem det_shapes {P : Program} {f : FuncId} {args : Array Value} {v : Value} {wr W : World} {b b' B : Nat} {c k r x y z : Int} (hB : B ≤ wr.heap.size) (h : Calls P f args W fun e w' => e = .returned v ∧ Below W.heap.size W w')
    (hW : (W.cell? ⟨b, 0, none⟩ = some (.int .i64 c) ∧ W.cell? ⟨b, 1, none⟩ = some (.int .i64 k) ∧ W.cell? ⟨b, 2, none⟩ = some (.int .i64 r)) ∧ (W.cell? ⟨b', 0, none⟩ = some (.int .i64 x) ∧ W.cell? ⟨b', 1, none⟩ = some (.int .i64 y) ∧ W.cell? ⟨b', 2, none⟩ = some (.int .i64 z)) ∧ Below B wr W) :
    Calls P f args W fun e w' => e = .returned v ∧ (w'.cell? ⟨b, 0, none⟩ = some (.int .i64 c) ∧ w'.cell? ⟨b, 1, none⟩ = some (.int .i64 k) ∧ w'.cell? ⟨b, 2, none⟩ = some (.int .i64 r)) ∧ (w'.cell? ⟨b', 0, none⟩ = some (.int .i64 x) ∧ w'.cell? ⟨b', 1, none⟩ = some (.int .i64 y) ∧ w'.cell? ⟨b', 2, none⟩ = some (.int .i64 z)) ∧ Below B wr w' :=
  h.mono fun _ _ ⟨e, hb⟩ => ⟨e, ShpAt.below (show ShpAt W b c k r from hW.1) hb (ShpAt.lt (show ShpAt W b c k r from hW.1)), ShpAt.below (show ShpAt W b' x y z from hW.2.1) hb (ShpAt.lt (show ShpAt W b' x y z from hW.2.1)), hW.2.2.trans (hb.mono (Nat.le_trans hB hW.2.2.size))⟩
theorem det_still {P : Program} {f : FuncId} {args : Array Value} {v : Value} {W : World} {S : World → Prop} (h : Calls P f args W fun e w' => e = .returned v ∧ w' = W) (hW : S W) :
    Calls P f args W fun e w' => e = .returned v ∧ S w' := h.mono fun _ _ ⟨e, hb⟩ => ⟨e, by rw [hb]; exact hW⟩
/-- what a shape and a place behind it hold, boxed -/
theorem sect_start (w : World) (c k r x y z : Int) :
    (ShpAt ((w.alloc (.cells #[.int .i64 c, .int .i64 k, .int .i64 r] 46)).alloc (.cells #[.int .i64 x, .int .i64 y, .int .i64 z] 50)) w.heap.size c k r ∧
    ShpAt ((w.alloc (.cells #[.int .i64 c, .int .i64 k, .int .i64 r] 46)).alloc (.cells #[.int .i64 x, .int .i64 y, .int .i64 z] 50)) (w.heap.size + 1) x y z) ∧
    Below w.heap.size w ((w.alloc (.cells #[.int .i64 c, .int .i64 k, .int .i64 r] 46)).alloc (.cells #[.int .i64 x, .int .i64 y, .int .i64 z] 50)) := by
  refine ⟨⟨(ShpAt.new w c k r _).below (B := w.heap.size + 1) ((Below.refl _ _).alloc (by simp) _) (by omega), ?_⟩, ((Below.refl _ _).alloc (Nat.le_refl _) _).alloc (by simp) _⟩
  have := ShpAt.new (w.alloc (.cells #[.int .i64 c, .int .i64 k, .int .i64 r] 46)) x y z 50
  simpa using this

set_option maxRecDepth 100000 in
set_option maxHeartbeats 2000000 in
/-- no sector has that number -/
theorem sector_far (c k r row i off x1 x2 x3 n : Int) (h : Lay.ok c k r) (h1 : IntKind.i64.wrap (row * (c - 2)) = x1) (h2 : IntKind.i64.wrap (x1 + i) = x2) (h3 : IntKind.i64.wrap (x2 * k) = x3) (h4 : IntKind.i64.wrap (x3 + off) = n)
    (hn : ¬ (0 ≤ n ∧ n ≤ r * (c - 2) * k - 1)) (w : World) :
    Calls Try.prog 38 #[geoV c k r, geoV row i off] w fun e w' => e = .returned (.tuple #[.int .i64 0, .bool false]) ∧ Below w.heap.size w w' := by
  have hD := fun W => data_any c k r (by have := h.1; omega) (by have := h.1; omega) W
  have hS := fun W => size_any c k r h W
  obtain ⟨d, hd⟩ : ∃ d, c - 2 = d := ⟨_, rfl⟩
  obtain ⟨z, hz⟩ : ∃ z, r * (c - 2) * k = z := ⟨_, rfl⟩
  have z1 : -90000 ≤ z ∧ z ≤ 90000 := by
    obtain ⟨⟨c1, c2⟩, ⟨k1, k2⟩, r1, r2⟩ := h
    have q1 : 0 ≤ r * (c - 2) := Int.mul_nonneg (by omega) (by omega)
    have q2 : r * (c - 2) ≤ 256 * 8 := Int.mul_le_mul (by omega) (by omega) (by omega) (by omega)
    have q3 : 0 ≤ r * (c - 2) * k := Int.mul_nonneg q1 (by omega)
    have q4 : r * (c - 2) * k ≤ 256 * 8 * 4 := Int.mul_le_mul q2 (by omega) (by omega) (by omega)
    omega
  have wz : IntKind.i64.wrap (z - 1) = z - 1 := by rw [IntKind.wrap_i64]; omega
  have HMX : Hid (Try.prog.follows .mixedOrders = true) := by show _ = _; kernel_rfl
  rw [hz] at hS hn
  have hB := fun W => between_no 0 n (z - 1) hn W
  rw [hd] at hD h1
  have HST : Hid _ := sect_start w c k r row i off
  clear hd hz hn h z1
  unfold geoV at *
  go_enter Try.func38, Try.ntmps38
  go_wp2_with fail
  obtain ⟨w0, hw0⟩ : ∃ w0, ((w.alloc (.cells #[.int .i64 c, .int .i64 k, .int .i64 r] 46)).alloc (.cells #[.int .i64 row, .int .i64 i, .int .i64 off] 50)) = w0 := ⟨_, rfl⟩
  have hstart := HST.out
  rw [hw0] at hstart ⊢
  clear hw0 HST
  have HW0 : Hid (Below w.heap.size w w0) := hstart.2
  refine region_det (fun W => (W.cell? ⟨w.heap.size, 0, none⟩ = some (.int .i64 c) ∧ W.cell? ⟨w.heap.size, 1, none⟩ = some (.int .i64 k) ∧ W.cell? ⟨w.heap.size, 2, none⟩ = some (.int .i64 r)) ∧ (W.cell? ⟨w.heap.size + 1, 0, none⟩ = some (.int .i64 row) ∧ W.cell? ⟨w.heap.size + 1, 1, none⟩ = some (.int .i64 i) ∧ W.cell? ⟨w.heap.size + 1, 2, none⟩ = some (.int .i64 off)) ∧ Below w0.heap.size w0 W) HMX.out (by kernel_rfl) ⟨hstart.1.1, hstart.1.2, (Below.refl _ _).drew⟩ ?_
  clear hstart
  refine det_read 0 (v := ?vx1) rfl (by kernel_rfl) rfl ?hyx1 ?restx1
  case hyx1 => (intro wS hSw; (try dsimp only at hSw); go_simp; try with_reducible rfl)
  try simp only [Act.put, List.setIfInBounds_toArray, List.set_cons_zero, List.set_cons_succ]
  refine det_read 1 (v := ?vx2) rfl (by kernel_rfl) rfl ?hyx2 ?restx2
  case hyx2 => (intro wS hSw; (try dsimp only at hSw); go_simp; try with_reducible rfl)
  try simp only [Act.put, List.setIfInBounds_toArray, List.set_cons_zero, List.set_cons_succ]
  refine det_read 2 (v := ?vx3) rfl (by kernel_rfl) rfl ?hyx3 ?restx3
  case hyx3 => (intro wS hSw; (try dsimp only at hSw); go_simp; try with_reducible rfl)
  try simp only [Act.put, List.setIfInBounds_toArray, List.set_cons_zero, List.set_cons_succ]
  refine det_call 3 rfl (by kernel_rfl) rfl ?hyx77 (fun W h => det_shapes (Nat.le_refl _) (hD W) h) ?restx77
  case hyx77 => (intro wS hSw; go_simp; try with_reducible rfl)
  try simp only [Act.put, List.setIfInBounds_toArray, List.set_cons_zero, List.set_cons_succ]
  refine det_read 4 (v := ?vx4) rfl (by kernel_rfl) rfl ?hyx4 ?restx4
  case hyx4 => (intro wS hSw; (try dsimp only at hSw); go_simp; try with_reducible rfl)
  try simp only [Act.put, List.setIfInBounds_toArray, List.set_cons_zero, List.set_cons_succ]
  refine det_read 5 (v := ?vx5) rfl (by kernel_rfl) rfl ?hyx5 ?restx5
  case hyx5 => (intro wS hSw; (try dsimp only at hSw); go_simp; try with_reducible rfl)
  try simp only [Act.put, List.setIfInBounds_toArray, List.set_cons_zero, List.set_cons_succ]
  refine det_read 6 (v := ?vx6) rfl (by kernel_rfl) rfl ?hyx6 ?restx6
  case hyx6 => (intro wS hSw; (try dsimp only at hSw); go_simp; try with_reducible rfl)
  try simp only [Act.put, List.setIfInBounds_toArray, List.set_cons_zero, List.set_cons_succ]
  refine det_read 7 (v := ?vx7) rfl (by kernel_rfl) rfl ?hyx7 ?restx7
  case hyx7 => (intro wS hSw; (try dsimp only at hSw); go_simp; try with_reducible rfl)
  try simp only [Act.put, List.setIfInBounds_toArray, List.set_cons_zero, List.set_cons_succ]
  refine det_read 8 (v := ?vx8) rfl (by kernel_rfl) rfl ?hyx8 ?restx8
  case hyx8 => (intro wS hSw; (try dsimp only at hSw); go_simp; try with_reducible rfl)
  try simp only [Act.put, List.setIfInBounds_toArray, List.set_cons_zero, List.set_cons_succ]
  refine det_read 9 (v := ?vx9) rfl (by kernel_rfl) rfl ?hyx9 ?restx9
  case hyx9 => (intro wS hSw; (try dsimp only at hSw); go_simp; try with_reducible rfl)
  try simp only [Act.put, List.setIfInBounds_toArray, List.set_cons_zero, List.set_cons_succ]
  refine det_read 10 (v := ?vx10) rfl (by kernel_rfl) rfl ?hyx10 ?restx10
  case hyx10 => (intro wS hSw; (try dsimp only at hSw); go_simp; try with_reducible rfl)
  try simp only [Act.put, List.setIfInBounds_toArray, List.set_cons_zero, List.set_cons_succ]
  refine det_read 11 (v := ?vx11) rfl (by kernel_rfl) rfl ?hyx11 ?restx11
  case hyx11 => (intro wS hSw; (try dsimp only at hSw); go_simp; try with_reducible rfl)
  try simp only [Act.put, List.setIfInBounds_toArray, List.set_cons_zero, List.set_cons_succ]
  refine det_read 12 (v := ?vx12) rfl (by kernel_rfl) rfl ?hyx12 ?restx12
  case hyx12 => (intro wS hSw; (try dsimp only at hSw); go_simp; try with_reducible rfl)
  try simp only [Act.put, List.setIfInBounds_toArray, List.set_cons_zero, List.set_cons_succ]
  refine det_read 13 (v := ?vx13) rfl (by kernel_rfl) rfl ?hyx13 ?restx13
  case hyx13 => (intro wS hSw; (try dsimp only at hSw); go_simp; try with_reducible rfl)
  try simp only [Act.put, List.setIfInBounds_toArray, List.set_cons_zero, List.set_cons_succ]
  refine det_read 14 (v := ?vx14) rfl (by kernel_rfl) rfl ?hyx14 ?restx14
  case hyx14 => (intro wS hSw; (try dsimp only at hSw); go_simp; try with_reducible rfl)
  try simp only [Act.put, List.setIfInBounds_toArray, List.set_cons_zero, List.set_cons_succ]
  refine det_read 15 (v := ?vx15) rfl (by kernel_rfl) rfl ?hyx15 ?restx15
  case hyx15 => (intro wS hSw; (try dsimp only at hSw); go_simp; try with_reducible rfl)
  try simp only [Act.put, List.setIfInBounds_toArray, List.set_cons_zero, List.set_cons_succ]
  refine det_done (by kernel_rfl) ?_
  intro W hW
  have HW : Hid (Below w0.heap.size w0 W) := hW.2.2
  go_wp2_with fail
  refine region_det (fun W => (W.cell? ⟨w.heap.size, 0, none⟩ = some (.int .i64 c) ∧ W.cell? ⟨w.heap.size, 1, none⟩ = some (.int .i64 k) ∧ W.cell? ⟨w.heap.size, 2, none⟩ = some (.int .i64 r)) ∧ (W.cell? ⟨w.heap.size + 1, 0, none⟩ = some (.int .i64 row) ∧ W.cell? ⟨w.heap.size + 1, 1, none⟩ = some (.int .i64 i) ∧ W.cell? ⟨w.heap.size + 1, 2, none⟩ = some (.int .i64 off)) ∧ Below w0.heap.size w0 W) HMX.out (by kernel_rfl) ⟨hW.1, hW.2.1, hW.2.2.drew⟩ ?_
  clear hW
  refine det_read 0 (v := ?vx16) rfl (by kernel_rfl) rfl ?hyx16 ?restx16
  case hyx16 => (intro wS hSw; (try dsimp only at hSw); go_simp; try with_reducible rfl)
  try simp only [Act.put, List.setIfInBounds_toArray, List.set_cons_zero, List.set_cons_succ]
  refine det_read 1 (v := ?vx17) rfl (by kernel_rfl) rfl ?hyx17 ?restx17
  case hyx17 => (intro wS hSw; (try dsimp only at hSw); go_simp; try with_reducible rfl)
  try simp only [Act.put, List.setIfInBounds_toArray, List.set_cons_zero, List.set_cons_succ]
  refine det_call 2 rfl (by kernel_rfl) rfl ?hyx78 (fun W h => det_shapes (Nat.le_refl _) (hS W) h) ?restx78
  case hyx78 => (intro wS hSw; go_simp; try with_reducible rfl)
  try simp only [Act.put, List.setIfInBounds_toArray, List.set_cons_zero, List.set_cons_succ]
  refine det_read 3 (v := ?vx18) rfl (by kernel_rfl) rfl ?hyx18 ?restx18
  case hyx18 => (intro wS hSw; (try dsimp only at hSw); go_simp; try with_reducible rfl)
  try simp only [Act.put, List.setIfInBounds_toArray, List.set_cons_zero, List.set_cons_succ]
  refine det_call 4 rfl (by kernel_rfl) rfl ?hyx79 (fun W h => det_still (hB W) h) ?restx79
  case hyx79 => (intro wS hSw; go_simp; try with_reducible rfl)
  try simp only [Act.put, List.setIfInBounds_toArray, List.set_cons_zero, List.set_cons_succ]
  refine det_read 5 (v := ?vx19) rfl (by kernel_rfl) rfl ?hyx19 ?restx19
  case hyx19 => (intro wS hSw; (try dsimp only at hSw); go_simp; try with_reducible rfl)
  try simp only [Act.put, List.setIfInBounds_toArray, List.set_cons_zero, List.set_cons_succ]
  refine det_read 6 (v := ?vx20) rfl (by kernel_rfl) rfl ?hyx20 ?restx20
  case hyx20 => (intro wS hSw; (try dsimp only at hSw); go_simp; try with_reducible rfl)
  try simp only [Act.put, List.setIfInBounds_toArray, List.set_cons_zero, List.set_cons_succ]
  refine det_skip 7 rfl (by kernel_rfl) rfl ?restx72
  try simp only [Act.put, List.setIfInBounds_toArray, List.set_cons_zero, List.set_cons_succ]
  refine det_skip 8 rfl (by kernel_rfl) rfl ?restx73
  try simp only [Act.put, List.setIfInBounds_toArray, List.set_cons_zero, List.set_cons_succ]
  refine det_skip 9 rfl (by kernel_rfl) rfl ?restx74
  try simp only [Act.put, List.setIfInBounds_toArray, List.set_cons_zero, List.set_cons_succ]
  refine det_skip 10 rfl (by kernel_rfl) rfl ?restx75
  try simp only [Act.put, List.setIfInBounds_toArray, List.set_cons_zero, List.set_cons_succ]
  refine det_skip 11 rfl (by kernel_rfl) rfl ?restx76
  try simp only [Act.put, List.setIfInBounds_toArray, List.set_cons_zero, List.set_cons_succ]
  refine det_read 12 (v := ?vx21) rfl (by kernel_rfl) rfl ?hyx21 ?restx21
  case hyx21 => (intro wS hSw; (try dsimp only at hSw); go_simp; try with_reducible rfl)
  try simp only [Act.put, List.setIfInBounds_toArray, List.set_cons_zero, List.set_cons_succ]
  refine det_done (by kernel_rfl) ?_
  intro W1 hW1
  go_wp2
  go_ret2
  exact ⟨rfl, below2 HW0.out hW1.2.2⟩
set_option maxRecDepth 100000 in
set_option maxHeartbeats 2000000 in
/-- a sector has that number: it stands there -/
theorem sector_same (c k r row i off x1 x2 x3 n : Int) (h : Lay.ok c k r) (h1 : IntKind.i64.wrap (row * (c - 2)) = x1) (h2 : IntKind.i64.wrap (x1 + i) = x2) (h3 : IntKind.i64.wrap (x2 * k) = x3) (h4 : IntKind.i64.wrap (x3 + off) = n)
    (hn : 0 ≤ n ∧ n ≤ r * (c - 2) * k - 1) (hb : (n / k / (c - 2) == row && n / k % (c - 2) == i && n % k == off) = true) (w : World) :
    Calls Try.prog 38 #[geoV c k r, geoV row i off] w fun e w' => e = .returned (.tuple #[.int .i64 n, .bool true]) ∧ Below w.heap.size w w' := by
  have hD := fun W => data_any c k r (by have := h.1; omega) (by have := h.1; omega) W
  have hS := fun W => size_any c k r h W
  obtain ⟨d, hd⟩ : ∃ d, c - 2 = d := ⟨_, rfl⟩
  obtain ⟨z, hz⟩ : ∃ z, r * (c - 2) * k = z := ⟨_, rfl⟩
  have z1 : -90000 ≤ z ∧ z ≤ 90000 := by
    obtain ⟨⟨c1, c2⟩, ⟨k1, k2⟩, r1, r2⟩ := h
    have q1 : 0 ≤ r * (c - 2) := Int.mul_nonneg (by omega) (by omega)
    have q2 : r * (c - 2) ≤ 256 * 8 := Int.mul_le_mul (by omega) (by omega) (by omega) (by omega)
    have q3 : 0 ≤ r * (c - 2) * k := Int.mul_nonneg q1 (by omega)
    have q4 : r * (c - 2) * k ≤ 256 * 8 * 4 := Int.mul_le_mul q2 (by omega) (by omega) (by omega)
    omega
  have wz : IntKind.i64.wrap (z - 1) = z - 1 := by rw [IntKind.wrap_i64]; omega
  have hP := fun W => place_any c k r n h hn.1 (by have h1 := hn.2; rw [hz] at h1; have h2 := z1.2; omega) W
  obtain ⟨A, hA⟩ : ∃ A, n / k / (c - 2) = A := ⟨_, rfl⟩
  obtain ⟨I, hI⟩ : ∃ I, n / k % (c - 2) = I := ⟨_, rfl⟩
  obtain ⟨O, hO⟩ : ∃ O, n % k = O := ⟨_, rfl⟩
  rw [hA, hI, hO] at hP
  rw [hA, hI, hO] at hb
  have hE : ∀ w, (Op.equalIn 10000 50 (.agg #[.int .i64 A, .int .i64 I, .int .i64 O]) (.agg #[.int .i64 row, .int .i64 i, .int .i64 off])).run Try.prog w = .ok true w := fun w => by rw [eqPlace, hb]
  clear hb
  have HMX : Hid (Try.prog.follows .mixedOrders = true) := by show _ = _; kernel_rfl
  rw [hz] at hS hn
  have hB := fun W => between_yes 0 n (z - 1) hn.1 hn.2 W
  rw [hd] at hD h1
  have HST : Hid _ := sect_start w c k r row i off
  clear hd hz hn h z1 hA hI hO
  unfold geoV at *
  go_enter Try.func38, Try.ntmps38
  go_wp2_with fail
  obtain ⟨w0, hw0⟩ : ∃ w0, ((w.alloc (.cells #[.int .i64 c, .int .i64 k, .int .i64 r] 46)).alloc (.cells #[.int .i64 row, .int .i64 i, .int .i64 off] 50)) = w0 := ⟨_, rfl⟩
  have hstart := HST.out
  rw [hw0] at hstart ⊢
  clear hw0 HST
  have HW0 : Hid (Below w.heap.size w w0) := hstart.2
  refine region_det (fun W => (W.cell? ⟨w.heap.size, 0, none⟩ = some (.int .i64 c) ∧ W.cell? ⟨w.heap.size, 1, none⟩ = some (.int .i64 k) ∧ W.cell? ⟨w.heap.size, 2, none⟩ = some (.int .i64 r)) ∧ (W.cell? ⟨w.heap.size + 1, 0, none⟩ = some (.int .i64 row) ∧ W.cell? ⟨w.heap.size + 1, 1, none⟩ = some (.int .i64 i) ∧ W.cell? ⟨w.heap.size + 1, 2, none⟩ = some (.int .i64 off)) ∧ Below w0.heap.size w0 W) HMX.out (by kernel_rfl) ⟨hstart.1.1, hstart.1.2, (Below.refl _ _).drew⟩ ?_
  clear hstart
  refine det_read 0 (v := ?vx22) rfl (by kernel_rfl) rfl ?hyx22 ?restx22
  case hyx22 => (intro wS hSw; (try dsimp only at hSw); go_simp; try with_reducible rfl)
  try simp only [Act.put, List.setIfInBounds_toArray, List.set_cons_zero, List.set_cons_succ]
  refine det_read 1 (v := ?vx23) rfl (by kernel_rfl) rfl ?hyx23 ?restx23
  case hyx23 => (intro wS hSw; (try dsimp only at hSw); go_simp; try with_reducible rfl)
  try simp only [Act.put, List.setIfInBounds_toArray, List.set_cons_zero, List.set_cons_succ]
  refine det_read 2 (v := ?vx24) rfl (by kernel_rfl) rfl ?hyx24 ?restx24
  case hyx24 => (intro wS hSw; (try dsimp only at hSw); go_simp; try with_reducible rfl)
  try simp only [Act.put, List.setIfInBounds_toArray, List.set_cons_zero, List.set_cons_succ]
  refine det_call 3 rfl (by kernel_rfl) rfl ?hyx80 (fun W h => det_shapes (Nat.le_refl _) (hD W) h) ?restx80
  case hyx80 => (intro wS hSw; go_simp; try with_reducible rfl)
  try simp only [Act.put, List.setIfInBounds_toArray, List.set_cons_zero, List.set_cons_succ]
  refine det_read 4 (v := ?vx25) rfl (by kernel_rfl) rfl ?hyx25 ?restx25
  case hyx25 => (intro wS hSw; (try dsimp only at hSw); go_simp; try with_reducible rfl)
  try simp only [Act.put, List.setIfInBounds_toArray, List.set_cons_zero, List.set_cons_succ]
  refine det_read 5 (v := ?vx26) rfl (by kernel_rfl) rfl ?hyx26 ?restx26
  case hyx26 => (intro wS hSw; (try dsimp only at hSw); go_simp; try with_reducible rfl)
  try simp only [Act.put, List.setIfInBounds_toArray, List.set_cons_zero, List.set_cons_succ]
  refine det_read 6 (v := ?vx27) rfl (by kernel_rfl) rfl ?hyx27 ?restx27
  case hyx27 => (intro wS hSw; (try dsimp only at hSw); go_simp; try with_reducible rfl)
  try simp only [Act.put, List.setIfInBounds_toArray, List.set_cons_zero, List.set_cons_succ]
  refine det_read 7 (v := ?vx28) rfl (by kernel_rfl) rfl ?hyx28 ?restx28
  case hyx28 => (intro wS hSw; (try dsimp only at hSw); go_simp; try with_reducible rfl)
  try simp only [Act.put, List.setIfInBounds_toArray, List.set_cons_zero, List.set_cons_succ]
  refine det_read 8 (v := ?vx29) rfl (by kernel_rfl) rfl ?hyx29 ?restx29
  case hyx29 => (intro wS hSw; (try dsimp only at hSw); go_simp; try with_reducible rfl)
  try simp only [Act.put, List.setIfInBounds_toArray, List.set_cons_zero, List.set_cons_succ]
  refine det_read 9 (v := ?vx30) rfl (by kernel_rfl) rfl ?hyx30 ?restx30
  case hyx30 => (intro wS hSw; (try dsimp only at hSw); go_simp; try with_reducible rfl)
  try simp only [Act.put, List.setIfInBounds_toArray, List.set_cons_zero, List.set_cons_succ]
  refine det_read 10 (v := ?vx31) rfl (by kernel_rfl) rfl ?hyx31 ?restx31
  case hyx31 => (intro wS hSw; (try dsimp only at hSw); go_simp; try with_reducible rfl)
  try simp only [Act.put, List.setIfInBounds_toArray, List.set_cons_zero, List.set_cons_succ]
  refine det_read 11 (v := ?vx32) rfl (by kernel_rfl) rfl ?hyx32 ?restx32
  case hyx32 => (intro wS hSw; (try dsimp only at hSw); go_simp; try with_reducible rfl)
  try simp only [Act.put, List.setIfInBounds_toArray, List.set_cons_zero, List.set_cons_succ]
  refine det_read 12 (v := ?vx33) rfl (by kernel_rfl) rfl ?hyx33 ?restx33
  case hyx33 => (intro wS hSw; (try dsimp only at hSw); go_simp; try with_reducible rfl)
  try simp only [Act.put, List.setIfInBounds_toArray, List.set_cons_zero, List.set_cons_succ]
  refine det_read 13 (v := ?vx34) rfl (by kernel_rfl) rfl ?hyx34 ?restx34
  case hyx34 => (intro wS hSw; (try dsimp only at hSw); go_simp; try with_reducible rfl)
  try simp only [Act.put, List.setIfInBounds_toArray, List.set_cons_zero, List.set_cons_succ]
  refine det_read 14 (v := ?vx35) rfl (by kernel_rfl) rfl ?hyx35 ?restx35
  case hyx35 => (intro wS hSw; (try dsimp only at hSw); go_simp; try with_reducible rfl)
  try simp only [Act.put, List.setIfInBounds_toArray, List.set_cons_zero, List.set_cons_succ]
  refine det_read 15 (v := ?vx36) rfl (by kernel_rfl) rfl ?hyx36 ?restx36
  case hyx36 => (intro wS hSw; (try dsimp only at hSw); go_simp; try with_reducible rfl)
  try simp only [Act.put, List.setIfInBounds_toArray, List.set_cons_zero, List.set_cons_succ]
  refine det_done (by kernel_rfl) ?_
  intro W hW
  have HW : Hid (Below w0.heap.size w0 W) := hW.2.2
  go_wp2_with fail
  refine region_det (fun W => (W.cell? ⟨w.heap.size, 0, none⟩ = some (.int .i64 c) ∧ W.cell? ⟨w.heap.size, 1, none⟩ = some (.int .i64 k) ∧ W.cell? ⟨w.heap.size, 2, none⟩ = some (.int .i64 r)) ∧ (W.cell? ⟨w.heap.size + 1, 0, none⟩ = some (.int .i64 row) ∧ W.cell? ⟨w.heap.size + 1, 1, none⟩ = some (.int .i64 i) ∧ W.cell? ⟨w.heap.size + 1, 2, none⟩ = some (.int .i64 off)) ∧ Below w0.heap.size w0 W) HMX.out (by kernel_rfl) ⟨hW.1, hW.2.1, hW.2.2.drew⟩ ?_
  clear hW
  refine det_read 0 (v := ?vx37) rfl (by kernel_rfl) rfl ?hyx37 ?restx37
  case hyx37 => (intro wS hSw; (try dsimp only at hSw); go_simp; try with_reducible rfl)
  try simp only [Act.put, List.setIfInBounds_toArray, List.set_cons_zero, List.set_cons_succ]
  refine det_read 1 (v := ?vx38) rfl (by kernel_rfl) rfl ?hyx38 ?restx38
  case hyx38 => (intro wS hSw; (try dsimp only at hSw); go_simp; try with_reducible rfl)
  try simp only [Act.put, List.setIfInBounds_toArray, List.set_cons_zero, List.set_cons_succ]
  refine det_call 2 rfl (by kernel_rfl) rfl ?hyx81 (fun W h => det_shapes (Nat.le_refl _) (hS W) h) ?restx81
  case hyx81 => (intro wS hSw; go_simp; try with_reducible rfl)
  try simp only [Act.put, List.setIfInBounds_toArray, List.set_cons_zero, List.set_cons_succ]
  refine det_read 3 (v := ?vx39) rfl (by kernel_rfl) rfl ?hyx39 ?restx39
  case hyx39 => (intro wS hSw; (try dsimp only at hSw); go_simp; try with_reducible rfl)
  try simp only [Act.put, List.setIfInBounds_toArray, List.set_cons_zero, List.set_cons_succ]
  refine det_call 4 rfl (by kernel_rfl) rfl ?hyx82 (fun W h => det_still (hB W) h) ?restx82
  case hyx82 => (intro wS hSw; go_simp; try with_reducible rfl)
  try simp only [Act.put, List.setIfInBounds_toArray, List.set_cons_zero, List.set_cons_succ]
  refine det_read 5 (v := ?vx40) rfl (by kernel_rfl) rfl ?hyx40 ?restx40
  case hyx40 => (intro wS hSw; (try dsimp only at hSw); go_simp; try with_reducible rfl)
  try simp only [Act.put, List.setIfInBounds_toArray, List.set_cons_zero, List.set_cons_succ]
  refine det_read 6 (v := ?vx41) rfl (by kernel_rfl) rfl ?hyx41 ?restx41
  case hyx41 => (intro wS hSw; (try dsimp only at hSw); go_simp; try with_reducible rfl)
  try simp only [Act.put, List.setIfInBounds_toArray, List.set_cons_zero, List.set_cons_succ]
  refine det_read 7 (v := ?vx42) rfl (by kernel_rfl) rfl ?hyx42 ?restx42
  case hyx42 => (intro wS hSw; (try dsimp only at hSw); go_simp; try with_reducible rfl)
  try simp only [Act.put, List.setIfInBounds_toArray, List.set_cons_zero, List.set_cons_succ]
  refine det_read 8 (v := ?vx43) rfl (by kernel_rfl) rfl ?hyx43 ?restx43
  case hyx43 => (intro wS hSw; (try dsimp only at hSw); go_simp; try with_reducible rfl)
  try simp only [Act.put, List.setIfInBounds_toArray, List.set_cons_zero, List.set_cons_succ]
  refine det_call 9 rfl (by kernel_rfl) rfl ?hyx83 (fun W h => det_shapes (Nat.le_refl _) (hP W) h) ?restx83
  case hyx83 => (intro wS hSw; go_simp; try with_reducible rfl)
  try simp only [Act.put, List.setIfInBounds_toArray, List.set_cons_zero, List.set_cons_succ]
  refine det_read 10 (v := ?vx44) rfl (by kernel_rfl) rfl ?hyx44 ?restx44
  case hyx44 => (intro wS hSw; (try dsimp only at hSw); go_simp; try with_reducible rfl)
  try simp only [Act.put, List.setIfInBounds_toArray, List.set_cons_zero, List.set_cons_succ]
  refine det_read 11 (v := ?vx45) rfl (by kernel_rfl) rfl ?hyx45 ?restx45
  case hyx45 => (intro wS hSw; (try dsimp only at hSw); go_simp; try with_reducible rfl)
  try simp only [Act.put, List.setIfInBounds_toArray, List.set_cons_zero, List.set_cons_succ]
  refine det_read 12 (v := ?vx46) rfl (by kernel_rfl) rfl ?hyx46 ?restx46
  case hyx46 => (intro wS hSw; (try dsimp only at hSw); go_simp; try with_reducible rfl)
  try simp only [Act.put, List.setIfInBounds_toArray, List.set_cons_zero, List.set_cons_succ]
  refine det_done (by kernel_rfl) ?_
  intro W1 hW1
  go_wp2
  go_ret2
  exact ⟨rfl, below2 HW0.out hW1.2.2⟩
set_option maxRecDepth 100000 in
set_option maxHeartbeats 2000000 in
/-- a sector has that number: it stands elsewhere -/
theorem sector_else (c k r row i off x1 x2 x3 n : Int) (h : Lay.ok c k r) (h1 : IntKind.i64.wrap (row * (c - 2)) = x1) (h2 : IntKind.i64.wrap (x1 + i) = x2) (h3 : IntKind.i64.wrap (x2 * k) = x3) (h4 : IntKind.i64.wrap (x3 + off) = n)
    (hn : 0 ≤ n ∧ n ≤ r * (c - 2) * k - 1) (hb : (n / k / (c - 2) == row && n / k % (c - 2) == i && n % k == off) = false) (w : World) :
    Calls Try.prog 38 #[geoV c k r, geoV row i off] w fun e w' => e = .returned (.tuple #[.int .i64 0, .bool false]) ∧ Below w.heap.size w w' := by
  have hD := fun W => data_any c k r (by have := h.1; omega) (by have := h.1; omega) W
  have hS := fun W => size_any c k r h W
  obtain ⟨d, hd⟩ : ∃ d, c - 2 = d := ⟨_, rfl⟩
  obtain ⟨z, hz⟩ : ∃ z, r * (c - 2) * k = z := ⟨_, rfl⟩
  have z1 : -90000 ≤ z ∧ z ≤ 90000 := by
    obtain ⟨⟨c1, c2⟩, ⟨k1, k2⟩, r1, r2⟩ := h
    have q1 : 0 ≤ r * (c - 2) := Int.mul_nonneg (by omega) (by omega)
    have q2 : r * (c - 2) ≤ 256 * 8 := Int.mul_le_mul (by omega) (by omega) (by omega) (by omega)
    have q3 : 0 ≤ r * (c - 2) * k := Int.mul_nonneg q1 (by omega)
    have q4 : r * (c - 2) * k ≤ 256 * 8 * 4 := Int.mul_le_mul q2 (by omega) (by omega) (by omega)
    omega
  have wz : IntKind.i64.wrap (z - 1) = z - 1 := by rw [IntKind.wrap_i64]; omega
  have hP := fun W => place_any c k r n h hn.1 (by have h1 := hn.2; rw [hz] at h1; have h2 := z1.2; omega) W
  obtain ⟨A, hA⟩ : ∃ A, n / k / (c - 2) = A := ⟨_, rfl⟩
  obtain ⟨I, hI⟩ : ∃ I, n / k % (c - 2) = I := ⟨_, rfl⟩
  obtain ⟨O, hO⟩ : ∃ O, n % k = O := ⟨_, rfl⟩
  rw [hA, hI, hO] at hP
  rw [hA, hI, hO] at hb
  have hE : ∀ w, (Op.equalIn 10000 50 (.agg #[.int .i64 A, .int .i64 I, .int .i64 O]) (.agg #[.int .i64 row, .int .i64 i, .int .i64 off])).run Try.prog w = .ok false w := fun w => by rw [eqPlace, hb]
  clear hb
  have HMX : Hid (Try.prog.follows .mixedOrders = true) := by show _ = _; kernel_rfl
  rw [hz] at hS hn
  have hB := fun W => between_yes 0 n (z - 1) hn.1 hn.2 W
  rw [hd] at hD h1
  have HST : Hid _ := sect_start w c k r row i off
  clear hd hz hn h z1 hA hI hO
  unfold geoV at *
  go_enter Try.func38, Try.ntmps38
  go_wp2_with fail
  obtain ⟨w0, hw0⟩ : ∃ w0, ((w.alloc (.cells #[.int .i64 c, .int .i64 k, .int .i64 r] 46)).alloc (.cells #[.int .i64 row, .int .i64 i, .int .i64 off] 50)) = w0 := ⟨_, rfl⟩
  have hstart := HST.out
  rw [hw0] at hstart ⊢
  clear hw0 HST
  have HW0 : Hid (Below w.heap.size w w0) := hstart.2
  refine region_det (fun W => (W.cell? ⟨w.heap.size, 0, none⟩ = some (.int .i64 c) ∧ W.cell? ⟨w.heap.size, 1, none⟩ = some (.int .i64 k) ∧ W.cell? ⟨w.heap.size, 2, none⟩ = some (.int .i64 r)) ∧ (W.cell? ⟨w.heap.size + 1, 0, none⟩ = some (.int .i64 row) ∧ W.cell? ⟨w.heap.size + 1, 1, none⟩ = some (.int .i64 i) ∧ W.cell? ⟨w.heap.size + 1, 2, none⟩ = some (.int .i64 off)) ∧ Below w0.heap.size w0 W) HMX.out (by kernel_rfl) ⟨hstart.1.1, hstart.1.2, (Below.refl _ _).drew⟩ ?_
  clear hstart
  refine det_read 0 (v := ?vx47) rfl (by kernel_rfl) rfl ?hyx47 ?restx47
  case hyx47 => (intro wS hSw; (try dsimp only at hSw); go_simp; try with_reducible rfl)
  try simp only [Act.put, List.setIfInBounds_toArray, List.set_cons_zero, List.set_cons_succ]
  refine det_read 1 (v := ?vx48) rfl (by kernel_rfl) rfl ?hyx48 ?restx48
  case hyx48 => (intro wS hSw; (try dsimp only at hSw); go_simp; try with_reducible rfl)
  try simp only [Act.put, List.setIfInBounds_toArray, List.set_cons_zero, List.set_cons_succ]
  refine det_read 2 (v := ?vx49) rfl (by kernel_rfl) rfl ?hyx49 ?restx49
  case hyx49 => (intro wS hSw; (try dsimp only at hSw); go_simp; try with_reducible rfl)
  try simp only [Act.put, List.setIfInBounds_toArray, List.set_cons_zero, List.set_cons_succ]
  refine det_call 3 rfl (by kernel_rfl) rfl ?hyx84 (fun W h => det_shapes (Nat.le_refl _) (hD W) h) ?restx84
  case hyx84 => (intro wS hSw; go_simp; try with_reducible rfl)
  try simp only [Act.put, List.setIfInBounds_toArray, List.set_cons_zero, List.set_cons_succ]
  refine det_read 4 (v := ?vx50) rfl (by kernel_rfl) rfl ?hyx50 ?restx50
  case hyx50 => (intro wS hSw; (try dsimp only at hSw); go_simp; try with_reducible rfl)
  try simp only [Act.put, List.setIfInBounds_toArray, List.set_cons_zero, List.set_cons_succ]
  refine det_read 5 (v := ?vx51) rfl (by kernel_rfl) rfl ?hyx51 ?restx51
  case hyx51 => (intro wS hSw; (try dsimp only at hSw); go_simp; try with_reducible rfl)
  try simp only [Act.put, List.setIfInBounds_toArray, List.set_cons_zero, List.set_cons_succ]
  refine det_read 6 (v := ?vx52) rfl (by kernel_rfl) rfl ?hyx52 ?restx52
  case hyx52 => (intro wS hSw; (try dsimp only at hSw); go_simp; try with_reducible rfl)
  try simp only [Act.put, List.setIfInBounds_toArray, List.set_cons_zero, List.set_cons_succ]
  refine det_read 7 (v := ?vx53) rfl (by kernel_rfl) rfl ?hyx53 ?restx53
  case hyx53 => (intro wS hSw; (try dsimp only at hSw); go_simp; try with_reducible rfl)
  try simp only [Act.put, List.setIfInBounds_toArray, List.set_cons_zero, List.set_cons_succ]
  refine det_read 8 (v := ?vx54) rfl (by kernel_rfl) rfl ?hyx54 ?restx54
  case hyx54 => (intro wS hSw; (try dsimp only at hSw); go_simp; try with_reducible rfl)
  try simp only [Act.put, List.setIfInBounds_toArray, List.set_cons_zero, List.set_cons_succ]
  refine det_read 9 (v := ?vx55) rfl (by kernel_rfl) rfl ?hyx55 ?restx55
  case hyx55 => (intro wS hSw; (try dsimp only at hSw); go_simp; try with_reducible rfl)
  try simp only [Act.put, List.setIfInBounds_toArray, List.set_cons_zero, List.set_cons_succ]
  refine det_read 10 (v := ?vx56) rfl (by kernel_rfl) rfl ?hyx56 ?restx56
  case hyx56 => (intro wS hSw; (try dsimp only at hSw); go_simp; try with_reducible rfl)
  try simp only [Act.put, List.setIfInBounds_toArray, List.set_cons_zero, List.set_cons_succ]
  refine det_read 11 (v := ?vx57) rfl (by kernel_rfl) rfl ?hyx57 ?restx57
  case hyx57 => (intro wS hSw; (try dsimp only at hSw); go_simp; try with_reducible rfl)
  try simp only [Act.put, List.setIfInBounds_toArray, List.set_cons_zero, List.set_cons_succ]
  refine det_read 12 (v := ?vx58) rfl (by kernel_rfl) rfl ?hyx58 ?restx58
  case hyx58 => (intro wS hSw; (try dsimp only at hSw); go_simp; try with_reducible rfl)
  try simp only [Act.put, List.setIfInBounds_toArray, List.set_cons_zero, List.set_cons_succ]
  refine det_read 13 (v := ?vx59) rfl (by kernel_rfl) rfl ?hyx59 ?restx59
  case hyx59 => (intro wS hSw; (try dsimp only at hSw); go_simp; try with_reducible rfl)
  try simp only [Act.put, List.setIfInBounds_toArray, List.set_cons_zero, List.set_cons_succ]
  refine det_read 14 (v := ?vx60) rfl (by kernel_rfl) rfl ?hyx60 ?restx60
  case hyx60 => (intro wS hSw; (try dsimp only at hSw); go_simp; try with_reducible rfl)
  try simp only [Act.put, List.setIfInBounds_toArray, List.set_cons_zero, List.set_cons_succ]
  refine det_read 15 (v := ?vx61) rfl (by kernel_rfl) rfl ?hyx61 ?restx61
  case hyx61 => (intro wS hSw; (try dsimp only at hSw); go_simp; try with_reducible rfl)
  try simp only [Act.put, List.setIfInBounds_toArray, List.set_cons_zero, List.set_cons_succ]
  refine det_done (by kernel_rfl) ?_
  intro W hW
  have HW : Hid (Below w0.heap.size w0 W) := hW.2.2
  go_wp2_with fail
  refine region_det (fun W => (W.cell? ⟨w.heap.size, 0, none⟩ = some (.int .i64 c) ∧ W.cell? ⟨w.heap.size, 1, none⟩ = some (.int .i64 k) ∧ W.cell? ⟨w.heap.size, 2, none⟩ = some (.int .i64 r)) ∧ (W.cell? ⟨w.heap.size + 1, 0, none⟩ = some (.int .i64 row) ∧ W.cell? ⟨w.heap.size + 1, 1, none⟩ = some (.int .i64 i) ∧ W.cell? ⟨w.heap.size + 1, 2, none⟩ = some (.int .i64 off)) ∧ Below w0.heap.size w0 W) HMX.out (by kernel_rfl) ⟨hW.1, hW.2.1, hW.2.2.drew⟩ ?_
  clear hW
  refine det_read 0 (v := ?vx62) rfl (by kernel_rfl) rfl ?hyx62 ?restx62
  case hyx62 => (intro wS hSw; (try dsimp only at hSw); go_simp; try with_reducible rfl)
  try simp only [Act.put, List.setIfInBounds_toArray, List.set_cons_zero, List.set_cons_succ]
  refine det_read 1 (v := ?vx63) rfl (by kernel_rfl) rfl ?hyx63 ?restx63
  case hyx63 => (intro wS hSw; (try dsimp only at hSw); go_simp; try with_reducible rfl)
  try simp only [Act.put, List.setIfInBounds_toArray, List.set_cons_zero, List.set_cons_succ]
  refine det_call 2 rfl (by kernel_rfl) rfl ?hyx85 (fun W h => det_shapes (Nat.le_refl _) (hS W) h) ?restx85
  case hyx85 => (intro wS hSw; go_simp; try with_reducible rfl)
  try simp only [Act.put, List.setIfInBounds_toArray, List.set_cons_zero, List.set_cons_succ]
  refine det_read 3 (v := ?vx64) rfl (by kernel_rfl) rfl ?hyx64 ?restx64
  case hyx64 => (intro wS hSw; (try dsimp only at hSw); go_simp; try with_reducible rfl)
  try simp only [Act.put, List.setIfInBounds_toArray, List.set_cons_zero, List.set_cons_succ]
  refine det_call 4 rfl (by kernel_rfl) rfl ?hyx86 (fun W h => det_still (hB W) h) ?restx86
  case hyx86 => (intro wS hSw; go_simp; try with_reducible rfl)
  try simp only [Act.put, List.setIfInBounds_toArray, List.set_cons_zero, List.set_cons_succ]
  refine det_read 5 (v := ?vx65) rfl (by kernel_rfl) rfl ?hyx65 ?restx65
  case hyx65 => (intro wS hSw; (try dsimp only at hSw); go_simp; try with_reducible rfl)
  try simp only [Act.put, List.setIfInBounds_toArray, List.set_cons_zero, List.set_cons_succ]
  refine det_read 6 (v := ?vx66) rfl (by kernel_rfl) rfl ?hyx66 ?restx66
  case hyx66 => (intro wS hSw; (try dsimp only at hSw); go_simp; try with_reducible rfl)
  try simp only [Act.put, List.setIfInBounds_toArray, List.set_cons_zero, List.set_cons_succ]
  refine det_read 7 (v := ?vx67) rfl (by kernel_rfl) rfl ?hyx67 ?restx67
  case hyx67 => (intro wS hSw; (try dsimp only at hSw); go_simp; try with_reducible rfl)
  try simp only [Act.put, List.setIfInBounds_toArray, List.set_cons_zero, List.set_cons_succ]
  refine det_read 8 (v := ?vx68) rfl (by kernel_rfl) rfl ?hyx68 ?restx68
  case hyx68 => (intro wS hSw; (try dsimp only at hSw); go_simp; try with_reducible rfl)
  try simp only [Act.put, List.setIfInBounds_toArray, List.set_cons_zero, List.set_cons_succ]
  refine det_call 9 rfl (by kernel_rfl) rfl ?hyx87 (fun W h => det_shapes (Nat.le_refl _) (hP W) h) ?restx87
  case hyx87 => (intro wS hSw; go_simp; try with_reducible rfl)
  try simp only [Act.put, List.setIfInBounds_toArray, List.set_cons_zero, List.set_cons_succ]
  refine det_read 10 (v := ?vx69) rfl (by kernel_rfl) rfl ?hyx69 ?restx69
  case hyx69 => (intro wS hSw; (try dsimp only at hSw); go_simp; try with_reducible rfl)
  try simp only [Act.put, List.setIfInBounds_toArray, List.set_cons_zero, List.set_cons_succ]
  refine det_read 11 (v := ?vx70) rfl (by kernel_rfl) rfl ?hyx70 ?restx70
  case hyx70 => (intro wS hSw; (try dsimp only at hSw); go_simp; try with_reducible rfl)
  try simp only [Act.put, List.setIfInBounds_toArray, List.set_cons_zero, List.set_cons_succ]
  refine det_read 12 (v := ?vx71) rfl (by kernel_rfl) rfl ?hyx71 ?restx71
  case hyx71 => (intro wS hSw; (try dsimp only at hSw); go_simp; try with_reducible rfl)
  try simp only [Act.put, List.setIfInBounds_toArray, List.set_cons_zero, List.set_cons_succ]
  refine det_done (by kernel_rfl) ?_
  intro W1 hW1
  go_wp2
  go_ret2
  exact ⟨rfl, below2 HW0.out hW1.2.2⟩
end Go.Proofs.Ytfnafoahcllakaa
