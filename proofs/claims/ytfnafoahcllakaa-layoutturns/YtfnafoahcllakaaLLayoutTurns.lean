/- For every number of columns, sectors of a column, row and data column the law LayoutTurns returns true: behind as many rows as there are columns all stands as it did, from row to row it is one column to the left. No condition. -/
import Derived.Test.YtfnafoahcllakaaLay07
import Derived.ProofKit
import Derived.OpenShut
import Derived.ShutString
namespace Go.Proofs.Ytfnafoahcllakaa.layoutTurns
open Go.ChangeShapes Go.WideShapes Go.ChangeAt Go.RowKit
open Go.ChangeMaps (open_string shut_string)

theorem turns {c k r p i : Int} (h : Lay.ok c k r) (p1 : 0 ≤ p) (p2 : p + c < r) (i1 : 0 ≤ i) (i2 : i < c - 2) :
    (Lay.parP c k r (p + c) = Lay.parP c k r p ∧ Lay.parQ c k r (p + c) = Lay.parQ c k r p ∧ Lay.colI c k r (p + c) i = Lay.colI c k r p i) ∧
    ((Lay.parP c k r (p + 1) + 1) % c = Lay.parP c k r p ∧ (Lay.parQ c k r (p + 1) + 1) % c = Lay.parQ c k r p ∧ (Lay.colI c k r (p + 1) i + 1) % c = Lay.colI c k r p i) ∧
    (0 ≤ Lay.parP c k r (p + 1) ∧ Lay.parP c k r (p + 1) < c) ∧ (0 ≤ Lay.parQ c k r (p + 1) ∧ Lay.parQ c k r (p + 1) < c) ∧ (0 ≤ Lay.colI c k r (p + 1) i ∧ Lay.colI c k r (p + 1) i < c) := by
  have hc := h.1
  have r0 : Lay.hasRow c k r p := ⟨h, p1, by omega⟩
  have r1 : Lay.hasRow c k r (p + 1) := ⟨h, by omega, by omega⟩
  have rc : Lay.hasRow c k r (p + c) := ⟨h, by omega, p2⟩
  have e : (p + c) % c = p % c := Int.add_emod_right p c
  rw [show Lay.parP c k r (p + c) = c - 1 - (p + c) % c from if_pos rc, show Lay.parQ c k r (p + c) = (c - 1 - (p + c) % c + 1) % c from if_pos rc, show Lay.colI c k r (p + c) i = ((c - 1 - (p + c) % c + 1) % c + 1 + i) % c from if_pos ⟨rc, i1, i2⟩,
    show Lay.parP c k r p = c - 1 - p % c from if_pos r0, show Lay.parQ c k r p = (c - 1 - p % c + 1) % c from if_pos r0, show Lay.colI c k r p i = ((c - 1 - p % c + 1) % c + 1 + i) % c from if_pos ⟨r0, i1, i2⟩,
    show Lay.parP c k r (p + 1) = c - 1 - (p + 1) % c from if_pos r1, show Lay.parQ c k r (p + 1) = (c - 1 - (p + 1) % c + 1) % c from if_pos r1, show Lay.colI c k r (p + 1) i = ((c - 1 - (p + 1) % c + 1) % c + 1 + i) % c from if_pos ⟨r1, i1, i2⟩, e]
  clear r0 r1 rc e h p2
  refine ⟨⟨rfl, rfl, rfl⟩, ?_⟩
  have hcc : c = 4 ∨ c = 5 ∨ c = 6 ∨ c = 7 ∨ c = 8 ∨ c = 9 ∨ c = 10 := by omega
  refine ⟨⟨?_, ?_, ?_⟩, ⟨?_, ?_⟩, ⟨?_, ?_⟩, ?_, ?_⟩ <;> (rcases hcc with rfl | rfl | rfl | rfl | rfl | rfl | rfl <;> omega)

set_option maxRecDepth 100000 in
set_option maxHeartbeats 4000000 in
theorem walk_int (a b x y : Int) (a1 : 0 ≤ a ∧ a ≤ 255) (b1 : 0 ≤ b ∧ b ≤ 255) (x1 : 0 ≤ x ∧ x ≤ 255) (y1 : 0 ≤ y ∧ y ≤ 255) (w : World) :
    Calls Try.prog 8 #[.int .u8 a, .int .u8 b, .int .u8 x, .int .u8 y] w fun e w' => e = .returned (.bool true) ∧ Below w.heap.size w w' := by
  have HMX : Hid (Try.prog.follows .mixedOrders = true) := by show _ = _; kernel_rfl
  have hG := fun W => good_any a b 255 a1 b1 (by omega) W
  have ho := Lay.good_ok a b 255 (by omega)
  obtain ⟨c, hc⟩ : ∃ c, 4 + a % 7 = c := ⟨_, rfl⟩
  obtain ⟨k, hk⟩ : ∃ k, 1 + b % 4 = k := ⟨_, rfl⟩
  obtain ⟨r, hr⟩ : ∃ r : Int, 1 + 255 = r := ⟨_, rfl⟩
  rw [hc, hk, hr] at hG ho
  obtain ⟨⟨c1, c2⟩, ⟨k1, k2⟩, r1, r2⟩ := id ho
  have hr6 : r = 256 := by omega
  obtain ⟨p, hp⟩ : ∃ p, x % (r - c) = p := ⟨_, rfl⟩
  obtain ⟨i, hi⟩ : ∃ i, y % (c - 2) = i := ⟨_, rfl⟩
  have ep : x.tmod (r - c) = p := by rw [Int.tmod_eq_emod_of_nonneg x1.1]; exact hp
  have ei : y.tmod (c - 2) = i := by rw [Int.tmod_eq_emod_of_nonneg y1.1]; exact hi
  have pp1 : 0 ≤ p := by rw [← hp]; exact Int.emod_nonneg x (by omega)
  have pp2 : p < r - c := by rw [← hp]; exact Int.emod_lt_of_pos x (by omega)
  have i1 : 0 ≤ i := by rw [← hi]; exact Int.emod_nonneg y (by omega)
  have i2 : i < c - 2 := by rw [← hi]; exact Int.emod_lt_of_pos y (by omega)
  obtain ⟨⟨f1, f2, f3⟩, ⟨g1, g2, g3⟩, ⟨h1, h2⟩, ⟨h3, h4⟩, h5, h6⟩ := turns (p := p) (i := i) ho pp1 (by omega) i1 i2
  have hP1 := fun W => Parity_any c k r p W
  have hP2 := fun W => Parity_any c k r (p + c) W
  have hP3 := fun W => Parity_any c k r (p + 1) W
  have hC1 := fun W => Column_any c k r p i W
  have hC2 := fun W => Column_any c k r (p + c) i W
  have hC3 := fun W => Column_any c k r (p + 1) i W
  rw [f1, f2] at hP2
  rw [f3] at hC2
  generalize Lay.parP c k r p = P at *
  generalize Lay.parQ c k r p = Q at *
  generalize Lay.colI c k r p i = C at *
  generalize Lay.parP c k r (p + 1) = P' at *
  generalize Lay.parQ c k r (p + 1) = Q' at *
  generalize Lay.colI c k r (p + 1) i = C' at *
  have g1 : (P' + 1).tmod c = P := by rw [Int.tmod_eq_emod_of_nonneg (by omega)]; exact g1
  have g2 : (Q' + 1).tmod c = Q := by rw [Int.tmod_eq_emod_of_nonneg (by omega)]; exact g2
  have g3 : (C' + 1).tmod c = C := by rw [Int.tmod_eq_emod_of_nonneg (by omega)]; exact g3
  have cz : ¬ c = 0 := by omega
  have rz : ¬ r - c = 0 := by omega
  have dz : ¬ c - 2 = 0 := by omega
  have w1 : IntKind.i64.wrap (P' + 1) = P' + 1 := wrap_id (by omega) (by omega)
  have w2 : IntKind.i64.wrap (Q' + 1) = Q' + 1 := wrap_id (by omega) (by omega)
  have w3 : IntKind.i64.wrap (C' + 1) = C' + 1 := wrap_id (by omega) (by omega)
  have w4 : IntKind.i64.wrap (p + c) = p + c := wrap_id (by omega) (by omega)
  have w5 : IntKind.i64.wrap (p + 1) = p + 1 := wrap_id (by omega) (by omega)
  obtain ⟨x0, x9⟩ := x1
  obtain ⟨y0, y9⟩ := y1
  clear hc hk hr hp hi ho f1 f2 f3 a1 b1 hr6
  unfold geoV at *
  go_enter Try.func8, Try.ntmps8
  go_wp2_with fail
  refine (hG _).mono ?_
  rintro e w1 ⟨rfl, b⟩
  have H0 : Hid _ := start_at b c k r 23
  clear b
  obtain ⟨p0, p1, p2⟩ := H0.out.1
  go_wp2_with fail
  refine (hP1 _).mono ?_
  rintro e w2 ⟨rfl, b⟩
  have H1 : Hid (Shp w w2 w1.heap.size c k r) := Shp.kept H0.out b
  clear b p0 p1 p2 H0
  obtain ⟨p0, p1, p2⟩ := H1.out.1
  go_wp2_with fail
  refine (hP2 _).mono ?_
  rintro e w3 ⟨rfl, b⟩
  have H2 : Hid (Shp w w3 w1.heap.size c k r) := Shp.kept H1.out b
  clear b p0 p1 p2 H1
  obtain ⟨p0, p1, p2⟩ := H2.out.1
  go_wp2_with fail
  refine (hP3 _).mono ?_
  rintro e w4 ⟨rfl, b⟩
  have H3 : Hid (Shp w w4 w1.heap.size c k r) := Shp.kept H2.out b
  clear b p0 p1 p2 H2
  obtain ⟨p0, p1, p2⟩ := H3.out.1
  go_wp2_with fail
  refine region_det (fun W => (W.cell? ⟨w1.heap.size, 0, none⟩ = some (.int .i64 c) ∧ W.cell? ⟨w1.heap.size, 1, none⟩ = some (.int .i64 k) ∧ W.cell? ⟨w1.heap.size, 2, none⟩ = some (.int .i64 r)) ∧ Below w4.heap.size w4 W) HMX.out (by kernel_rfl) ⟨H3.out.1, (Below.refl _ _).drew⟩ ?_
  clear p0 p1 p2
  refine det_read 0 (v := ?vx1) rfl (by kernel_rfl) rfl ?hyx1 ?restx1
  case hyx1 => (intro wS hSw; (try dsimp only at hSw); go_simp; try with_reducible rfl)
  try simp only [Act.put, List.setIfInBounds_toArray, List.set_cons_zero, List.set_cons_succ]
  refine det_read 1 (v := ?vx2) rfl (by kernel_rfl) rfl ?hyx2 ?restx2
  case hyx2 => (intro wS hSw; (try dsimp only at hSw); go_simp; try with_reducible rfl)
  try simp only [Act.put, List.setIfInBounds_toArray, List.set_cons_zero, List.set_cons_succ]
  refine det_read 2 (v := ?vx3) rfl (by kernel_rfl) rfl ?hyx3 ?restx3
  case hyx3 => (intro wS hSw; (try dsimp only at hSw); go_simp; try with_reducible rfl)
  try simp only [Act.put, List.setIfInBounds_toArray, List.set_cons_zero, List.set_cons_succ]
  refine det_read 3 (v := ?vx4) rfl (by kernel_rfl) rfl ?hyx4 ?restx4
  case hyx4 => (intro wS hSw; (try dsimp only at hSw); go_simp; try with_reducible rfl)
  try simp only [Act.put, List.setIfInBounds_toArray, List.set_cons_zero, List.set_cons_succ]
  refine det_read 4 (v := ?vx5) rfl (by kernel_rfl) rfl ?hyx5 ?restx5
  case hyx5 => (intro wS hSw; (try dsimp only at hSw); go_simp; try with_reducible rfl)
  try simp only [Act.put, List.setIfInBounds_toArray, List.set_cons_zero, List.set_cons_succ]
  refine det_read 5 (v := ?vx6) rfl (by kernel_rfl) rfl ?hyx6 ?restx6
  case hyx6 => (intro wS hSw; (try dsimp only at hSw); go_simp; try with_reducible rfl)
  try simp only [Act.put, List.setIfInBounds_toArray, List.set_cons_zero, List.set_cons_succ]
  refine det_read 6 (v := ?vx7) rfl (by kernel_rfl) rfl ?hyx7 ?restx7
  case hyx7 => (intro wS hSw; (try dsimp only at hSw); go_simp; try with_reducible rfl)
  try simp only [Act.put, List.setIfInBounds_toArray, List.set_cons_zero, List.set_cons_succ]
  refine det_read 7 (v := ?vx8) rfl (by kernel_rfl) rfl ?hyx8 ?restx8
  case hyx8 => (intro wS hSw; (try dsimp only at hSw); go_simp; try with_reducible rfl)
  try simp only [Act.put, List.setIfInBounds_toArray, List.set_cons_zero, List.set_cons_succ]
  refine det_read 8 (v := ?vx9) rfl (by kernel_rfl) rfl ?hyx9 ?restx9
  case hyx9 => (intro wS hSw; (try dsimp only at hSw); go_simp; try with_reducible rfl)
  try simp only [Act.put, List.setIfInBounds_toArray, List.set_cons_zero, List.set_cons_succ]
  refine det_read 9 (v := ?vx10) rfl (by kernel_rfl) rfl ?hyx10 ?restx10
  case hyx10 => (intro wS hSw; (try dsimp only at hSw); go_simp; try with_reducible rfl)
  try simp only [Act.put, List.setIfInBounds_toArray, List.set_cons_zero, List.set_cons_succ]
  refine det_read 10 (v := ?vx11) rfl (by kernel_rfl) rfl ?hyx11 ?restx11
  case hyx11 => (intro wS hSw; (try dsimp only at hSw); go_simp; try with_reducible rfl)
  try simp only [Act.put, List.setIfInBounds_toArray, List.set_cons_zero, List.set_cons_succ]
  refine det_read 11 (v := ?vx12) rfl (by kernel_rfl) rfl ?hyx12 ?restx12
  case hyx12 => (intro wS hSw; (try dsimp only at hSw); go_simp; try with_reducible rfl)
  try simp only [Act.put, List.setIfInBounds_toArray, List.set_cons_zero, List.set_cons_succ]
  refine det_read 12 (v := ?vx13) rfl (by kernel_rfl) rfl ?hyx13 ?restx13
  case hyx13 => (intro wS hSw; (try dsimp only at hSw); go_simp; try with_reducible rfl)
  try simp only [Act.put, List.setIfInBounds_toArray, List.set_cons_zero, List.set_cons_succ]
  refine det_read 13 (v := ?vx14) rfl (by kernel_rfl) rfl ?hyx14 ?restx14
  case hyx14 => (intro wS hSw; (try dsimp only at hSw); go_simp; try with_reducible rfl)
  try simp only [Act.put, List.setIfInBounds_toArray, List.set_cons_zero, List.set_cons_succ]
  refine det_read 14 (v := ?vx15) rfl (by kernel_rfl) rfl ?hyx15 ?restx15
  case hyx15 => (intro wS hSw; (try dsimp only at hSw); go_simp; try with_reducible rfl)
  try simp only [Act.put, List.setIfInBounds_toArray, List.set_cons_zero, List.set_cons_succ]
  refine det_read 15 (v := ?vx16) rfl (by kernel_rfl) rfl ?hyx16 ?restx16
  case hyx16 => (intro wS hSw; (try dsimp only at hSw); go_simp; try with_reducible rfl)
  try simp only [Act.put, List.setIfInBounds_toArray, List.set_cons_zero, List.set_cons_succ]
  refine det_read 16 (v := ?vx17) rfl (by kernel_rfl) rfl ?hyx17 ?restx17
  case hyx17 => (intro wS hSw; (try dsimp only at hSw); go_simp; try with_reducible rfl)
  try simp only [Act.put, List.setIfInBounds_toArray, List.set_cons_zero, List.set_cons_succ]
  refine det_read 17 (v := ?vx18) rfl (by kernel_rfl) rfl ?hyx18 ?restx18
  case hyx18 => (intro wS hSw; (try dsimp only at hSw); go_simp; try with_reducible rfl)
  try simp only [Act.put, List.setIfInBounds_toArray, List.set_cons_zero, List.set_cons_succ]
  refine det_read 18 (v := ?vx19) rfl (by kernel_rfl) rfl ?hyx19 ?restx19
  case hyx19 => (intro wS hSw; (try dsimp only at hSw); go_simp; try with_reducible rfl)
  try simp only [Act.put, List.setIfInBounds_toArray, List.set_cons_zero, List.set_cons_succ]
  refine det_read 19 (v := ?vx20) rfl (by kernel_rfl) rfl ?hyx20 ?restx20
  case hyx20 => (intro wS hSw; (try dsimp only at hSw); go_simp; try with_reducible rfl)
  try simp only [Act.put, List.setIfInBounds_toArray, List.set_cons_zero, List.set_cons_succ]
  refine det_read 20 (v := ?vx21) rfl (by kernel_rfl) rfl ?hyx21 ?restx21
  case hyx21 => (intro wS hSw; (try dsimp only at hSw); go_simp; try with_reducible rfl)
  try simp only [Act.put, List.setIfInBounds_toArray, List.set_cons_zero, List.set_cons_succ]
  refine det_read 21 (v := ?vx22) rfl (by kernel_rfl) rfl ?hyx22 ?restx22
  case hyx22 => (intro wS hSw; (try dsimp only at hSw); go_simp; try with_reducible rfl)
  try simp only [Act.put, List.setIfInBounds_toArray, List.set_cons_zero, List.set_cons_succ]
  refine det_read 22 (v := ?vx23) rfl (by kernel_rfl) rfl ?hyx23 ?restx23
  case hyx23 => (intro wS hSw; (try dsimp only at hSw); go_simp; try with_reducible rfl)
  try simp only [Act.put, List.setIfInBounds_toArray, List.set_cons_zero, List.set_cons_succ]
  refine det_read 23 (v := ?vx24) rfl (by kernel_rfl) rfl ?hyx24 ?restx24
  case hyx24 => (intro wS hSw; (try dsimp only at hSw); go_simp; try with_reducible rfl)
  try simp only [Act.put, List.setIfInBounds_toArray, List.set_cons_zero, List.set_cons_succ]
  refine det_read 24 (v := ?vx25) rfl (by kernel_rfl) rfl ?hyx25 ?restx25
  case hyx25 => (intro wS hSw; (try dsimp only at hSw); go_simp; try with_reducible rfl)
  try simp only [Act.put, List.setIfInBounds_toArray, List.set_cons_zero, List.set_cons_succ]
  refine det_read 25 (v := ?vx26) rfl (by kernel_rfl) rfl ?hyx26 ?restx26
  case hyx26 => (intro wS hSw; (try dsimp only at hSw); go_simp; try with_reducible rfl)
  try simp only [Act.put, List.setIfInBounds_toArray, List.set_cons_zero, List.set_cons_succ]
  refine det_read 26 (v := ?vx27) rfl (by kernel_rfl) rfl ?hyx27 ?restx27
  case hyx27 => (intro wS hSw; (try dsimp only at hSw); go_simp; try with_reducible rfl)
  try simp only [Act.put, List.setIfInBounds_toArray, List.set_cons_zero, List.set_cons_succ]
  refine det_read 27 (v := ?vx28) rfl (by kernel_rfl) rfl ?hyx28 ?restx28
  case hyx28 => (intro wS hSw; (try dsimp only at hSw); go_simp; try with_reducible rfl)
  try simp only [Act.put, List.setIfInBounds_toArray, List.set_cons_zero, List.set_cons_succ]
  refine det_read 28 (v := ?vx29) rfl (by kernel_rfl) rfl ?hyx29 ?restx29
  case hyx29 => (intro wS hSw; (try dsimp only at hSw); go_simp; try with_reducible rfl)
  try simp only [Act.put, List.setIfInBounds_toArray, List.set_cons_zero, List.set_cons_succ]
  refine det_read 29 (v := ?vx30) rfl (by kernel_rfl) rfl ?hyx30 ?restx30
  case hyx30 => (intro wS hSw; (try dsimp only at hSw); go_simp; try with_reducible rfl)
  try simp only [Act.put, List.setIfInBounds_toArray, List.set_cons_zero, List.set_cons_succ]
  refine det_call 30 rfl (by kernel_rfl) rfl ?hyx56 (fun W h => det_shape (Nat.le_refl _) (hC1 W) h) ?restx56
  case hyx56 => (intro wS hSw; go_simp; try with_reducible rfl)
  try simp only [Act.put, List.setIfInBounds_toArray, List.set_cons_zero, List.set_cons_succ]
  refine det_read 31 (v := ?vx31) rfl (by kernel_rfl) rfl ?hyx31 ?restx31
  case hyx31 => (intro wS hSw; (try dsimp only at hSw); go_simp; try with_reducible rfl)
  try simp only [Act.put, List.setIfInBounds_toArray, List.set_cons_zero, List.set_cons_succ]
  refine det_read 32 (v := ?vx32) rfl (by kernel_rfl) rfl ?hyx32 ?restx32
  case hyx32 => (intro wS hSw; (try dsimp only at hSw); go_simp; try with_reducible rfl)
  try simp only [Act.put, List.setIfInBounds_toArray, List.set_cons_zero, List.set_cons_succ]
  refine det_read 33 (v := ?vx33) rfl (by kernel_rfl) rfl ?hyx33 ?restx33
  case hyx33 => (intro wS hSw; (try dsimp only at hSw); go_simp; try with_reducible rfl)
  try simp only [Act.put, List.setIfInBounds_toArray, List.set_cons_zero, List.set_cons_succ]
  refine det_read 34 (v := ?vx34) rfl (by kernel_rfl) rfl ?hyx34 ?restx34
  case hyx34 => (intro wS hSw; (try dsimp only at hSw); go_simp; try with_reducible rfl)
  try simp only [Act.put, List.setIfInBounds_toArray, List.set_cons_zero, List.set_cons_succ]
  refine det_read 35 (v := ?vx35) rfl (by kernel_rfl) rfl ?hyx35 ?restx35
  case hyx35 => (intro wS hSw; (try dsimp only at hSw); go_simp; try with_reducible rfl)
  try simp only [Act.put, List.setIfInBounds_toArray, List.set_cons_zero, List.set_cons_succ]
  refine det_read 36 (v := ?vx36) rfl (by kernel_rfl) rfl ?hyx36 ?restx36
  case hyx36 => (intro wS hSw; (try dsimp only at hSw); go_simp; try with_reducible rfl)
  try simp only [Act.put, List.setIfInBounds_toArray, List.set_cons_zero, List.set_cons_succ]
  refine det_call 37 rfl (by kernel_rfl) rfl ?hyx57 (fun W h => det_shape (Nat.le_refl _) (hC2 W) h) ?restx57
  case hyx57 => (intro wS hSw; go_simp; try with_reducible rfl)
  try simp only [Act.put, List.setIfInBounds_toArray, List.set_cons_zero, List.set_cons_succ]
  refine det_read 38 (v := ?vx37) rfl (by kernel_rfl) rfl ?hyx37 ?restx37
  case hyx37 => (intro wS hSw; (try dsimp only at hSw); go_simp; try with_reducible rfl)
  try simp only [Act.put, List.setIfInBounds_toArray, List.set_cons_zero, List.set_cons_succ]
  refine det_read 39 (v := ?vx38) rfl (by kernel_rfl) rfl ?hyx38 ?restx38
  case hyx38 => (intro wS hSw; (try dsimp only at hSw); go_simp; try with_reducible rfl)
  try simp only [Act.put, List.setIfInBounds_toArray, List.set_cons_zero, List.set_cons_succ]
  refine det_read 40 (v := ?vx39) rfl (by kernel_rfl) rfl ?hyx39 ?restx39
  case hyx39 => (intro wS hSw; (try dsimp only at hSw); go_simp; try with_reducible rfl)
  try simp only [Act.put, List.setIfInBounds_toArray, List.set_cons_zero, List.set_cons_succ]
  refine det_read 41 (v := ?vx40) rfl (by kernel_rfl) rfl ?hyx40 ?restx40
  case hyx40 => (intro wS hSw; (try dsimp only at hSw); go_simp; try with_reducible rfl)
  try simp only [Act.put, List.setIfInBounds_toArray, List.set_cons_zero, List.set_cons_succ]
  refine det_read 42 (v := ?vx41) rfl (by kernel_rfl) rfl ?hyx41 ?restx41
  case hyx41 => (intro wS hSw; (try dsimp only at hSw); go_simp; try with_reducible rfl)
  try simp only [Act.put, List.setIfInBounds_toArray, List.set_cons_zero, List.set_cons_succ]
  refine det_read 43 (v := ?vx42) rfl (by kernel_rfl) rfl ?hyx42 ?restx42
  case hyx42 => (intro wS hSw; (try dsimp only at hSw); go_simp; try with_reducible rfl)
  try simp only [Act.put, List.setIfInBounds_toArray, List.set_cons_zero, List.set_cons_succ]
  refine det_read 44 (v := ?vx43) rfl (by kernel_rfl) rfl ?hyx43 ?restx43
  case hyx43 => (intro wS hSw; (try dsimp only at hSw); go_simp; try with_reducible rfl)
  try simp only [Act.put, List.setIfInBounds_toArray, List.set_cons_zero, List.set_cons_succ]
  refine det_call 45 rfl (by kernel_rfl) rfl ?hyx58 (fun W h => det_shape (Nat.le_refl _) (hC3 W) h) ?restx58
  case hyx58 => (intro wS hSw; go_simp; try with_reducible rfl)
  try simp only [Act.put, List.setIfInBounds_toArray, List.set_cons_zero, List.set_cons_succ]
  refine det_read 46 (v := ?vx44) rfl (by kernel_rfl) rfl ?hyx44 ?restx44
  case hyx44 => (intro wS hSw; (try dsimp only at hSw); go_simp; try with_reducible rfl)
  try simp only [Act.put, List.setIfInBounds_toArray, List.set_cons_zero, List.set_cons_succ]
  refine det_read 47 (v := ?vx45) rfl (by kernel_rfl) rfl ?hyx45 ?restx45
  case hyx45 => (intro wS hSw; (try dsimp only at hSw); go_simp; try with_reducible rfl)
  try simp only [Act.put, List.setIfInBounds_toArray, List.set_cons_zero, List.set_cons_succ]
  refine det_read 48 (v := ?vx46) rfl (by kernel_rfl) rfl ?hyx46 ?restx46
  case hyx46 => (intro wS hSw; (try dsimp only at hSw); go_simp; try with_reducible rfl)
  try simp only [Act.put, List.setIfInBounds_toArray, List.set_cons_zero, List.set_cons_succ]
  refine det_read 49 (v := ?vx47) rfl (by kernel_rfl) rfl ?hyx47 ?restx47
  case hyx47 => (intro wS hSw; (try dsimp only at hSw); go_simp; try with_reducible rfl)
  try simp only [Act.put, List.setIfInBounds_toArray, List.set_cons_zero, List.set_cons_succ]
  refine det_read 50 (v := ?vx48) rfl (by kernel_rfl) rfl ?hyx48 ?restx48
  case hyx48 => (intro wS hSw; (try dsimp only at hSw); go_simp; try with_reducible rfl)
  try simp only [Act.put, List.setIfInBounds_toArray, List.set_cons_zero, List.set_cons_succ]
  refine det_read 51 (v := ?vx49) rfl (by kernel_rfl) rfl ?hyx49 ?restx49
  case hyx49 => (intro wS hSw; (try dsimp only at hSw); go_simp; try with_reducible rfl)
  try simp only [Act.put, List.setIfInBounds_toArray, List.set_cons_zero, List.set_cons_succ]
  refine det_read 52 (v := ?vx50) rfl (by kernel_rfl) rfl ?hyx50 ?restx50
  case hyx50 => (intro wS hSw; (try dsimp only at hSw); go_simp; try with_reducible rfl)
  try simp only [Act.put, List.setIfInBounds_toArray, List.set_cons_zero, List.set_cons_succ]
  refine det_call 53 rfl (by kernel_rfl) rfl ?hyx59 (fun W h => det_shape (Nat.le_refl _) (hC1 W) h) ?restx59
  case hyx59 => (intro wS hSw; go_simp; try with_reducible rfl)
  try simp only [Act.put, List.setIfInBounds_toArray, List.set_cons_zero, List.set_cons_succ]
  refine det_read 54 (v := ?vx51) rfl (by kernel_rfl) rfl ?hyx51 ?restx51
  case hyx51 => (intro wS hSw; (try dsimp only at hSw); go_simp; try with_reducible rfl)
  try simp only [Act.put, List.setIfInBounds_toArray, List.set_cons_zero, List.set_cons_succ]
  refine det_read 55 (v := ?vx52) rfl (by kernel_rfl) rfl ?hyx52 ?restx52
  case hyx52 => (intro wS hSw; (try dsimp only at hSw); go_simp; try with_reducible rfl)
  try simp only [Act.put, List.setIfInBounds_toArray, List.set_cons_zero, List.set_cons_succ]
  refine det_read 56 (v := ?vx53) rfl (by kernel_rfl) rfl ?hyx53 ?restx53
  case hyx53 => (intro wS hSw; (try dsimp only at hSw); go_simp; try with_reducible rfl)
  try simp only [Act.put, List.setIfInBounds_toArray, List.set_cons_zero, List.set_cons_succ]
  refine det_call 57 rfl (by kernel_rfl) rfl ?hyx60 (fun W h => det_shape (Nat.le_refl _) (shown7_any W) h) ?restx60
  case hyx60 => (intro wS hSw; go_simp; try with_reducible rfl)
  try simp only [Act.put, List.setIfInBounds_toArray, List.set_cons_zero, List.set_cons_succ]
  refine det_read 58 (v := ?vx54) rfl (by kernel_rfl) rfl ?hyx54 ?restx54
  case hyx54 => (intro wS hSw; (try dsimp only at hSw); go_simp; try with_reducible rfl)
  try simp only [Act.put, List.setIfInBounds_toArray, List.set_cons_zero, List.set_cons_succ]
  refine det_read 59 (v := ?vx55) rfl (by kernel_rfl) rfl ?hyx55 ?restx55
  case hyx55 => (intro wS hSw; (try dsimp only at hSw); go_simp; try with_reducible rfl)
  try simp only [Act.put, List.setIfInBounds_toArray, List.set_cons_zero, List.set_cons_succ]
  refine det_done (by kernel_rfl) ?_
  intro W hW
  go_wp2
  go_ret
  exact ⟨rfl, below2 H3.out.2 hW.2⟩
theorem walk (a : Int) (wa : (Lit.int .u8 a).wf = true) (b : Int) (wb : (Lit.int .u8 b).wf = true) (x : Int) (wx : (Lit.int .u8 x).wf = true) (y : Int) (wy : (Lit.int .u8 y).wf = true) (w : World) :
    Calls Try.prog 8 #[.int .u8 a, .int .u8 b, .int .u8 x, .int .u8 y] w fun e w' => e = .returned (.bool true) ∧ Below w.heap.size w w' :=
  walk_int a b x y (bounds_u8 wa) (bounds_u8 wb) (bounds_u8 wx) (bounds_u8 wy) w

theorem own : ownKnob Try.prog.godebug = none := by kernel_rfl
set_option linter.unusedVariables false in
set_option maxRecDepth 100000 in
theorem lifted (os : Os) (started : os.Started) (H : Type) (enc : TypeId × Value → H) :
    ReturnsInHanded {} Try.checked os 8 .any (Rows.layoutTurnsSpec.pre6 enc Try.prog Try.f8 Rows.layoutTurnsRow.domain false) (Rows.layoutTurnsSpec.post enc Try.prog Try.f8 false true false false) := by
  refine returnsInHanded_of_change (C := Try.checked) own started (by kernel_rfl) Try.func8
    (ChangeSpec.witness6 (enc := enc) (C := Try.checked) false ⟨#[], #[.int .u8 0, .int .u8 0, .int .u8 0, .int .u8 0], []⟩ 8 (by kernel_rfl) (by kernel_rfl) (by kernel_rfl) (by kernel_rfl)) ?_
  intro W base args ds gs before hval0 hW hcnd _
  have hval : ∀ (j : Nat) t v, Try.f8.params[j]? = some t → args[j]? = some v → Value.okWide Try.prog W .any base t v := hval0
  have hW' := hW
  obtain ⟨p, q, hA0, hV, rfl, hfz, hnd⟩ := hW
  have hA : DataW.TrodAll enc Try.prog W 0 (fun _ => true) true Try.f8.params.toList args.toList ds p := hA0
  rw [Try.params8] at hA hval
  obtain ⟨v0, vs0, d0, ds0, p0, q0, hargs, rfl, rfl, h0, r0⟩ := trodAll_cons hA
  obtain ⟨v1, vs1, d1, ds1, p1, q1, rfl, rfl, rfl, h1, r1⟩ := trodAll_cons r0
  obtain ⟨v2, vs2, d2, ds2, p2, q2, rfl, rfl, rfl, h2, r2⟩ := trodAll_cons r1
  obtain ⟨v3, vs3, d3, ds3, p3, q3, rfl, rfl, rfl, h3, r3⟩ := trodAll_cons r2
  obtain ⟨rfl, rfl, rfl⟩ := trodAll_nil r3
  obtain rfl : args = #[v0, v1, v2, v3] := by cases args; simp_all
  obtain ⟨rfl, rfl⟩ := trodVars_none hV
  obtain ⟨a0, rfl, rfl, rfl, w0⟩ := open_int Try.underlying5 (hval 0 5 v0 rfl rfl) h0
  obtain ⟨a1, rfl, rfl, rfl, w1⟩ := open_int Try.underlying5 (hval 1 5 v1 rfl rfl) h1
  obtain ⟨a2, rfl, rfl, rfl, w2⟩ := open_int Try.underlying5 (hval 2 5 v2 rfl rfl) h2
  obtain ⟨a3, rfl, rfl, rfl, w3⟩ := open_int Try.underlying5 (hval 3 5 v3 rfl rfl) h3
  clear hA0 hval0
  simp only [List.append_nil] at hW'
  refine (walk a0 w0 a1 w1 a2 w2 a3 w3 W).mono fun e W' ⟨he, hg⟩ => ?_
  subst he
  exact ⟨_, rfl, _, _, _, [], [], [], hW', trodAll_mk1 (shut_bool Try.underlying4 _), (trodAll_cons_mk (shut_int Try.underlying5 w0) (trodAll_cons_mk (shut_int Try.underlying5 w1) (trodAll_cons_mk (shut_int Try.underlying5 w2) (trodAll_cons_mk (shut_int Try.underlying5 w3) trodAll_mk0)))), rfl, hg.frame _, fun h => by cases h⟩
/-- For every input the law returns true, and each argument reads as it did. -/
theorem proved : Rows.LayoutTurnsSaid :=
  OpenClaim.holds_of_wide 8 Try.f8 rfl rfl rfl rfl rfl rfl rfl ⟨rfl, rfl, rfl, rfl, rfl⟩ rfl rfl rfl rfl rfl (by kernel_rfl) Try.func8 (by kernel_rfl)
    (of_decide_eq_true (by kernel_rfl)) (by unfold Func.isWrapper; first | (rw [if_pos (by decide +kernel)]; kernel_rfl) | (rw [if_neg (by decide +kernel)]; exact ⟨rfl, rfl⟩))
    (fun os started H enc _ => lifted os started H enc)
end Go.Proofs.Ytfnafoahcllakaa.layoutTurns
