/- For every two bytes and every number of rows, row, place and more sectors the law LayoutNeeds returns true: what a drive needs is enough, each sector lies in it at its own place. No condition. -/
import Derived.Test.YtfnafoahcllakaaLay07
import Derived.ProofKit
import Derived.OpenShut
import Derived.ShutString
namespace Go.Proofs.Ytfnafoahcllakaa.layoutNeeds
open Go.ChangeShapes Go.WideShapes Go.ChangeAt Go.RowKit
open Go.ChangeMaps (open_string shut_string)

theorem needs {c k r p o m : Int} (h : Lay.ok c k r) (p1 : 0 ≤ p) (p2 : p < r) (o1 : 0 ≤ o) (o2 : o < k) (m1 : 0 ≤ m) :
    let n := 4 + r * k
    let s := 4 + p * k + o
    (4 ≤ s ∧ s < n) ∧ (s - 4) / k = p ∧ (s - 4) % k = o ∧ (r ≤ Lay.rowsI (n + m) k ∧ Lay.rowsI (n + m) k ≤ 256) ∧ Lay.rowsI n k = r ∧ Lay.rowsI (n - 1) k = r - 1 := by
  obtain ⟨_, ⟨k1, k2⟩, r1, r2⟩ := h
  have hk : k = 1 ∨ k = 2 ∨ k = 3 ∨ k = 4 := by omega
  intro n s
  unfold Lay.rowsI
  refine ⟨?_, ?_, ?_, ?_, ?_, ?_⟩
  · rcases hk with rfl | rfl | rfl | rfl <;> omega
  · rcases hk with rfl | rfl | rfl | rfl <;> omega
  · rcases hk with rfl | rfl | rfl | rfl <;> omega
  · rcases hk with rfl | rfl | rfl | rfl <;> (rw [if_pos (by omega)]; split <;> omega)
  · rcases hk with rfl | rfl | rfl | rfl <;> (rw [if_pos (by omega)]; split <;> omega)
  · rcases hk with rfl | rfl | rfl | rfl <;> (rw [if_pos (by omega)]; split <;> omega)

set_option maxRecDepth 100000 in
set_option maxHeartbeats 4000000 in
theorem walk_int (a b d x y m : Int) (a1 : 0 ≤ a ∧ a ≤ 255) (b1 : 0 ≤ b ∧ b ≤ 255) (d1 : 0 ≤ d ∧ d ≤ 255) (x1 : 0 ≤ x ∧ x ≤ 255) (y1 : 0 ≤ y ∧ y ≤ 255) (m1 : 0 ≤ m ∧ m ≤ 65535) (w : World) :
    Calls Try.prog 6 #[.int .u8 a, .int .u8 b, .int .u8 d, .int .u8 x, .int .u8 y, .int .u16 m] w fun e w' => e = .returned (.bool true) ∧ Below w.heap.size w w' := by
  have HMX : Hid (Try.prog.follows .mixedOrders = true) := by show _ = _; kernel_rfl
  have hG := fun W => good_any a b d a1 b1 d1 W
  have ho := Lay.good_ok a b d d1
  obtain ⟨c, hc⟩ : ∃ c, 4 + a % 7 = c := ⟨_, rfl⟩
  obtain ⟨k, hk⟩ : ∃ k, 1 + b % 4 = k := ⟨_, rfl⟩
  obtain ⟨r, hr⟩ : ∃ r, 1 + d = r := ⟨_, rfl⟩
  rw [hc, hk, hr] at hG ho
  obtain ⟨p, hp⟩ : ∃ p, x % r = p := ⟨_, rfl⟩
  obtain ⟨o, hq⟩ : ∃ o, y % k = o := ⟨_, rfl⟩
  obtain ⟨_, ⟨k1, k2⟩, r1, r2⟩ := id ho
  have ep : x.tmod r = p := by rw [Int.tmod_eq_emod_of_nonneg x1.1]; exact hp
  have eo : y.tmod k = o := by rw [Int.tmod_eq_emod_of_nonneg y1.1]; exact hq
  have p1 : 0 ≤ p := by rw [← hp]; exact Int.emod_nonneg x (by omega)
  have p2 : p < r := by rw [← hp]; exact Int.emod_lt_of_pos x (by omega)
  have o1 : 0 ≤ o := by rw [← hq]; exact Int.emod_nonneg y (by omega)
  have o2 : o < k := by rw [← hq]; exact Int.emod_lt_of_pos y (by omega)
  have hf := needs ho p1 p2 o1 o2 m1.1
  have hN := fun W => Need_any c k r W
  have hS := fun W => Sector_any c k r p o W
  rw [show Lay.needI c k r = 4 + r * k from if_pos ho] at hN
  rw [show Lay.sectI c k r p o = 4 + p * k + o from if_pos ⟨⟨ho, p1, p2⟩, o1, o2⟩] at hS
  have n1 : 4 + r * k ≤ 1028 := by
    have : r * k ≤ 256 * 4 := Int.mul_le_mul (by omega) (by omega) (by omega) (by omega)
    omega
  dsimp only at hf
  obtain ⟨n, hn⟩ : ∃ n, 4 + r * k = n := ⟨_, rfl⟩
  obtain ⟨s, hs⟩ : ∃ s, 4 + p * k + o = s := ⟨_, rfl⟩
  rw [hn] at hf hN n1
  rw [hs] at hf hS
  obtain ⟨⟨s1, s2⟩, e1, e2, ⟨f1, f2⟩, f3, f4⟩ := hf
  have hR := fun W => Rows_any (n + m) k (by omega) (by omega) W
  have hR2 := fun W => Rows_any n k (by omega) (by omega) W
  have hR3 := fun W => Rows_any (n - 1) k (by omega) (by omega) W
  rw [f3] at hR2
  rw [f4] at hR3
  obtain ⟨q, hqq⟩ : ∃ q, Lay.rowsI (n + m) k = q := ⟨_, rfl⟩
  rw [hqq] at hR f1 f2
  have e1 : (s - 4).tdiv k = p := by rw [Int.tdiv_eq_ediv_of_nonneg (by omega)]; exact e1
  have e2 : (s - 4).tmod k = o := by rw [Int.tmod_eq_emod_of_nonneg (by omega)]; exact e2
  have kz : ¬ k = 0 := by omega
  have rz : ¬ r = 0 := by omega
  have ws : IntKind.i64.wrap (s - 4) = s - 4 := wrap_id (by omega) (by omega)
  have wp : IntKind.i64.wrap p = p := wrap_id (by omega) (by omega)
  have wn : IntKind.i64.wrap (n - 1) = n - 1 := wrap_id (by omega) (by omega)
  have wr : IntKind.i64.wrap (r - 1) = r - 1 := wrap_id (by omega) (by omega)
  obtain ⟨x0, x9⟩ := x1
  obtain ⟨y0, y9⟩ := y1
  obtain ⟨m0, m9⟩ := m1
  clear hc hk hr hp hq hn hs f3 f4 hqq ho a1 b1 d1
  unfold geoV at *
  go_enter Try.func6, Try.ntmps6
  go_wp2_with fail
  refine (hG _).mono ?_
  rintro e w1 ⟨rfl, b⟩
  have H0 : Hid _ := start_at b c k r 23
  clear b
  obtain ⟨p0, p1, p2⟩ := H0.out.1
  go_wp2_with fail
  refine (hN _).mono ?_
  rintro e w2 ⟨rfl, b⟩
  have H1 : Hid (Shp w w2 w1.heap.size c k r) := Shp.kept H0.out b
  clear b p0 p1 p2 H0
  obtain ⟨p0, p1, p2⟩ := H1.out.1
  go_wp2_with fail
  refine (hS _).mono ?_
  rintro e w3 ⟨rfl, b⟩
  have H2 : Hid (Shp w w3 w1.heap.size c k r) := Shp.kept H1.out b
  clear b p0 p1 p2 H1
  obtain ⟨p0, p1, p2⟩ := H2.out.1
  go_wp2_with fail
  refine (hR _).mono ?_
  rintro e w4 ⟨rfl, b⟩
  have H3 : Hid (Shp w w4 w1.heap.size c k r) := Shp.kept H2.out b
  clear b p0 p1 p2 H2
  obtain ⟨p0, p1, p2⟩ := H3.out.1
  go_wp2_with fail
  refine region_det (fun W => (W.cell? ⟨w1.heap.size, 0, none⟩ = some (.int .i64 c) ∧ W.cell? ⟨w1.heap.size, 1, none⟩ = some (.int .i64 k) ∧ W.cell? ⟨w1.heap.size, 2, none⟩ = some (.int .i64 r)) ∧ Below w4.heap.size w4 W) HMX.out (by kernel_rfl) ⟨H3.out.1, (Below.refl _ _).drew⟩ ?_
  clear hG hN hS hR
  refine det_read 0 (v := ?vx1) rfl (by kernel_rfl) rfl ?hyx1 ?restx1
  case hyx1 => (intro wS hSw; (try dsimp only at hSw); go_simp; try with_reducible rfl)
  try simp only [Act.put, List.setIfInBounds_toArray, List.set_cons_zero, List.set_cons_succ]
  refine det_read 1 (v := ?vx2) rfl (by kernel_rfl) rfl ?hyx2 ?restx2
  case hyx2 => (intro wS hSw; (try dsimp only at hSw); go_simp; try with_reducible rfl)
  try simp only [Act.put, List.setIfInBounds_toArray, List.set_cons_zero, List.set_cons_succ]
  refine det_read 2 (v := ?vx3) rfl (by kernel_rfl) rfl ?hyx3 ?restx3
  case hyx3 => (intro wS hSw; (try dsimp only at hSw); go_simp; try with_reducible rfl)
  try simp only [Act.put, List.setIfInBounds_toArray, List.set_cons_zero, List.set_cons_succ]
  refine det_read 3 (v := ?vx4) rfl (by kernel_rfl) rfl ?hyx4 ?restx4
  case hyx4 => (intro wS hSw; (try dsimp only at hSw); go_simp; try with_reducible rfl)
  try simp only [Act.put, List.setIfInBounds_toArray, List.set_cons_zero, List.set_cons_succ]
  refine det_read 4 (v := ?vx5) rfl (by kernel_rfl) rfl ?hyx5 ?restx5
  case hyx5 => (intro wS hSw; (try dsimp only at hSw); go_simp; try with_reducible rfl)
  try simp only [Act.put, List.setIfInBounds_toArray, List.set_cons_zero, List.set_cons_succ]
  refine det_read 5 (v := ?vx6) rfl (by kernel_rfl) rfl ?hyx6 ?restx6
  case hyx6 => (intro wS hSw; (try dsimp only at hSw); go_simp; try with_reducible rfl)
  try simp only [Act.put, List.setIfInBounds_toArray, List.set_cons_zero, List.set_cons_succ]
  refine det_read 6 (v := ?vx7) rfl (by kernel_rfl) rfl ?hyx7 ?restx7
  case hyx7 => (intro wS hSw; (try dsimp only at hSw); go_simp; try with_reducible rfl)
  try simp only [Act.put, List.setIfInBounds_toArray, List.set_cons_zero, List.set_cons_succ]
  refine det_read 7 (v := ?vx8) rfl (by kernel_rfl) rfl ?hyx8 ?restx8
  case hyx8 => (intro wS hSw; (try dsimp only at hSw); go_simp; try with_reducible rfl)
  try simp only [Act.put, List.setIfInBounds_toArray, List.set_cons_zero, List.set_cons_succ]
  refine det_read 8 (v := ?vx9) rfl (by kernel_rfl) rfl ?hyx9 ?restx9
  case hyx9 => (intro wS hSw; (try dsimp only at hSw); go_simp; try with_reducible rfl)
  try simp only [Act.put, List.setIfInBounds_toArray, List.set_cons_zero, List.set_cons_succ]
  refine det_read 9 (v := ?vx10) rfl (by kernel_rfl) rfl ?hyx10 ?restx10
  case hyx10 => (intro wS hSw; (try dsimp only at hSw); go_simp; try with_reducible rfl)
  try simp only [Act.put, List.setIfInBounds_toArray, List.set_cons_zero, List.set_cons_succ]
  refine det_read 10 (v := ?vx11) rfl (by kernel_rfl) rfl ?hyx11 ?restx11
  case hyx11 => (intro wS hSw; (try dsimp only at hSw); go_simp; try with_reducible rfl)
  try simp only [Act.put, List.setIfInBounds_toArray, List.set_cons_zero, List.set_cons_succ]
  refine det_read 11 (v := ?vx12) rfl (by kernel_rfl) rfl ?hyx12 ?restx12
  case hyx12 => (intro wS hSw; (try dsimp only at hSw); go_simp; try with_reducible rfl)
  try simp only [Act.put, List.setIfInBounds_toArray, List.set_cons_zero, List.set_cons_succ]
  refine det_read 12 (v := ?vx13) rfl (by kernel_rfl) rfl ?hyx13 ?restx13
  case hyx13 => (intro wS hSw; (try dsimp only at hSw); go_simp; try with_reducible rfl)
  try simp only [Act.put, List.setIfInBounds_toArray, List.set_cons_zero, List.set_cons_succ]
  refine det_read 13 (v := ?vx14) rfl (by kernel_rfl) rfl ?hyx14 ?restx14
  case hyx14 => (intro wS hSw; (try dsimp only at hSw); go_simp; try with_reducible rfl)
  try simp only [Act.put, List.setIfInBounds_toArray, List.set_cons_zero, List.set_cons_succ]
  refine det_read 14 (v := ?vx15) rfl (by kernel_rfl) rfl ?hyx15 ?restx15
  case hyx15 => (intro wS hSw; (try dsimp only at hSw); go_simp; try with_reducible rfl)
  try simp only [Act.put, List.setIfInBounds_toArray, List.set_cons_zero, List.set_cons_succ]
  refine det_read 15 (v := ?vx16) rfl (by kernel_rfl) rfl ?hyx16 ?restx16
  case hyx16 => (intro wS hSw; (try dsimp only at hSw); go_simp; try with_reducible rfl)
  try simp only [Act.put, List.setIfInBounds_toArray, List.set_cons_zero, List.set_cons_succ]
  refine det_read 16 (v := ?vx17) rfl (by kernel_rfl) rfl ?hyx17 ?restx17
  case hyx17 => (intro wS hSw; (try dsimp only at hSw); go_simp; try with_reducible rfl)
  try simp only [Act.put, List.setIfInBounds_toArray, List.set_cons_zero, List.set_cons_succ]
  refine det_read 17 (v := ?vx18) rfl (by kernel_rfl) rfl ?hyx18 ?restx18
  case hyx18 => (intro wS hSw; (try dsimp only at hSw); go_simp; try with_reducible rfl)
  try simp only [Act.put, List.setIfInBounds_toArray, List.set_cons_zero, List.set_cons_succ]
  refine det_read 18 (v := ?vx19) rfl (by kernel_rfl) rfl ?hyx19 ?restx19
  case hyx19 => (intro wS hSw; (try dsimp only at hSw); go_simp; try with_reducible rfl)
  try simp only [Act.put, List.setIfInBounds_toArray, List.set_cons_zero, List.set_cons_succ]
  refine det_read 19 (v := ?vx20) rfl (by kernel_rfl) rfl ?hyx20 ?restx20
  case hyx20 => (intro wS hSw; (try dsimp only at hSw); go_simp; try with_reducible rfl)
  try simp only [Act.put, List.setIfInBounds_toArray, List.set_cons_zero, List.set_cons_succ]
  refine det_read 20 (v := ?vx21) rfl (by kernel_rfl) rfl ?hyx21 ?restx21
  case hyx21 => (intro wS hSw; (try dsimp only at hSw); go_simp; try with_reducible rfl)
  try simp only [Act.put, List.setIfInBounds_toArray, List.set_cons_zero, List.set_cons_succ]
  refine det_read 21 (v := ?vx22) rfl (by kernel_rfl) rfl ?hyx22 ?restx22
  case hyx22 => (intro wS hSw; (try dsimp only at hSw); go_simp; try with_reducible rfl)
  try simp only [Act.put, List.setIfInBounds_toArray, List.set_cons_zero, List.set_cons_succ]
  refine det_read 22 (v := ?vx23) rfl (by kernel_rfl) rfl ?hyx23 ?restx23
  case hyx23 => (intro wS hSw; (try dsimp only at hSw); go_simp; try with_reducible rfl)
  try simp only [Act.put, List.setIfInBounds_toArray, List.set_cons_zero, List.set_cons_succ]
  refine det_read 23 (v := ?vx24) rfl (by kernel_rfl) rfl ?hyx24 ?restx24
  case hyx24 => (intro wS hSw; (try dsimp only at hSw); go_simp; try with_reducible rfl)
  try simp only [Act.put, List.setIfInBounds_toArray, List.set_cons_zero, List.set_cons_succ]
  refine det_read 24 (v := ?vx25) rfl (by kernel_rfl) rfl ?hyx25 ?restx25
  case hyx25 => (intro wS hSw; (try dsimp only at hSw); go_simp; try with_reducible rfl)
  try simp only [Act.put, List.setIfInBounds_toArray, List.set_cons_zero, List.set_cons_succ]
  refine det_read 25 (v := ?vx26) rfl (by kernel_rfl) rfl ?hyx26 ?restx26
  case hyx26 => (intro wS hSw; (try dsimp only at hSw); go_simp; try with_reducible rfl)
  try simp only [Act.put, List.setIfInBounds_toArray, List.set_cons_zero, List.set_cons_succ]
  refine det_read 26 (v := ?vx27) rfl (by kernel_rfl) rfl ?hyx27 ?restx27
  case hyx27 => (intro wS hSw; (try dsimp only at hSw); go_simp; try with_reducible rfl)
  try simp only [Act.put, List.setIfInBounds_toArray, List.set_cons_zero, List.set_cons_succ]
  refine det_read 27 (v := ?vx28) rfl (by kernel_rfl) rfl ?hyx28 ?restx28
  case hyx28 => (intro wS hSw; (try dsimp only at hSw); go_simp; try with_reducible rfl)
  try simp only [Act.put, List.setIfInBounds_toArray, List.set_cons_zero, List.set_cons_succ]
  refine det_read 28 (v := ?vx29) rfl (by kernel_rfl) rfl ?hyx29 ?restx29
  case hyx29 => (intro wS hSw; (try dsimp only at hSw); go_simp; try with_reducible rfl)
  try simp only [Act.put, List.setIfInBounds_toArray, List.set_cons_zero, List.set_cons_succ]
  refine det_read 29 (v := ?vx30) rfl (by kernel_rfl) rfl ?hyx30 ?restx30
  case hyx30 => (intro wS hSw; (try dsimp only at hSw); go_simp; try with_reducible rfl)
  try simp only [Act.put, List.setIfInBounds_toArray, List.set_cons_zero, List.set_cons_succ]
  refine det_read 30 (v := ?vx31) rfl (by kernel_rfl) rfl ?hyx31 ?restx31
  case hyx31 => (intro wS hSw; (try dsimp only at hSw); go_simp; try with_reducible rfl)
  try simp only [Act.put, List.setIfInBounds_toArray, List.set_cons_zero, List.set_cons_succ]
  refine det_read 31 (v := ?vx32) rfl (by kernel_rfl) rfl ?hyx32 ?restx32
  case hyx32 => (intro wS hSw; (try dsimp only at hSw); go_simp; try with_reducible rfl)
  try simp only [Act.put, List.setIfInBounds_toArray, List.set_cons_zero, List.set_cons_succ]
  refine det_read 32 (v := ?vx33) rfl (by kernel_rfl) rfl ?hyx33 ?restx33
  case hyx33 => (intro wS hSw; (try dsimp only at hSw); go_simp; try with_reducible rfl)
  try simp only [Act.put, List.setIfInBounds_toArray, List.set_cons_zero, List.set_cons_succ]
  refine det_read 33 (v := ?vx34) rfl (by kernel_rfl) rfl ?hyx34 ?restx34
  case hyx34 => (intro wS hSw; (try dsimp only at hSw); go_simp; try with_reducible rfl)
  try simp only [Act.put, List.setIfInBounds_toArray, List.set_cons_zero, List.set_cons_succ]
  refine det_read 34 (v := ?vx35) rfl (by kernel_rfl) rfl ?hyx35 ?restx35
  case hyx35 => (intro wS hSw; (try dsimp only at hSw); go_simp; try with_reducible rfl)
  try simp only [Act.put, List.setIfInBounds_toArray, List.set_cons_zero, List.set_cons_succ]
  refine det_read 35 (v := ?vx36) rfl (by kernel_rfl) rfl ?hyx36 ?restx36
  case hyx36 => (intro wS hSw; (try dsimp only at hSw); go_simp; try with_reducible rfl)
  try simp only [Act.put, List.setIfInBounds_toArray, List.set_cons_zero, List.set_cons_succ]
  refine det_read 36 (v := ?vx37) rfl (by kernel_rfl) rfl ?hyx37 ?restx37
  case hyx37 => (intro wS hSw; (try dsimp only at hSw); go_simp; try with_reducible rfl)
  try simp only [Act.put, List.setIfInBounds_toArray, List.set_cons_zero, List.set_cons_succ]
  refine det_read 37 (v := ?vx38) rfl (by kernel_rfl) rfl ?hyx38 ?restx38
  case hyx38 => (intro wS hSw; (try dsimp only at hSw); go_simp; try with_reducible rfl)
  try simp only [Act.put, List.setIfInBounds_toArray, List.set_cons_zero, List.set_cons_succ]
  refine det_read 38 (v := ?vx39) rfl (by kernel_rfl) rfl ?hyx39 ?restx39
  case hyx39 => (intro wS hSw; (try dsimp only at hSw); go_simp; try with_reducible rfl)
  try simp only [Act.put, List.setIfInBounds_toArray, List.set_cons_zero, List.set_cons_succ]
  refine det_call 39 rfl (by kernel_rfl) rfl ?hyx57 (fun W h => det_shape (Nat.le_refl _) (hR2 W) h) ?restx57
  case hyx57 => (intro wS hSw; go_simp; try with_reducible rfl)
  try simp only [Act.put, List.setIfInBounds_toArray, List.set_cons_zero, List.set_cons_succ]
  refine det_read 40 (v := ?vx40) rfl (by kernel_rfl) rfl ?hyx40 ?restx40
  case hyx40 => (intro wS hSw; (try dsimp only at hSw); go_simp; try with_reducible rfl)
  try simp only [Act.put, List.setIfInBounds_toArray, List.set_cons_zero, List.set_cons_succ]
  refine det_read 41 (v := ?vx41) rfl (by kernel_rfl) rfl ?hyx41 ?restx41
  case hyx41 => (intro wS hSw; (try dsimp only at hSw); go_simp; try with_reducible rfl)
  try simp only [Act.put, List.setIfInBounds_toArray, List.set_cons_zero, List.set_cons_succ]
  refine det_read 42 (v := ?vx42) rfl (by kernel_rfl) rfl ?hyx42 ?restx42
  case hyx42 => (intro wS hSw; (try dsimp only at hSw); go_simp; try with_reducible rfl)
  try simp only [Act.put, List.setIfInBounds_toArray, List.set_cons_zero, List.set_cons_succ]
  refine det_read 43 (v := ?vx43) rfl (by kernel_rfl) rfl ?hyx43 ?restx43
  case hyx43 => (intro wS hSw; (try dsimp only at hSw); go_simp; try with_reducible rfl)
  try simp only [Act.put, List.setIfInBounds_toArray, List.set_cons_zero, List.set_cons_succ]
  refine det_read 44 (v := ?vx44) rfl (by kernel_rfl) rfl ?hyx44 ?restx44
  case hyx44 => (intro wS hSw; (try dsimp only at hSw); go_simp; try with_reducible rfl)
  try simp only [Act.put, List.setIfInBounds_toArray, List.set_cons_zero, List.set_cons_succ]
  refine det_read 45 (v := ?vx45) rfl (by kernel_rfl) rfl ?hyx45 ?restx45
  case hyx45 => (intro wS hSw; (try dsimp only at hSw); go_simp; try with_reducible rfl)
  try simp only [Act.put, List.setIfInBounds_toArray, List.set_cons_zero, List.set_cons_succ]
  refine det_read 46 (v := ?vx46) rfl (by kernel_rfl) rfl ?hyx46 ?restx46
  case hyx46 => (intro wS hSw; (try dsimp only at hSw); go_simp; try with_reducible rfl)
  try simp only [Act.put, List.setIfInBounds_toArray, List.set_cons_zero, List.set_cons_succ]
  refine det_read 47 (v := ?vx47) rfl (by kernel_rfl) rfl ?hyx47 ?restx47
  case hyx47 => (intro wS hSw; (try dsimp only at hSw); go_simp; try with_reducible rfl)
  try simp only [Act.put, List.setIfInBounds_toArray, List.set_cons_zero, List.set_cons_succ]
  refine det_read 48 (v := ?vx48) rfl (by kernel_rfl) rfl ?hyx48 ?restx48
  case hyx48 => (intro wS hSw; (try dsimp only at hSw); go_simp; try with_reducible rfl)
  try simp only [Act.put, List.setIfInBounds_toArray, List.set_cons_zero, List.set_cons_succ]
  refine det_call 49 rfl (by kernel_rfl) rfl ?hyx58 (fun W h => det_shape (Nat.le_refl _) (hR3 W) h) ?restx58
  case hyx58 => (intro wS hSw; go_simp; try with_reducible rfl)
  try simp only [Act.put, List.setIfInBounds_toArray, List.set_cons_zero, List.set_cons_succ]
  refine det_read 50 (v := ?vx49) rfl (by kernel_rfl) rfl ?hyx49 ?restx49
  case hyx49 => (intro wS hSw; (try dsimp only at hSw); go_simp; try with_reducible rfl)
  try simp only [Act.put, List.setIfInBounds_toArray, List.set_cons_zero, List.set_cons_succ]
  refine det_read 51 (v := ?vx50) rfl (by kernel_rfl) rfl ?hyx50 ?restx50
  case hyx50 => (intro wS hSw; (try dsimp only at hSw); go_simp; try with_reducible rfl)
  try simp only [Act.put, List.setIfInBounds_toArray, List.set_cons_zero, List.set_cons_succ]
  refine det_read 52 (v := ?vx51) rfl (by kernel_rfl) rfl ?hyx51 ?restx51
  case hyx51 => (intro wS hSw; (try dsimp only at hSw); go_simp; try with_reducible rfl)
  try simp only [Act.put, List.setIfInBounds_toArray, List.set_cons_zero, List.set_cons_succ]
  refine det_read 53 (v := ?vx52) rfl (by kernel_rfl) rfl ?hyx52 ?restx52
  case hyx52 => (intro wS hSw; (try dsimp only at hSw); go_simp; try with_reducible rfl)
  try simp only [Act.put, List.setIfInBounds_toArray, List.set_cons_zero, List.set_cons_succ]
  refine det_read 54 (v := ?vx53) rfl (by kernel_rfl) rfl ?hyx53 ?restx53
  case hyx53 => (intro wS hSw; (try dsimp only at hSw); go_simp; try with_reducible rfl)
  try simp only [Act.put, List.setIfInBounds_toArray, List.set_cons_zero, List.set_cons_succ]
  refine det_read 55 (v := ?vx54) rfl (by kernel_rfl) rfl ?hyx54 ?restx54
  case hyx54 => (intro wS hSw; (try dsimp only at hSw); go_simp; try with_reducible rfl)
  try simp only [Act.put, List.setIfInBounds_toArray, List.set_cons_zero, List.set_cons_succ]
  refine det_call 56 rfl (by kernel_rfl) rfl ?hyx59 (fun W h => det_shape (Nat.le_refl _) (shown7_any W) h) ?restx59
  case hyx59 => (intro wS hSw; go_simp; try with_reducible rfl)
  try simp only [Act.put, List.setIfInBounds_toArray, List.set_cons_zero, List.set_cons_succ]
  refine det_read 57 (v := ?vx55) rfl (by kernel_rfl) rfl ?hyx55 ?restx55
  case hyx55 => (intro wS hSw; (try dsimp only at hSw); go_simp; try with_reducible rfl)
  try simp only [Act.put, List.setIfInBounds_toArray, List.set_cons_zero, List.set_cons_succ]
  refine det_read 58 (v := ?vx56) rfl (by kernel_rfl) rfl ?hyx56 ?restx56
  case hyx56 => (intro wS hSw; (try dsimp only at hSw); go_simp; try with_reducible rfl)
  try simp only [Act.put, List.setIfInBounds_toArray, List.set_cons_zero, List.set_cons_succ]
  refine det_done (by kernel_rfl) ?_
  intro W hW
  go_wp2
  go_ret
  exact ⟨rfl, below2 H3.out.2 hW.2⟩
theorem walk (a : Int) (wa : (Lit.int .u8 a).wf = true) (b : Int) (wb : (Lit.int .u8 b).wf = true) (d : Int) (wd : (Lit.int .u8 d).wf = true) (x : Int) (wx : (Lit.int .u8 x).wf = true) (y : Int) (wy : (Lit.int .u8 y).wf = true) (m : Int) (wm : (Lit.int .u16 m).wf = true) (w : World) :
    Calls Try.prog 6 #[.int .u8 a, .int .u8 b, .int .u8 d, .int .u8 x, .int .u8 y, .int .u16 m] w fun e w' => e = .returned (.bool true) ∧ Below w.heap.size w w' :=
  walk_int a b d x y m (bounds_u8 wa) (bounds_u8 wb) (bounds_u8 wd) (bounds_u8 wx) (bounds_u8 wy) (bounds_u16 wm) w

theorem own : ownKnob Try.prog.godebug = none := by kernel_rfl
set_option linter.unusedVariables false in
set_option maxRecDepth 100000 in
theorem lifted (os : Os) (started : os.Started) (H : Type) (enc : TypeId × Value → H) :
    ReturnsInHanded {} Try.checked os 6 .any (Rows.layoutNeedsSpec.pre6 enc Try.prog Try.f6 Rows.layoutNeedsRow.domain false) (Rows.layoutNeedsSpec.post enc Try.prog Try.f6 false true false false) := by
  refine returnsInHanded_of_change (C := Try.checked) own started (by kernel_rfl) Try.func6
    (ChangeSpec.witness6 (enc := enc) (C := Try.checked) false ⟨#[], #[.int .u8 0, .int .u8 0, .int .u8 0, .int .u8 0, .int .u8 0, .int .u16 0], []⟩ 8 (by kernel_rfl) (by kernel_rfl) (by kernel_rfl) (by kernel_rfl)) ?_
  intro W base args ds gs before hval0 hW hcnd _
  have hval : ∀ (j : Nat) t v, Try.f6.params[j]? = some t → args[j]? = some v → Value.okWide Try.prog W .any base t v := hval0
  have hW' := hW
  obtain ⟨p, q, hA0, hV, rfl, hfz, hnd⟩ := hW
  have hA : DataW.TrodAll enc Try.prog W 0 (fun _ => true) true Try.f6.params.toList args.toList ds p := hA0
  rw [Try.params6] at hA hval
  obtain ⟨v0, vs0, d0, ds0, p0, q0, hargs, rfl, rfl, h0, r0⟩ := trodAll_cons hA
  obtain ⟨v1, vs1, d1, ds1, p1, q1, rfl, rfl, rfl, h1, r1⟩ := trodAll_cons r0
  obtain ⟨v2, vs2, d2, ds2, p2, q2, rfl, rfl, rfl, h2, r2⟩ := trodAll_cons r1
  obtain ⟨v3, vs3, d3, ds3, p3, q3, rfl, rfl, rfl, h3, r3⟩ := trodAll_cons r2
  obtain ⟨v4, vs4, d4, ds4, p4, q4, rfl, rfl, rfl, h4, r4⟩ := trodAll_cons r3
  obtain ⟨v5, vs5, d5, ds5, p5, q5, rfl, rfl, rfl, h5, r5⟩ := trodAll_cons r4
  obtain ⟨rfl, rfl, rfl⟩ := trodAll_nil r5
  obtain rfl : args = #[v0, v1, v2, v3, v4, v5] := by cases args; simp_all
  obtain ⟨rfl, rfl⟩ := trodVars_none hV
  obtain ⟨a0, rfl, rfl, rfl, w0⟩ := open_int Try.underlying5 (hval 0 5 v0 rfl rfl) h0
  obtain ⟨a1, rfl, rfl, rfl, w1⟩ := open_int Try.underlying5 (hval 1 5 v1 rfl rfl) h1
  obtain ⟨a2, rfl, rfl, rfl, w2⟩ := open_int Try.underlying5 (hval 2 5 v2 rfl rfl) h2
  obtain ⟨a3, rfl, rfl, rfl, w3⟩ := open_int Try.underlying5 (hval 3 5 v3 rfl rfl) h3
  obtain ⟨a4, rfl, rfl, rfl, w4⟩ := open_int Try.underlying5 (hval 4 5 v4 rfl rfl) h4
  obtain ⟨a5, rfl, rfl, rfl, w5⟩ := open_int Try.underlying37 (hval 5 37 v5 rfl rfl) h5
  clear hA0 hval0
  simp only [List.append_nil] at hW'
  refine (walk a0 w0 a1 w1 a2 w2 a3 w3 a4 w4 a5 w5 W).mono fun e W' ⟨he, hg⟩ => ?_
  subst he
  exact ⟨_, rfl, _, _, _, [], [], [], hW', trodAll_mk1 (shut_bool Try.underlying4 _), (trodAll_cons_mk (shut_int Try.underlying5 w0) (trodAll_cons_mk (shut_int Try.underlying5 w1) (trodAll_cons_mk (shut_int Try.underlying5 w2) (trodAll_cons_mk (shut_int Try.underlying5 w3) (trodAll_cons_mk (shut_int Try.underlying5 w4) (trodAll_cons_mk (shut_int Try.underlying37 w5) trodAll_mk0)))))), rfl, hg.frame _, fun h => by cases h⟩
/-- For every input the law returns true, and each argument reads as it did. -/
theorem proved : Rows.LayoutNeedsSaid :=
  OpenClaim.holds_of_wide 6 Try.f6 rfl rfl rfl rfl rfl rfl rfl ⟨rfl, rfl, rfl, rfl, rfl⟩ rfl rfl rfl rfl rfl (by kernel_rfl) Try.func6 (by kernel_rfl)
    (of_decide_eq_true (by kernel_rfl)) (by unfold Func.isWrapper; first | (rw [if_pos (by decide +kernel)]; kernel_rfl) | (rw [if_neg (by decide +kernel)]; exact ⟨rfl, rfl⟩))
    (fun os started H enc _ => lifted os started H enc)
end Go.Proofs.Ytfnafoahcllakaa.layoutNeeds
