/- For every geometry, row, column, place and sector the law LayoutTells returns true: where anything stands is the document's answer, or its error. No condition. -/
import Derived.Test.YtfnafoahcllakaaLay07
import Derived.ProofKit
import Derived.OpenShut
import Derived.ShutString
import Derived.Lib.SmallJoins
namespace Go.Proofs.Ytfnafoahcllakaa.layoutTells
open Go.ChangeShapes Go.WideShapes Go.ChangeAt Go.RowKit
open Go.ChangeMaps (open_string shut_string)

set_option maxRecDepth 100000 in
set_option maxHeartbeats 4000000 in
theorem walk_int (c k r row i off s : Int) (hc : -9223372036854775808 ≤ c ∧ c ≤ 9223372036854775807) (hs : -9223372036854775808 ≤ s ∧ s ≤ 9223372036854775807) (w : World) :
    Calls Try.prog 3 #[geoV c k r, .int .i64 row, .int .i64 i, .int .i64 off, .int .i64 s] w fun e w' => e = .returned (.bool true) ∧ Below w.heap.size w w' := by
  have HT : Hid _ := one_start w c k r 23
  have h1 := fun W => Find_any c k r s W
  have h2 := fun W => rFind_any c k r s W
  have h3 := fun W => Parity_any c k r row W
  have h4 := fun W => rParity_any c k r row W
  have h5 := fun W => Back_any c k r row i off W
  have h6 := fun W => rBack_any c k r row i off W
  have h7 := fun W => Check_any c k r W
  have h8 := fun W => rCheck_any c k r W
  have h9 := fun W => Size_any c k r W
  have h10 := fun W => rSize_any c k r W
  have h11 := fun W => Need_any c k r W
  have h12 := fun W => rNeed_any c k r W
  have h13 := fun W => Rows_any s i hs.1 hs.2 W
  have h14 := fun W => rRows_any s i hs.1 hs.2 W
  have h15 := fun W => Column_any c k r row i W
  have h16 := fun W => rColumn_all c k r row i hc.1 hc.2 W
  have h17 := fun W => Role_any c k r row i W
  have h18 := fun W => rRole_any c k r row i W
  have h19 := fun W => Sector_any c k r row off W
  have h20 := fun W => rSector_any c k r row off W
  generalize Lay.findA c k r s = x0 at *
  generalize Lay.findI c k r s = x1 at *
  generalize Lay.findO c k r s = x2 at *
  generalize Lay.findE c k r s = x3 at *
  generalize Lay.parP c k r row = x4 at *
  generalize Lay.parQ c k r row = x5 at *
  generalize Lay.backN c k r row i off = x6 at *
  generalize Lay.backE c k r row i off = x7 at *
  generalize Lay.checkI c k r = x8 at *
  generalize Lay.sizeI c k r = x9 at *
  generalize Lay.needI c k r = x10 at *
  generalize Lay.rowsI s i = x11 at *
  generalize Lay.colI c k r row i = x12 at *
  generalize Lay.roleI c k r row i = x13 at *
  generalize Lay.sectI c k r row off = x14 at *
  clear hc hs
  unfold geoV at *
  go_enter Try.func3, Try.ntmps3
  go_wp2_with fail
  refine (h1 _).mono ?_
  rintro e w1 ⟨rfl, b⟩
  have HK1 : Hid (Shp w w1 w.heap.size c k r) := Shp.kept HT.out b
  clear b
  obtain ⟨p0, p1, p2⟩ := HK1.out.1
  go_wp2_with fail
  refine (h2 _).mono ?_
  rintro e w2 ⟨rfl, b⟩
  have HK2 : Hid (Shp w w2 w.heap.size c k r) := Shp.kept HK1.out b
  clear b p0 p1 p2 HK1
  obtain ⟨p0, p1, p2⟩ := HK2.out.1
  go_wp2_with fail
  refine (h3 _).mono ?_
  rintro e w3 ⟨rfl, b⟩
  have HK3 : Hid (Shp w w3 w.heap.size c k r) := Shp.kept HK2.out b
  clear b p0 p1 p2 HK2
  obtain ⟨p0, p1, p2⟩ := HK3.out.1
  go_wp2_with fail
  refine (h4 _).mono ?_
  rintro e w4 ⟨rfl, b⟩
  have HK4 : Hid (Shp w w4 w.heap.size c k r) := Shp.kept HK3.out b
  clear b p0 p1 p2 HK3
  obtain ⟨p0, p1, p2⟩ := HK4.out.1
  go_wp2_with fail
  refine (h5 _).mono ?_
  rintro e w5 ⟨rfl, b⟩
  have HK5 : Hid (Shp w w5 w.heap.size c k r) := Shp.kept HK4.out b
  clear b p0 p1 p2 HK4
  obtain ⟨p0, p1, p2⟩ := HK5.out.1
  go_wp2_with fail
  refine (h6 _).mono ?_
  rintro e w6 ⟨rfl, b⟩
  have HK6 : Hid (Shp w w6 w.heap.size c k r) := Shp.kept HK5.out b
  clear b p0 p1 p2 HK5
  obtain ⟨p0, p1, p2⟩ := HK6.out.1
  have HMX : Hid (Try.prog.follows .mixedOrders = true) := by show _ = _; kernel_rfl
  clear h1 h2 h3 h4 h5 h6
  go_wp2_with fail
  refine region_det (fun W => (W.cell? ⟨w.heap.size, 0, none⟩ = some (.int .i64 c) ∧ W.cell? ⟨w.heap.size, 1, none⟩ = some (.int .i64 k) ∧ W.cell? ⟨w.heap.size, 2, none⟩ = some (.int .i64 r)) ∧ Below w6.heap.size w6 W) HMX.out (by kernel_rfl) ⟨HK6.out.1, (Below.refl _ _).drew⟩ ?_
  clear p0 p1 p2
  refine det_read 0 (v := ?vx1) rfl (by kernel_rfl) rfl ?hyx1 ?restx1
  case hyx1 => (intro wS hSw; (try dsimp only at hSw); go_simp; try with_reducible rfl)
  try simp only [Act.put, List.setIfInBounds_toArray, List.set_cons_zero, List.set_cons_succ]
  refine det_call 1 rfl (by kernel_rfl) rfl ?hyx51 (fun W h => det_shape (Nat.le_refl _) (h7 W) h) ?restx51
  case hyx51 => (intro wS hSw; go_simp; try with_reducible rfl)
  try simp only [Act.put, List.setIfInBounds_toArray, List.set_cons_zero, List.set_cons_succ]
  refine det_read 2 (v := ?vx2) rfl (by kernel_rfl) rfl ?hyx2 ?restx2
  case hyx2 => (intro wS hSw; (try dsimp only at hSw); go_simp; try with_reducible rfl)
  try simp only [Act.put, List.setIfInBounds_toArray, List.set_cons_zero, List.set_cons_succ]
  refine det_call 3 rfl (by kernel_rfl) rfl ?hyx52 (fun W h => det_shape (Nat.le_refl _) (h8 W) h) ?restx52
  case hyx52 => (intro wS hSw; go_simp; try with_reducible rfl)
  try simp only [Act.put, List.setIfInBounds_toArray, List.set_cons_zero, List.set_cons_succ]
  refine det_read 4 (v := ?vx3) rfl (by kernel_rfl) rfl ?hyx3 ?restx3
  case hyx3 => (intro wS hSw; (try dsimp only at hSw); go_simp; try with_reducible rfl)
  try simp only [Act.put, List.setIfInBounds_toArray, List.set_cons_zero, List.set_cons_succ]
  refine det_read 5 (v := ?vx4) rfl (by kernel_rfl) rfl ?hyx4 ?restx4
  case hyx4 => (intro wS hSw; (try dsimp only at hSw); go_simp; try with_reducible rfl)
  try simp only [Act.put, List.setIfInBounds_toArray, List.set_cons_zero, List.set_cons_succ]
  refine det_read 6 (v := ?vx5) rfl (by kernel_rfl) rfl ?hyx5 ?restx5
  case hyx5 => (intro wS hSw; (try dsimp only at hSw); go_simp; try with_reducible rfl)
  try simp only [Act.put, List.setIfInBounds_toArray, List.set_cons_zero, List.set_cons_succ]
  refine det_call 7 rfl (by kernel_rfl) rfl ?hyx53 (fun W h => det_shape (Nat.le_refl _) (h9 W) h) ?restx53
  case hyx53 => (intro wS hSw; go_simp; try with_reducible rfl)
  try simp only [Act.put, List.setIfInBounds_toArray, List.set_cons_zero, List.set_cons_succ]
  refine det_read 8 (v := ?vx6) rfl (by kernel_rfl) rfl ?hyx6 ?restx6
  case hyx6 => (intro wS hSw; (try dsimp only at hSw); go_simp; try with_reducible rfl)
  try simp only [Act.put, List.setIfInBounds_toArray, List.set_cons_zero, List.set_cons_succ]
  refine det_call 9 rfl (by kernel_rfl) rfl ?hyx54 (fun W h => det_shape (Nat.le_refl _) (h10 W) h) ?restx54
  case hyx54 => (intro wS hSw; go_simp; try with_reducible rfl)
  try simp only [Act.put, List.setIfInBounds_toArray, List.set_cons_zero, List.set_cons_succ]
  refine det_read 10 (v := ?vx7) rfl (by kernel_rfl) rfl ?hyx7 ?restx7
  case hyx7 => (intro wS hSw; (try dsimp only at hSw); go_simp; try with_reducible rfl)
  try simp only [Act.put, List.setIfInBounds_toArray, List.set_cons_zero, List.set_cons_succ]
  refine det_read 11 (v := ?vx8) rfl (by kernel_rfl) rfl ?hyx8 ?restx8
  case hyx8 => (intro wS hSw; (try dsimp only at hSw); go_simp; try with_reducible rfl)
  try simp only [Act.put, List.setIfInBounds_toArray, List.set_cons_zero, List.set_cons_succ]
  refine det_read 12 (v := ?vx9) rfl (by kernel_rfl) rfl ?hyx9 ?restx9
  case hyx9 => (intro wS hSw; (try dsimp only at hSw); go_simp; try with_reducible rfl)
  try simp only [Act.put, List.setIfInBounds_toArray, List.set_cons_zero, List.set_cons_succ]
  refine det_read 13 (v := ?vx10) rfl (by kernel_rfl) rfl ?hyx10 ?restx10
  case hyx10 => (intro wS hSw; (try dsimp only at hSw); go_simp; try with_reducible rfl)
  try simp only [Act.put, List.setIfInBounds_toArray, List.set_cons_zero, List.set_cons_succ]
  refine det_call 14 rfl (by kernel_rfl) rfl ?hyx55 (fun W h => det_shape (Nat.le_refl _) (h11 W) h) ?restx55
  case hyx55 => (intro wS hSw; go_simp; try with_reducible rfl)
  try simp only [Act.put, List.setIfInBounds_toArray, List.set_cons_zero, List.set_cons_succ]
  refine det_read 15 (v := ?vx11) rfl (by kernel_rfl) rfl ?hyx11 ?restx11
  case hyx11 => (intro wS hSw; (try dsimp only at hSw); go_simp; try with_reducible rfl)
  try simp only [Act.put, List.setIfInBounds_toArray, List.set_cons_zero, List.set_cons_succ]
  refine det_call 16 rfl (by kernel_rfl) rfl ?hyx56 (fun W h => det_shape (Nat.le_refl _) (h12 W) h) ?restx56
  case hyx56 => (intro wS hSw; go_simp; try with_reducible rfl)
  try simp only [Act.put, List.setIfInBounds_toArray, List.set_cons_zero, List.set_cons_succ]
  refine det_read 17 (v := ?vx12) rfl (by kernel_rfl) rfl ?hyx12 ?restx12
  case hyx12 => (intro wS hSw; (try dsimp only at hSw); go_simp; try with_reducible rfl)
  try simp only [Act.put, List.setIfInBounds_toArray, List.set_cons_zero, List.set_cons_succ]
  refine det_read 18 (v := ?vx13) rfl (by kernel_rfl) rfl ?hyx13 ?restx13
  case hyx13 => (intro wS hSw; (try dsimp only at hSw); go_simp; try with_reducible rfl)
  try simp only [Act.put, List.setIfInBounds_toArray, List.set_cons_zero, List.set_cons_succ]
  refine det_read 19 (v := ?vx14) rfl (by kernel_rfl) rfl ?hyx14 ?restx14
  case hyx14 => (intro wS hSw; (try dsimp only at hSw); go_simp; try with_reducible rfl)
  try simp only [Act.put, List.setIfInBounds_toArray, List.set_cons_zero, List.set_cons_succ]
  refine det_read 20 (v := ?vx15) rfl (by kernel_rfl) rfl ?hyx15 ?restx15
  case hyx15 => (intro wS hSw; (try dsimp only at hSw); go_simp; try with_reducible rfl)
  try simp only [Act.put, List.setIfInBounds_toArray, List.set_cons_zero, List.set_cons_succ]
  refine det_read 21 (v := ?vx16) rfl (by kernel_rfl) rfl ?hyx16 ?restx16
  case hyx16 => (intro wS hSw; (try dsimp only at hSw); go_simp; try with_reducible rfl)
  try simp only [Act.put, List.setIfInBounds_toArray, List.set_cons_zero, List.set_cons_succ]
  refine det_call 22 rfl (by kernel_rfl) rfl ?hyx57 (fun W h => det_shape (Nat.le_refl _) (h13 W) h) ?restx57
  case hyx57 => (intro wS hSw; go_simp; try with_reducible rfl)
  try simp only [Act.put, List.setIfInBounds_toArray, List.set_cons_zero, List.set_cons_succ]
  refine det_read 23 (v := ?vx17) rfl (by kernel_rfl) rfl ?hyx17 ?restx17
  case hyx17 => (intro wS hSw; (try dsimp only at hSw); go_simp; try with_reducible rfl)
  try simp only [Act.put, List.setIfInBounds_toArray, List.set_cons_zero, List.set_cons_succ]
  refine det_read 24 (v := ?vx18) rfl (by kernel_rfl) rfl ?hyx18 ?restx18
  case hyx18 => (intro wS hSw; (try dsimp only at hSw); go_simp; try with_reducible rfl)
  try simp only [Act.put, List.setIfInBounds_toArray, List.set_cons_zero, List.set_cons_succ]
  refine det_call 25 rfl (by kernel_rfl) rfl ?hyx58 (fun W h => det_shape (Nat.le_refl _) (h14 W) h) ?restx58
  case hyx58 => (intro wS hSw; go_simp; try with_reducible rfl)
  try simp only [Act.put, List.setIfInBounds_toArray, List.set_cons_zero, List.set_cons_succ]
  refine det_read 26 (v := ?vx19) rfl (by kernel_rfl) rfl ?hyx19 ?restx19
  case hyx19 => (intro wS hSw; (try dsimp only at hSw); go_simp; try with_reducible rfl)
  try simp only [Act.put, List.setIfInBounds_toArray, List.set_cons_zero, List.set_cons_succ]
  refine det_read 27 (v := ?vx20) rfl (by kernel_rfl) rfl ?hyx20 ?restx20
  case hyx20 => (intro wS hSw; (try dsimp only at hSw); go_simp; try with_reducible rfl)
  try simp only [Act.put, List.setIfInBounds_toArray, List.set_cons_zero, List.set_cons_succ]
  refine det_read 28 (v := ?vx21) rfl (by kernel_rfl) rfl ?hyx21 ?restx21
  case hyx21 => (intro wS hSw; (try dsimp only at hSw); go_simp; try with_reducible rfl)
  try simp only [Act.put, List.setIfInBounds_toArray, List.set_cons_zero, List.set_cons_succ]
  refine det_read 29 (v := ?vx22) rfl (by kernel_rfl) rfl ?hyx22 ?restx22
  case hyx22 => (intro wS hSw; (try dsimp only at hSw); go_simp; try with_reducible rfl)
  try simp only [Act.put, List.setIfInBounds_toArray, List.set_cons_zero, List.set_cons_succ]
  refine det_read 30 (v := ?vx23) rfl (by kernel_rfl) rfl ?hyx23 ?restx23
  case hyx23 => (intro wS hSw; (try dsimp only at hSw); go_simp; try with_reducible rfl)
  try simp only [Act.put, List.setIfInBounds_toArray, List.set_cons_zero, List.set_cons_succ]
  refine det_read 31 (v := ?vx24) rfl (by kernel_rfl) rfl ?hyx24 ?restx24
  case hyx24 => (intro wS hSw; (try dsimp only at hSw); go_simp; try with_reducible rfl)
  try simp only [Act.put, List.setIfInBounds_toArray, List.set_cons_zero, List.set_cons_succ]
  refine det_call 32 rfl (by kernel_rfl) rfl ?hyx59 (fun W h => det_shape (Nat.le_refl _) (h15 W) h) ?restx59
  case hyx59 => (intro wS hSw; go_simp; try with_reducible rfl)
  try simp only [Act.put, List.setIfInBounds_toArray, List.set_cons_zero, List.set_cons_succ]
  refine det_read 33 (v := ?vx25) rfl (by kernel_rfl) rfl ?hyx25 ?restx25
  case hyx25 => (intro wS hSw; (try dsimp only at hSw); go_simp; try with_reducible rfl)
  try simp only [Act.put, List.setIfInBounds_toArray, List.set_cons_zero, List.set_cons_succ]
  refine det_read 34 (v := ?vx26) rfl (by kernel_rfl) rfl ?hyx26 ?restx26
  case hyx26 => (intro wS hSw; (try dsimp only at hSw); go_simp; try with_reducible rfl)
  try simp only [Act.put, List.setIfInBounds_toArray, List.set_cons_zero, List.set_cons_succ]
  refine det_read 35 (v := ?vx27) rfl (by kernel_rfl) rfl ?hyx27 ?restx27
  case hyx27 => (intro wS hSw; (try dsimp only at hSw); go_simp; try with_reducible rfl)
  try simp only [Act.put, List.setIfInBounds_toArray, List.set_cons_zero, List.set_cons_succ]
  refine det_call 36 rfl (by kernel_rfl) rfl ?hyx60 (fun W h => det_shape (Nat.le_refl _) (h16 W) h) ?restx60
  case hyx60 => (intro wS hSw; go_simp; try with_reducible rfl)
  try simp only [Act.put, List.setIfInBounds_toArray, List.set_cons_zero, List.set_cons_succ]
  refine det_read 37 (v := ?vx28) rfl (by kernel_rfl) rfl ?hyx28 ?restx28
  case hyx28 => (intro wS hSw; (try dsimp only at hSw); go_simp; try with_reducible rfl)
  try simp only [Act.put, List.setIfInBounds_toArray, List.set_cons_zero, List.set_cons_succ]
  refine det_read 38 (v := ?vx29) rfl (by kernel_rfl) rfl ?hyx29 ?restx29
  case hyx29 => (intro wS hSw; (try dsimp only at hSw); go_simp; try with_reducible rfl)
  try simp only [Act.put, List.setIfInBounds_toArray, List.set_cons_zero, List.set_cons_succ]
  refine det_read 39 (v := ?vx30) rfl (by kernel_rfl) rfl ?hyx30 ?restx30
  case hyx30 => (intro wS hSw; (try dsimp only at hSw); go_simp; try with_reducible rfl)
  try simp only [Act.put, List.setIfInBounds_toArray, List.set_cons_zero, List.set_cons_succ]
  refine det_read 40 (v := ?vx31) rfl (by kernel_rfl) rfl ?hyx31 ?restx31
  case hyx31 => (intro wS hSw; (try dsimp only at hSw); go_simp; try with_reducible rfl)
  try simp only [Act.put, List.setIfInBounds_toArray, List.set_cons_zero, List.set_cons_succ]
  refine det_read 41 (v := ?vx32) rfl (by kernel_rfl) rfl ?hyx32 ?restx32
  case hyx32 => (intro wS hSw; (try dsimp only at hSw); go_simp; try with_reducible rfl)
  try simp only [Act.put, List.setIfInBounds_toArray, List.set_cons_zero, List.set_cons_succ]
  refine det_read 42 (v := ?vx33) rfl (by kernel_rfl) rfl ?hyx33 ?restx33
  case hyx33 => (intro wS hSw; (try dsimp only at hSw); go_simp; try with_reducible rfl)
  try simp only [Act.put, List.setIfInBounds_toArray, List.set_cons_zero, List.set_cons_succ]
  refine det_call 43 rfl (by kernel_rfl) rfl ?hyx61 (fun W h => det_shape (Nat.le_refl _) (h17 W) h) ?restx61
  case hyx61 => (intro wS hSw; go_simp; try with_reducible rfl)
  try simp only [Act.put, List.setIfInBounds_toArray, List.set_cons_zero, List.set_cons_succ]
  refine det_read 44 (v := ?vx34) rfl (by kernel_rfl) rfl ?hyx34 ?restx34
  case hyx34 => (intro wS hSw; (try dsimp only at hSw); go_simp; try with_reducible rfl)
  try simp only [Act.put, List.setIfInBounds_toArray, List.set_cons_zero, List.set_cons_succ]
  refine det_read 45 (v := ?vx35) rfl (by kernel_rfl) rfl ?hyx35 ?restx35
  case hyx35 => (intro wS hSw; (try dsimp only at hSw); go_simp; try with_reducible rfl)
  try simp only [Act.put, List.setIfInBounds_toArray, List.set_cons_zero, List.set_cons_succ]
  refine det_read 46 (v := ?vx36) rfl (by kernel_rfl) rfl ?hyx36 ?restx36
  case hyx36 => (intro wS hSw; (try dsimp only at hSw); go_simp; try with_reducible rfl)
  try simp only [Act.put, List.setIfInBounds_toArray, List.set_cons_zero, List.set_cons_succ]
  refine det_call 47 rfl (by kernel_rfl) rfl ?hyx62 (fun W h => det_shape (Nat.le_refl _) (h18 W) h) ?restx62
  case hyx62 => (intro wS hSw; go_simp; try with_reducible rfl)
  try simp only [Act.put, List.setIfInBounds_toArray, List.set_cons_zero, List.set_cons_succ]
  refine det_read 48 (v := ?vx37) rfl (by kernel_rfl) rfl ?hyx37 ?restx37
  case hyx37 => (intro wS hSw; (try dsimp only at hSw); go_simp; try with_reducible rfl)
  try simp only [Act.put, List.setIfInBounds_toArray, List.set_cons_zero, List.set_cons_succ]
  refine det_read 49 (v := ?vx38) rfl (by kernel_rfl) rfl ?hyx38 ?restx38
  case hyx38 => (intro wS hSw; (try dsimp only at hSw); go_simp; try with_reducible rfl)
  try simp only [Act.put, List.setIfInBounds_toArray, List.set_cons_zero, List.set_cons_succ]
  refine det_read 50 (v := ?vx39) rfl (by kernel_rfl) rfl ?hyx39 ?restx39
  case hyx39 => (intro wS hSw; (try dsimp only at hSw); go_simp; try with_reducible rfl)
  try simp only [Act.put, List.setIfInBounds_toArray, List.set_cons_zero, List.set_cons_succ]
  refine det_read 51 (v := ?vx40) rfl (by kernel_rfl) rfl ?hyx40 ?restx40
  case hyx40 => (intro wS hSw; (try dsimp only at hSw); go_simp; try with_reducible rfl)
  try simp only [Act.put, List.setIfInBounds_toArray, List.set_cons_zero, List.set_cons_succ]
  refine det_read 52 (v := ?vx41) rfl (by kernel_rfl) rfl ?hyx41 ?restx41
  case hyx41 => (intro wS hSw; (try dsimp only at hSw); go_simp; try with_reducible rfl)
  try simp only [Act.put, List.setIfInBounds_toArray, List.set_cons_zero, List.set_cons_succ]
  refine det_read 53 (v := ?vx42) rfl (by kernel_rfl) rfl ?hyx42 ?restx42
  case hyx42 => (intro wS hSw; (try dsimp only at hSw); go_simp; try with_reducible rfl)
  try simp only [Act.put, List.setIfInBounds_toArray, List.set_cons_zero, List.set_cons_succ]
  refine det_call 54 rfl (by kernel_rfl) rfl ?hyx63 (fun W h => det_shape (Nat.le_refl _) (h19 W) h) ?restx63
  case hyx63 => (intro wS hSw; go_simp; try with_reducible rfl)
  try simp only [Act.put, List.setIfInBounds_toArray, List.set_cons_zero, List.set_cons_succ]
  refine det_read 55 (v := ?vx43) rfl (by kernel_rfl) rfl ?hyx43 ?restx43
  case hyx43 => (intro wS hSw; (try dsimp only at hSw); go_simp; try with_reducible rfl)
  try simp only [Act.put, List.setIfInBounds_toArray, List.set_cons_zero, List.set_cons_succ]
  refine det_read 56 (v := ?vx44) rfl (by kernel_rfl) rfl ?hyx44 ?restx44
  case hyx44 => (intro wS hSw; (try dsimp only at hSw); go_simp; try with_reducible rfl)
  try simp only [Act.put, List.setIfInBounds_toArray, List.set_cons_zero, List.set_cons_succ]
  refine det_read 57 (v := ?vx45) rfl (by kernel_rfl) rfl ?hyx45 ?restx45
  case hyx45 => (intro wS hSw; (try dsimp only at hSw); go_simp; try with_reducible rfl)
  try simp only [Act.put, List.setIfInBounds_toArray, List.set_cons_zero, List.set_cons_succ]
  refine det_call 58 rfl (by kernel_rfl) rfl ?hyx64 (fun W h => det_shape (Nat.le_refl _) (h20 W) h) ?restx64
  case hyx64 => (intro wS hSw; go_simp; try with_reducible rfl)
  try simp only [Act.put, List.setIfInBounds_toArray, List.set_cons_zero, List.set_cons_succ]
  refine det_read 59 (v := ?vx46) rfl (by kernel_rfl) rfl ?hyx46 ?restx46
  case hyx46 => (intro wS hSw; (try dsimp only at hSw); go_simp; try with_reducible rfl)
  try simp only [Act.put, List.setIfInBounds_toArray, List.set_cons_zero, List.set_cons_succ]
  refine det_read 60 (v := ?vx47) rfl (by kernel_rfl) rfl ?hyx47 ?restx47
  case hyx47 => (intro wS hSw; (try dsimp only at hSw); go_simp; try with_reducible rfl)
  try simp only [Act.put, List.setIfInBounds_toArray, List.set_cons_zero, List.set_cons_succ]
  refine det_read 61 (v := ?vx48) rfl (by kernel_rfl) rfl ?hyx48 ?restx48
  case hyx48 => (intro wS hSw; (try dsimp only at hSw); go_simp; try with_reducible rfl)
  try simp only [Act.put, List.setIfInBounds_toArray, List.set_cons_zero, List.set_cons_succ]
  refine det_call 62 rfl (by kernel_rfl) rfl ?hyx65 (fun W h => det_shape (Nat.le_refl _) (shown7_any W) h) ?restx65
  case hyx65 => (intro wS hSw; go_simp; try with_reducible rfl)
  try simp only [Act.put, List.setIfInBounds_toArray, List.set_cons_zero, List.set_cons_succ]
  refine det_read 63 (v := ?vx49) rfl (by kernel_rfl) rfl ?hyx49 ?restx49
  case hyx49 => (intro wS hSw; (try dsimp only at hSw); go_simp; try with_reducible rfl)
  try simp only [Act.put, List.setIfInBounds_toArray, List.set_cons_zero, List.set_cons_succ]
  refine det_read 64 (v := ?vx50) rfl (by kernel_rfl) rfl ?hyx50 ?restx50
  case hyx50 => (intro wS hSw; (try dsimp only at hSw); go_simp; try with_reducible rfl)
  try simp only [Act.put, List.setIfInBounds_toArray, List.set_cons_zero, List.set_cons_succ]
  refine det_done (by kernel_rfl) ?_
  intro W hW
  go_wp2
  go_ret
  exact ⟨rfl, below2 HK6.out.2 hW.2⟩
theorem walk (c : Int) (wc : (Lit.int .i64 c).wf = true) (k : Int) (_wk : (Lit.int .i64 k).wf = true) (r : Int) (_wr : (Lit.int .i64 r).wf = true) (row : Int) (_w1 : (Lit.int .i64 row).wf = true) (i : Int) (_w2 : (Lit.int .i64 i).wf = true) (off : Int) (_w3 : (Lit.int .i64 off).wf = true) (s : Int) (ws : (Lit.int .i64 s).wf = true) (w : World) :
    Calls Try.prog 3 #[.agg #[.int .i64 c, .int .i64 k, .int .i64 r], .int .i64 row, .int .i64 i, .int .i64 off, .int .i64 s] w fun e w' => e = .returned (.bool true) ∧ Below w.heap.size w w' :=
  walk_int c k r row i off s (bounds_i64 wc) (bounds_i64 ws) w

theorem own : ownKnob Try.prog.godebug = none := by kernel_rfl
set_option linter.unusedVariables false in
set_option maxRecDepth 100000 in
theorem lifted (os : Os) (started : os.Started) (H : Type) (enc : TypeId × Value → H) :
    ReturnsInHanded {} Try.checked os 3 .any (Rows.layoutTellsSpec.pre6 enc Try.prog Try.f3 Rows.layoutTellsRow.domain false) (Rows.layoutTellsSpec.post enc Try.prog Try.f3 false true false false) := by
  refine returnsInHanded_of_change (C := Try.checked) own started (by kernel_rfl) Try.func3
    (ChangeSpec.witness6 (enc := enc) (C := Try.checked) false ⟨#[], #[.agg #[.int .i64 0, .int .i64 0, .int .i64 0], .int .i64 0, .int .i64 0, .int .i64 0, .int .i64 0], []⟩ 8 (by kernel_rfl) (by kernel_rfl) (by kernel_rfl) (by kernel_rfl)) ?_
  intro W base args ds gs before hval0 hW hcnd _
  have hval : ∀ (j : Nat) t v, Try.f3.params[j]? = some t → args[j]? = some v → Value.okWide Try.prog W .any base t v := hval0
  have hW' := hW
  obtain ⟨p, q, hA0, hV, rfl, hfz, hnd⟩ := hW
  have hA : DataW.TrodAll enc Try.prog W 0 (fun _ => true) true Try.f3.params.toList args.toList ds p := hA0
  rw [Try.params3] at hA hval
  obtain ⟨v0, vs0, d0, ds0, p0, q0, hargs, rfl, rfl, h0, r0⟩ := trodAll_cons hA
  obtain ⟨v1, vs1, d1, ds1, p1, q1, rfl, rfl, rfl, h1, r1⟩ := trodAll_cons r0
  obtain ⟨v2, vs2, d2, ds2, p2, q2, rfl, rfl, rfl, h2, r2⟩ := trodAll_cons r1
  obtain ⟨v3, vs3, d3, ds3, p3, q3, rfl, rfl, rfl, h3, r3⟩ := trodAll_cons r2
  obtain ⟨v4, vs4, d4, ds4, p4, q4, rfl, rfl, rfl, h4, r4⟩ := trodAll_cons r3
  obtain ⟨rfl, rfl, rfl⟩ := trodAll_nil r4
  obtain rfl : args = #[v0, v1, v2, v3, v4] := by cases args; simp_all
  obtain ⟨rfl, rfl⟩ := trodVars_none hV
  obtain ⟨u0a, u0b, u0c, y0a, y0b, y0c, m0, rfl, rfl, rfl, hy0a, hy0b, hy0c⟩ := Go.Joins.open_agg3 Try.underlying23 (by kernel_rfl) (by kernel_rfl) (hval 0 23 v0 rfl rfl) h0
  obtain ⟨s0a, e0a, rfl, ws0a⟩ := DataW.trod_int Try.underlying3 hy0a
  simp at e0a
  subst e0a
  obtain ⟨s0b, e0b, rfl, ws0b⟩ := DataW.trod_int Try.underlying3 hy0b
  simp at e0b
  subst e0b
  obtain ⟨s0c, e0c, rfl, ws0c⟩ := DataW.trod_int Try.underlying3 hy0c
  simp at e0c
  subst e0c
  obtain ⟨a1, rfl, rfl, rfl, w1⟩ := open_int Try.underlying3 (hval 1 3 v1 rfl rfl) h1
  obtain ⟨a2, rfl, rfl, rfl, w2⟩ := open_int Try.underlying3 (hval 2 3 v2 rfl rfl) h2
  obtain ⟨a3, rfl, rfl, rfl, w3⟩ := open_int Try.underlying3 (hval 3 3 v3 rfl rfl) h3
  obtain ⟨a4, rfl, rfl, rfl, w4⟩ := open_int Try.underlying3 (hval 4 3 v4 rfl rfl) h4
  clear hA0 hval0
  simp only [List.append_nil] at hW'
  refine (walk s0a ws0a s0b ws0b s0c ws0c a1 w1 a2 w2 a3 w3 a4 w4 W).mono fun e W' ⟨he, hg⟩ => ?_
  subst he
  exact ⟨_, rfl, _, _, _, [], [], [], hW', trodAll_mk1 (shut_bool Try.underlying4 _), (trodAll_cons_mk (Go.Joins.shut_agg3 (y0 := (.lit (.int .i64 s0a), [])) (y1 := (.lit (.int .i64 s0b), [])) (y2 := (.lit (.int .i64 s0c), [])) Try.underlying23 (by kernel_rfl) (by kernel_rfl) ⟨1, by simp [DataW.trod, Try.underlying3, ws0a]⟩ ⟨1, by simp [DataW.trod, Try.underlying3, ws0b]⟩ ⟨1, by simp [DataW.trod, Try.underlying3, ws0c]⟩) (trodAll_cons_mk (shut_int Try.underlying3 w1) (trodAll_cons_mk (shut_int Try.underlying3 w2) (trodAll_cons_mk (shut_int Try.underlying3 w3) (trodAll_cons_mk (shut_int Try.underlying3 w4) trodAll_mk0))))), rfl, hg.frame _, fun h => by cases h⟩
/-- For every input the law returns true, and each argument reads as it did. -/
theorem proved : Rows.LayoutTellsSaid :=
  OpenClaim.holds_of_wide 3 Try.f3 rfl rfl rfl rfl rfl rfl rfl ⟨rfl, rfl, rfl, rfl, rfl⟩ rfl rfl rfl rfl rfl (by kernel_rfl) Try.func3 (by kernel_rfl)
    (of_decide_eq_true (by kernel_rfl)) (by unfold Func.isWrapper; first | (rw [if_pos (by decide +kernel)]; kernel_rfl) | (rw [if_neg (by decide +kernel)]; exact ⟨rfl, rfl⟩))
    (fun os started H enc _ => lifted os started H enc)
end Go.Proofs.Ytfnafoahcllakaa.layoutTells
