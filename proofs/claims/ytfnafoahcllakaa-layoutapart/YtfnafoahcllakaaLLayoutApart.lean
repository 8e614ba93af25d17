/- For every geometry that may be and every two sectors the law LayoutApart returns true: two sectors have the same place on the same drive only if they are the same. No condition. -/
import Derived.Test.YtfnafoahcllakaaLay07
import Derived.ProofKit
import Derived.OpenShut
import Derived.ShutString
namespace Go.Proofs.Ytfnafoahcllakaa.layoutApart
open Go.ChangeShapes Go.WideShapes Go.ChangeAt Go.RowKit
open Go.ChangeMaps (open_string shut_string)

theorem apart {c k r X Y : Int} (h : Lay.ok c k r) (x1 : 0 ≤ X) (x2 : X < r * (c - 2) * k) (y1 : 0 ≤ Y) (y2 : Y < r * (c - 2) * k) :
    (Lay.colI c k r (X / k / (c - 2)) (X / k % (c - 2)) = Lay.colI c k r (Y / k / (c - 2)) (Y / k % (c - 2)) → Lay.sectI c k r (X / k / (c - 2)) (X % k) = Lay.sectI c k r (Y / k / (c - 2)) (Y % k) → X = Y) ∧
    Lay.colI c k r (X / k / (c - 2)) (X / k % (c - 2)) ≠ Lay.parP c k r (X / k / (c - 2)) ∧ Lay.colI c k r (X / k / (c - 2)) (X / k % (c - 2)) ≠ Lay.parQ c k r (X / k / (c - 2)) := by
  obtain ⟨a1, i1, o1, f1⟩ := Lay.find_back h x1 x2
  obtain ⟨a2, i2, o2, f2⟩ := Lay.find_back h y1 y2
  generalize X / k / (c - 2) = A at *
  generalize X / k % (c - 2) = I at *
  generalize X % k = O at *
  generalize Y / k / (c - 2) = B at *
  generalize Y / k % (c - 2) = J at *
  generalize Y % k = U at *
  have ra : Lay.hasRow c k r A := ⟨h, a1⟩
  have rb : Lay.hasRow c k r B := ⟨h, a2⟩
  rw [show Lay.colI c k r A I = ((c - 1 - A % c + 1) % c + 1 + I) % c from if_pos ⟨ra, i1⟩, show Lay.colI c k r B J = ((c - 1 - B % c + 1) % c + 1 + J) % c from if_pos ⟨rb, i2⟩,
    show Lay.sectI c k r A O = 4 + A * k + O from if_pos ⟨ra, o1⟩, show Lay.sectI c k r B U = 4 + B * k + U from if_pos ⟨rb, o2⟩,
    show Lay.parP c k r A = c - 1 - A % c from if_pos ra, show Lay.parQ c k r A = (c - 1 - A % c + 1) % c from if_pos ra]
  obtain ⟨⟨c1, c2⟩, ⟨k1, k2⟩, r1, r2⟩ := h
  clear ra rb x1 x2 y1 y2
  have hcc : c = 4 ∨ c = 5 ∨ c = 6 ∨ c = 7 ∨ c = 8 ∨ c = 9 ∨ c = 10 := by omega
  have hkk : k = 1 ∨ k = 2 ∨ k = 3 ∨ k = 4 := by omega
  refine ⟨?_, ?_, ?_⟩
  · intro e1 e2
    have eA : A = B ∧ O = U := by
      clear e1 f1 f2 i1 i2
      rcases hkk with rfl | rfl | rfl | rfl <;> omega
    obtain ⟨rfl, rfl⟩ := eA
    obtain ⟨g, hg⟩ : ∃ g, (c - 1 - A % c + 1) % c = g := ⟨_, rfl⟩
    have g1 : 0 ≤ g := by rw [← hg]; exact Int.emod_nonneg _ (by omega)
    have g2 : g < c := by rw [← hg]; exact Int.emod_lt_of_pos _ (by omega)
    rw [hg] at e1
    have eI : I = J := by
      clear e2 f1 f2 hg a1 a2 o1 o2
      rcases hcc with rfl | rfl | rfl | rfl | rfl | rfl | rfl <;> omega
    rw [← f1, ← f2, eI]
  · clear f1 f2 o1 o2
    obtain ⟨m, hm⟩ : ∃ m, A % c = m := ⟨_, rfl⟩
    have m1 : 0 ≤ m := by rw [← hm]; exact Int.emod_nonneg A (by omega)
    have m2 : m < c := by rw [← hm]; exact Int.emod_lt_of_pos A (by omega)
    rw [hm]
    clear hm a1 a2 hkk
    rcases hcc with rfl | rfl | rfl | rfl | rfl | rfl | rfl <;> omega
  · clear f1 f2 o1 o2
    obtain ⟨g, hg⟩ : ∃ g, (c - 1 - A % c + 1) % c = g := ⟨_, rfl⟩
    have g1 : 0 ≤ g := by rw [← hg]; exact Int.emod_nonneg _ (by omega)
    have g2 : g < c := by rw [← hg]; exact Int.emod_lt_of_pos _ (by omega)
    rw [hg]
    clear hg a1 a2 hkk
    rcases hcc with rfl | rfl | rfl | rfl | rfl | rfl | rfl <;> omega

set_option maxRecDepth 100000 in
set_option maxHeartbeats 4000000 in
theorem walk_int (a b d x y : Int) (a1 : 0 ≤ a ∧ a ≤ 255) (b1 : 0 ≤ b ∧ b ≤ 255) (d1 : 0 ≤ d ∧ d ≤ 255) (x1 : 0 ≤ x ∧ x ≤ 65535) (y1 : 0 ≤ y ∧ y ≤ 65535) (w : World) :
    Calls Try.prog 7 #[.int .u8 a, .int .u8 b, .int .u8 d, .int .u16 x, .int .u16 y] w fun e w' => e = .returned (.bool true) ∧ Below w.heap.size w w' := by
  have HMX : Hid (Try.prog.follows .mixedOrders = true) := by show _ = _; kernel_rfl
  have hG := fun W => good_any a b d a1 b1 d1 W
  have ho := Lay.good_ok a b d d1
  obtain ⟨c, hc⟩ : ∃ c, 4 + a % 7 = c := ⟨_, rfl⟩
  obtain ⟨k, hk⟩ : ∃ k, 1 + b % 4 = k := ⟨_, rfl⟩
  obtain ⟨r, hr⟩ : ∃ r, 1 + d = r := ⟨_, rfl⟩
  rw [hc, hk, hr] at hG ho
  obtain ⟨⟨c1, c2⟩, ⟨k1, k2⟩, r1, r2⟩ := id ho
  have hz := Lay.size_le ho
  have hN := fun W => Size_any c k r W
  rw [show Lay.sizeI c k r = r * (c - 2) * k from if_pos ho] at hN
  have n1 : 1 ≤ r * (c - 2) * k := by
    have q1 : 1 * 2 ≤ r * (c - 2) := Int.mul_le_mul (by omega) (by omega) (by omega) (by omega)
    have q2 : 2 * 1 ≤ r * (c - 2) * k := Int.mul_le_mul (by omega) (by omega) (by omega) (by omega)
    omega
  obtain ⟨n, hn⟩ : ∃ n, r * (c - 2) * k = n := ⟨_, rfl⟩
  obtain ⟨X, hX⟩ : ∃ X, x % n = X := ⟨_, rfl⟩
  obtain ⟨Y, hY⟩ : ∃ Y, y % n = Y := ⟨_, rfl⟩
  rw [hn] at hz hN n1
  have eX : x.tmod n = X := by rw [Int.tmod_eq_emod_of_nonneg x1.1]; exact hX
  have eY : y.tmod n = Y := by rw [Int.tmod_eq_emod_of_nonneg y1.1]; exact hY
  have X1 : 0 ≤ X := by rw [← hX]; exact Int.emod_nonneg x (by omega)
  have X2 : X < n := by rw [← hX]; exact Int.emod_lt_of_pos x (by omega)
  have Y1 : 0 ≤ Y := by rw [← hY]; exact Int.emod_nonneg y (by omega)
  have Y2 : Y < n := by rw [← hY]; exact Int.emod_lt_of_pos y (by omega)
  obtain ⟨f1, f2, f3⟩ := apart (X := X) (Y := Y) ho X1 (by omega) Y1 (by omega)
  have hF1 := fun W => Find_any c k r X W
  have hF2 := fun W => Find_any c k r Y W
  have okX : Lay.ok c k r ∧ 0 ≤ X ∧ X < r * (c - 2) * k := ⟨ho, X1, by omega⟩
  have okY : Lay.ok c k r ∧ 0 ≤ Y ∧ Y < r * (c - 2) * k := ⟨ho, Y1, by omega⟩
  rw [show Lay.findA c k r X = X / k / (c - 2) from if_pos okX, show Lay.findI c k r X = X / k % (c - 2) from if_pos okX, show Lay.findO c k r X = X % k from if_pos okX, show Lay.findE c k r X = 0 by unfold Lay.findE; rw [if_pos ho, if_pos okX.2]] at hF1
  rw [show Lay.findA c k r Y = Y / k / (c - 2) from if_pos okY, show Lay.findI c k r Y = Y / k % (c - 2) from if_pos okY, show Lay.findO c k r Y = Y % k from if_pos okY, show Lay.findE c k r Y = 0 by unfold Lay.findE; rw [if_pos ho, if_pos okY.2]] at hF2
  have same : X = Y → (Lay.colI c k r (X / k / (c - 2)) (X / k % (c - 2)) = Lay.colI c k r (Y / k / (c - 2)) (Y / k % (c - 2)) ∧ Lay.sectI c k r (X / k / (c - 2)) (X % k) = Lay.sectI c k r (Y / k / (c - 2)) (Y % k)) := fun e => by rw [e]; exact ⟨rfl, rfl⟩
  generalize X / k / (c - 2) = A at *
  generalize X / k % (c - 2) = I at *
  generalize X % k = O at *
  generalize Y / k / (c - 2) = B at *
  generalize Y / k % (c - 2) = J at *
  generalize Y % k = U at *
  have hC1 := fun W => Column_any c k r A I W
  have hC2 := fun W => Column_any c k r B J W
  have hS1 := fun W => Sector_any c k r A O W
  have hS2 := fun W => Sector_any c k r B U W
  have hP := fun W => Parity_any c k r A W
  generalize Lay.colI c k r A I = C at *
  generalize Lay.colI c k r B J = E at *
  generalize Lay.sectI c k r A O = S at *
  generalize Lay.sectI c k r B U = T at *
  generalize Lay.parP c k r A = P at *
  generalize Lay.parQ c k r A = Q at *
  have nP : (C != P) = true := by rw [bne_iff_ne]; exact f2
  have nQ : (C != Q) = true := by rw [bne_iff_ne]; exact f3
  have nz : ¬ n = 0 := by omega
  have nl : ¬ n < 1 := by omega
  obtain ⟨x0, x9⟩ := x1
  obtain ⟨y0, y9⟩ := y1
  clear hc hk hr hn hX hY ho okX okY f2 f3 a1 b1 d1
  unfold geoV at *
  by_cases hxy : X = Y
  · have xy : (X == Y) = true := by rw [beq_iff_eq]; exact hxy
    have ce : (C == E) = true := by rw [beq_iff_eq]; exact (same hxy).1
    have st : (S == T) = true := by rw [beq_iff_eq]; exact (same hxy).2
    clear hxy same f1
    go_enter Try.func7, Try.ntmps7
    go_wp2_with fail
    refine (hG _).mono ?_
    rintro e w1 ⟨rfl, b⟩
    have H0 : Hid _ := start_at b c k r 23
    clear b
    obtain ⟨p0, p1, p2⟩ := H0.out.1
    go_wp2_with fail
    refine (hN _).mono ?_
    rintro e w2 ⟨rfl, b⟩
    have H1 : Hid (Shp w w2 w1.heap.size c k r) := Shp.kept H0.out b
    clear b p0 p1 p2 H0
    obtain ⟨p0, p1, p2⟩ := H1.out.1
    go_wp2_with fail
    refine (shown7_any _).mono ?_
    rintro e w3 ⟨rfl, b⟩
    have H2 : Hid (Shp w w3 w1.heap.size c k r) := Shp.kept H1.out b
    clear b p0 p1 p2 H1
    obtain ⟨p0, p1, p2⟩ := H2.out.1
    go_wp2_with fail
    refine (hF1 _).mono ?_
    rintro e w4 ⟨rfl, b⟩
    have H3 : Hid (Shp w w4 w1.heap.size c k r) := Shp.kept H2.out b
    clear b p0 p1 p2 H2
    obtain ⟨p0, p1, p2⟩ := H3.out.1
    go_wp2_with fail
    refine (hF2 _).mono ?_
    rintro e w5 ⟨rfl, b⟩
    have H4 : Hid (Shp w w5 w1.heap.size c k r) := Shp.kept H3.out b
    clear b p0 p1 p2 H3
    obtain ⟨p0, p1, p2⟩ := H4.out.1
    go_wp2_with fail
    refine region_det (fun W => (W.cell? ⟨w1.heap.size, 0, none⟩ = some (.int .i64 c) ∧ W.cell? ⟨w1.heap.size, 1, none⟩ = some (.int .i64 k) ∧ W.cell? ⟨w1.heap.size, 2, none⟩ = some (.int .i64 r)) ∧ Below w5.heap.size w5 W) HMX.out (by kernel_rfl) ⟨H4.out.1, (Below.refl _ _).drew⟩ ?_
    clear p0 p1 p2
    refine det_read 0 (v := ?vx1) rfl (by kernel_rfl) rfl ?hyx1 ?restx1
    case hyx1 => (intro wS hSw; (try dsimp only at hSw); go_simp; try with_reducible rfl)
    try simp only [Act.put, List.setIfInBounds_toArray, List.set_cons_zero, List.set_cons_succ]
    refine det_read 1 (v := ?vx2) rfl (by kernel_rfl) rfl ?hyx2 ?restx2
    case hyx2 => (intro wS hSw; (try dsimp only at hSw); go_simp; try with_reducible rfl)
    try simp only [Act.put, List.setIfInBounds_toArray, List.set_cons_zero, List.set_cons_succ]
    refine det_read 2 (v := ?vx3) rfl (by kernel_rfl) rfl ?hyx3 ?restx3
    case hyx3 => (intro wS hSw; (try dsimp only at hSw); go_simp; try with_reducible rfl)
    try simp only [Act.put, List.setIfInBounds_toArray, List.set_cons_zero, List.set_cons_succ]
    refine det_call 3 rfl (by kernel_rfl) rfl ?hyx54 (fun W h => det_shape (Nat.le_refl _) (hC1 W) h) ?restx54
    case hyx54 => (intro wS hSw; go_simp; try with_reducible rfl)
    try simp only [Act.put, List.setIfInBounds_toArray, List.set_cons_zero, List.set_cons_succ]
    refine det_read 4 (v := ?vx4) rfl (by kernel_rfl) rfl ?hyx4 ?restx4
    case hyx4 => (intro wS hSw; (try dsimp only at hSw); go_simp; try with_reducible rfl)
    try simp only [Act.put, List.setIfInBounds_toArray, List.set_cons_zero, List.set_cons_succ]
    refine det_read 5 (v := ?vx5) rfl (by kernel_rfl) rfl ?hyx5 ?restx5
    case hyx5 => (intro wS hSw; (try dsimp only at hSw); go_simp; try with_reducible rfl)
    try simp only [Act.put, List.setIfInBounds_toArray, List.set_cons_zero, List.set_cons_succ]
    refine det_read 6 (v := ?vx6) rfl (by kernel_rfl) rfl ?hyx6 ?restx6
    case hyx6 => (intro wS hSw; (try dsimp only at hSw); go_simp; try with_reducible rfl)
    try simp only [Act.put, List.setIfInBounds_toArray, List.set_cons_zero, List.set_cons_succ]
    refine det_call 7 rfl (by kernel_rfl) rfl ?hyx55 (fun W h => det_shape (Nat.le_refl _) (hC2 W) h) ?restx55
    case hyx55 => (intro wS hSw; go_simp; try with_reducible rfl)
    try simp only [Act.put, List.setIfInBounds_toArray, List.set_cons_zero, List.set_cons_succ]
    refine det_read 8 (v := ?vx7) rfl (by kernel_rfl) rfl ?hyx7 ?restx7
    case hyx7 => (intro wS hSw; (try dsimp only at hSw); go_simp; try with_reducible rfl)
    try simp only [Act.put, List.setIfInBounds_toArray, List.set_cons_zero, List.set_cons_succ]
    refine det_read 9 (v := ?vx8) rfl (by kernel_rfl) rfl ?hyx8 ?restx8
    case hyx8 => (intro wS hSw; (try dsimp only at hSw); go_simp; try with_reducible rfl)
    try simp only [Act.put, List.setIfInBounds_toArray, List.set_cons_zero, List.set_cons_succ]
    refine det_read 10 (v := ?vx9) rfl (by kernel_rfl) rfl ?hyx9 ?restx9
    case hyx9 => (intro wS hSw; (try dsimp only at hSw); go_simp; try with_reducible rfl)
    try simp only [Act.put, List.setIfInBounds_toArray, List.set_cons_zero, List.set_cons_succ]
    refine det_read 11 (v := ?vx10) rfl (by kernel_rfl) rfl ?hyx10 ?restx10
    case hyx10 => (intro wS hSw; (try dsimp only at hSw); go_simp; try with_reducible rfl)
    try simp only [Act.put, List.setIfInBounds_toArray, List.set_cons_zero, List.set_cons_succ]
    refine det_read 12 (v := ?vx11) rfl (by kernel_rfl) rfl ?hyx11 ?restx11
    case hyx11 => (intro wS hSw; (try dsimp only at hSw); go_simp; try with_reducible rfl)
    try simp only [Act.put, List.setIfInBounds_toArray, List.set_cons_zero, List.set_cons_succ]
    refine det_call 13 rfl (by kernel_rfl) rfl ?hyx56 (fun W h => det_shape (Nat.le_refl _) (hS1 W) h) ?restx56
    case hyx56 => (intro wS hSw; go_simp; try with_reducible rfl)
    try simp only [Act.put, List.setIfInBounds_toArray, List.set_cons_zero, List.set_cons_succ]
    refine det_read 14 (v := ?vx12) rfl (by kernel_rfl) rfl ?hyx12 ?restx12
    case hyx12 => (intro wS hSw; (try dsimp only at hSw); go_simp; try with_reducible rfl)
    try simp only [Act.put, List.setIfInBounds_toArray, List.set_cons_zero, List.set_cons_succ]
    refine det_read 15 (v := ?vx13) rfl (by kernel_rfl) rfl ?hyx13 ?restx13
    case hyx13 => (intro wS hSw; (try dsimp only at hSw); go_simp; try with_reducible rfl)
    try simp only [Act.put, List.setIfInBounds_toArray, List.set_cons_zero, List.set_cons_succ]
    refine det_read 16 (v := ?vx14) rfl (by kernel_rfl) rfl ?hyx14 ?restx14
    case hyx14 => (intro wS hSw; (try dsimp only at hSw); go_simp; try with_reducible rfl)
    try simp only [Act.put, List.setIfInBounds_toArray, List.set_cons_zero, List.set_cons_succ]
    refine det_call 17 rfl (by kernel_rfl) rfl ?hyx57 (fun W h => det_shape (Nat.le_refl _) (hS2 W) h) ?restx57
    case hyx57 => (intro wS hSw; go_simp; try with_reducible rfl)
    try simp only [Act.put, List.setIfInBounds_toArray, List.set_cons_zero, List.set_cons_succ]
    refine det_read 18 (v := ?vx15) rfl (by kernel_rfl) rfl ?hyx15 ?restx15
    case hyx15 => (intro wS hSw; (try dsimp only at hSw); go_simp; try with_reducible rfl)
    try simp only [Act.put, List.setIfInBounds_toArray, List.set_cons_zero, List.set_cons_succ]
    refine det_read 19 (v := ?vx16) rfl (by kernel_rfl) rfl ?hyx16 ?restx16
    case hyx16 => (intro wS hSw; (try dsimp only at hSw); go_simp; try with_reducible rfl)
    try simp only [Act.put, List.setIfInBounds_toArray, List.set_cons_zero, List.set_cons_succ]
    refine det_read 20 (v := ?vx17) rfl (by kernel_rfl) rfl ?hyx17 ?restx17
    case hyx17 => (intro wS hSw; (try dsimp only at hSw); go_simp; try with_reducible rfl)
    try simp only [Act.put, List.setIfInBounds_toArray, List.set_cons_zero, List.set_cons_succ]
    refine det_done (by kernel_rfl) ?_
    intro W hW
    have H5 : Hid (Shp w W w1.heap.size c k r) := ⟨hW.1, below2 H4.out.2 hW.2⟩
    obtain ⟨p0, p1, p2⟩ := H5.out.1
    clear hW H4
    go_wp2_with fail
    refine (hP _).mono ?_
    rintro e w6 ⟨rfl, b⟩
    have H6 : Hid (Shp w w6 w1.heap.size c k r) := Shp.kept H5.out b
    clear b p0 p1 p2 H5
    obtain ⟨p0, p1, p2⟩ := H6.out.1
    go_wp2_with fail
    refine (hC1 _).mono ?_
    rintro e w7 ⟨rfl, b⟩
    have H7 : Hid (Shp w w7 w1.heap.size c k r) := Shp.kept H6.out b
    clear b p0 p1 p2 H6
    obtain ⟨p0, p1, p2⟩ := H7.out.1
    go_wp2
    go_ret
    exact ⟨rfl, H7.out.2⟩
  · have xy : (X == Y) = false := by rw [beq_eq_false_iff_ne]; exact hxy
    by_cases hce : C = E
    · have ce : (C == E) = true := by rw [beq_iff_eq]; exact hce
      have st : (S == T) = false := by rw [beq_eq_false_iff_ne]; exact fun e => hxy (f1 hce e)
      clear hxy hce same f1
      go_enter Try.func7, Try.ntmps7
      go_wp2_with fail
      refine (hG _).mono ?_
      rintro e w1 ⟨rfl, b⟩
      have H0 : Hid _ := start_at b c k r 23
      clear b
      obtain ⟨p0, p1, p2⟩ := H0.out.1
      go_wp2_with fail
      refine (hN _).mono ?_
      rintro e w2 ⟨rfl, b⟩
      have H1 : Hid (Shp w w2 w1.heap.size c k r) := Shp.kept H0.out b
      clear b p0 p1 p2 H0
      obtain ⟨p0, p1, p2⟩ := H1.out.1
      go_wp2_with fail
      refine (shown7_any _).mono ?_
      rintro e w3 ⟨rfl, b⟩
      have H2 : Hid (Shp w w3 w1.heap.size c k r) := Shp.kept H1.out b
      clear b p0 p1 p2 H1
      obtain ⟨p0, p1, p2⟩ := H2.out.1
      go_wp2_with fail
      refine (hF1 _).mono ?_
      rintro e w4 ⟨rfl, b⟩
      have H3 : Hid (Shp w w4 w1.heap.size c k r) := Shp.kept H2.out b
      clear b p0 p1 p2 H2
      obtain ⟨p0, p1, p2⟩ := H3.out.1
      go_wp2_with fail
      refine (hF2 _).mono ?_
      rintro e w5 ⟨rfl, b⟩
      have H4 : Hid (Shp w w5 w1.heap.size c k r) := Shp.kept H3.out b
      clear b p0 p1 p2 H3
      obtain ⟨p0, p1, p2⟩ := H4.out.1
      go_wp2_with fail
      refine region_det (fun W => (W.cell? ⟨w1.heap.size, 0, none⟩ = some (.int .i64 c) ∧ W.cell? ⟨w1.heap.size, 1, none⟩ = some (.int .i64 k) ∧ W.cell? ⟨w1.heap.size, 2, none⟩ = some (.int .i64 r)) ∧ Below w5.heap.size w5 W) HMX.out (by kernel_rfl) ⟨H4.out.1, (Below.refl _ _).drew⟩ ?_
      clear p0 p1 p2
      refine det_read 0 (v := ?vx18) rfl (by kernel_rfl) rfl ?hyx18 ?restx18
      case hyx18 => (intro wS hSw; (try dsimp only at hSw); go_simp; try with_reducible rfl)
      try simp only [Act.put, List.setIfInBounds_toArray, List.set_cons_zero, List.set_cons_succ]
      refine det_read 1 (v := ?vx19) rfl (by kernel_rfl) rfl ?hyx19 ?restx19
      case hyx19 => (intro wS hSw; (try dsimp only at hSw); go_simp; try with_reducible rfl)
      try simp only [Act.put, List.setIfInBounds_toArray, List.set_cons_zero, List.set_cons_succ]
      refine det_read 2 (v := ?vx20) rfl (by kernel_rfl) rfl ?hyx20 ?restx20
      case hyx20 => (intro wS hSw; (try dsimp only at hSw); go_simp; try with_reducible rfl)
      try simp only [Act.put, List.setIfInBounds_toArray, List.set_cons_zero, List.set_cons_succ]
      refine det_call 3 rfl (by kernel_rfl) rfl ?hyx58 (fun W h => det_shape (Nat.le_refl _) (hC1 W) h) ?restx58
      case hyx58 => (intro wS hSw; go_simp; try with_reducible rfl)
      try simp only [Act.put, List.setIfInBounds_toArray, List.set_cons_zero, List.set_cons_succ]
      refine det_read 4 (v := ?vx21) rfl (by kernel_rfl) rfl ?hyx21 ?restx21
      case hyx21 => (intro wS hSw; (try dsimp only at hSw); go_simp; try with_reducible rfl)
      try simp only [Act.put, List.setIfInBounds_toArray, List.set_cons_zero, List.set_cons_succ]
      refine det_read 5 (v := ?vx22) rfl (by kernel_rfl) rfl ?hyx22 ?restx22
      case hyx22 => (intro wS hSw; (try dsimp only at hSw); go_simp; try with_reducible rfl)
      try simp only [Act.put, List.setIfInBounds_toArray, List.set_cons_zero, List.set_cons_succ]
      refine det_read 6 (v := ?vx23) rfl (by kernel_rfl) rfl ?hyx23 ?restx23
      case hyx23 => (intro wS hSw; (try dsimp only at hSw); go_simp; try with_reducible rfl)
      try simp only [Act.put, List.setIfInBounds_toArray, List.set_cons_zero, List.set_cons_succ]
      refine det_call 7 rfl (by kernel_rfl) rfl ?hyx59 (fun W h => det_shape (Nat.le_refl _) (hC2 W) h) ?restx59
      case hyx59 => (intro wS hSw; go_simp; try with_reducible rfl)
      try simp only [Act.put, List.setIfInBounds_toArray, List.set_cons_zero, List.set_cons_succ]
      refine det_read 8 (v := ?vx24) rfl (by kernel_rfl) rfl ?hyx24 ?restx24
      case hyx24 => (intro wS hSw; (try dsimp only at hSw); go_simp; try with_reducible rfl)
      try simp only [Act.put, List.setIfInBounds_toArray, List.set_cons_zero, List.set_cons_succ]
      refine det_read 9 (v := ?vx25) rfl (by kernel_rfl) rfl ?hyx25 ?restx25
      case hyx25 => (intro wS hSw; (try dsimp only at hSw); go_simp; try with_reducible rfl)
      try simp only [Act.put, List.setIfInBounds_toArray, List.set_cons_zero, List.set_cons_succ]
      refine det_read 10 (v := ?vx26) rfl (by kernel_rfl) rfl ?hyx26 ?restx26
      case hyx26 => (intro wS hSw; (try dsimp only at hSw); go_simp; try with_reducible rfl)
      try simp only [Act.put, List.setIfInBounds_toArray, List.set_cons_zero, List.set_cons_succ]
      refine det_read 11 (v := ?vx27) rfl (by kernel_rfl) rfl ?hyx27 ?restx27
      case hyx27 => (intro wS hSw; (try dsimp only at hSw); go_simp; try with_reducible rfl)
      try simp only [Act.put, List.setIfInBounds_toArray, List.set_cons_zero, List.set_cons_succ]
      refine det_read 12 (v := ?vx28) rfl (by kernel_rfl) rfl ?hyx28 ?restx28
      case hyx28 => (intro wS hSw; (try dsimp only at hSw); go_simp; try with_reducible rfl)
      try simp only [Act.put, List.setIfInBounds_toArray, List.set_cons_zero, List.set_cons_succ]
      refine det_call 13 rfl (by kernel_rfl) rfl ?hyx60 (fun W h => det_shape (Nat.le_refl _) (hS1 W) h) ?restx60
      case hyx60 => (intro wS hSw; go_simp; try with_reducible rfl)
      try simp only [Act.put, List.setIfInBounds_toArray, List.set_cons_zero, List.set_cons_succ]
      refine det_read 14 (v := ?vx29) rfl (by kernel_rfl) rfl ?hyx29 ?restx29
      case hyx29 => (intro wS hSw; (try dsimp only at hSw); go_simp; try with_reducible rfl)
      try simp only [Act.put, List.setIfInBounds_toArray, List.set_cons_zero, List.set_cons_succ]
      refine det_read 15 (v := ?vx30) rfl (by kernel_rfl) rfl ?hyx30 ?restx30
      case hyx30 => (intro wS hSw; (try dsimp only at hSw); go_simp; try with_reducible rfl)
      try simp only [Act.put, List.setIfInBounds_toArray, List.set_cons_zero, List.set_cons_succ]
      refine det_read 16 (v := ?vx31) rfl (by kernel_rfl) rfl ?hyx31 ?restx31
      case hyx31 => (intro wS hSw; (try dsimp only at hSw); go_simp; try with_reducible rfl)
      try simp only [Act.put, List.setIfInBounds_toArray, List.set_cons_zero, List.set_cons_succ]
      refine det_call 17 rfl (by kernel_rfl) rfl ?hyx61 (fun W h => det_shape (Nat.le_refl _) (hS2 W) h) ?restx61
      case hyx61 => (intro wS hSw; go_simp; try with_reducible rfl)
      try simp only [Act.put, List.setIfInBounds_toArray, List.set_cons_zero, List.set_cons_succ]
      refine det_read 18 (v := ?vx32) rfl (by kernel_rfl) rfl ?hyx32 ?restx32
      case hyx32 => (intro wS hSw; (try dsimp only at hSw); go_simp; try with_reducible rfl)
      try simp only [Act.put, List.setIfInBounds_toArray, List.set_cons_zero, List.set_cons_succ]
      refine det_read 19 (v := ?vx33) rfl (by kernel_rfl) rfl ?hyx33 ?restx33
      case hyx33 => (intro wS hSw; (try dsimp only at hSw); go_simp; try with_reducible rfl)
      try simp only [Act.put, List.setIfInBounds_toArray, List.set_cons_zero, List.set_cons_succ]
      refine det_read 20 (v := ?vx34) rfl (by kernel_rfl) rfl ?hyx34 ?restx34
      case hyx34 => (intro wS hSw; (try dsimp only at hSw); go_simp; try with_reducible rfl)
      try simp only [Act.put, List.setIfInBounds_toArray, List.set_cons_zero, List.set_cons_succ]
      refine det_done (by kernel_rfl) ?_
      intro W hW
      have H5 : Hid (Shp w W w1.heap.size c k r) := ⟨hW.1, below2 H4.out.2 hW.2⟩
      obtain ⟨p0, p1, p2⟩ := H5.out.1
      clear hW H4
      go_wp2_with fail
      refine (hP _).mono ?_
      rintro e w6 ⟨rfl, b⟩
      have H6 : Hid (Shp w w6 w1.heap.size c k r) := Shp.kept H5.out b
      clear b p0 p1 p2 H5
      obtain ⟨p0, p1, p2⟩ := H6.out.1
      go_wp2_with fail
      refine (hC1 _).mono ?_
      rintro e w7 ⟨rfl, b⟩
      have H7 : Hid (Shp w w7 w1.heap.size c k r) := Shp.kept H6.out b
      clear b p0 p1 p2 H6
      obtain ⟨p0, p1, p2⟩ := H7.out.1
      go_wp2
      go_ret
      exact ⟨rfl, H7.out.2⟩
    · have ce : (C == E) = false := by rw [beq_eq_false_iff_ne]; exact hce
      clear hxy hce same f1
      go_enter Try.func7, Try.ntmps7
      go_wp2_with fail
      refine (hG _).mono ?_
      rintro e w1 ⟨rfl, b⟩
      have H0 : Hid _ := start_at b c k r 23
      clear b
      obtain ⟨p0, p1, p2⟩ := H0.out.1
      go_wp2_with fail
      refine (hN _).mono ?_
      rintro e w2 ⟨rfl, b⟩
      have H1 : Hid (Shp w w2 w1.heap.size c k r) := Shp.kept H0.out b
      clear b p0 p1 p2 H0
      obtain ⟨p0, p1, p2⟩ := H1.out.1
      go_wp2_with fail
      refine (shown7_any _).mono ?_
      rintro e w3 ⟨rfl, b⟩
      have H2 : Hid (Shp w w3 w1.heap.size c k r) := Shp.kept H1.out b
      clear b p0 p1 p2 H1
      obtain ⟨p0, p1, p2⟩ := H2.out.1
      go_wp2_with fail
      refine (hF1 _).mono ?_
      rintro e w4 ⟨rfl, b⟩
      have H3 : Hid (Shp w w4 w1.heap.size c k r) := Shp.kept H2.out b
      clear b p0 p1 p2 H2
      obtain ⟨p0, p1, p2⟩ := H3.out.1
      go_wp2_with fail
      refine (hF2 _).mono ?_
      rintro e w5 ⟨rfl, b⟩
      have H4 : Hid (Shp w w5 w1.heap.size c k r) := Shp.kept H3.out b
      clear b p0 p1 p2 H3
      obtain ⟨p0, p1, p2⟩ := H4.out.1
      go_wp2_with fail
      refine region_det (fun W => (W.cell? ⟨w1.heap.size, 0, none⟩ = some (.int .i64 c) ∧ W.cell? ⟨w1.heap.size, 1, none⟩ = some (.int .i64 k) ∧ W.cell? ⟨w1.heap.size, 2, none⟩ = some (.int .i64 r)) ∧ Below w5.heap.size w5 W) HMX.out (by kernel_rfl) ⟨H4.out.1, (Below.refl _ _).drew⟩ ?_
      clear p0 p1 p2
      refine det_read 0 (v := ?vx35) rfl (by kernel_rfl) rfl ?hyx35 ?restx35
      case hyx35 => (intro wS hSw; (try dsimp only at hSw); go_simp; try with_reducible rfl)
      try simp only [Act.put, List.setIfInBounds_toArray, List.set_cons_zero, List.set_cons_succ]
      refine det_read 1 (v := ?vx36) rfl (by kernel_rfl) rfl ?hyx36 ?restx36
      case hyx36 => (intro wS hSw; (try dsimp only at hSw); go_simp; try with_reducible rfl)
      try simp only [Act.put, List.setIfInBounds_toArray, List.set_cons_zero, List.set_cons_succ]
      refine det_read 2 (v := ?vx37) rfl (by kernel_rfl) rfl ?hyx37 ?restx37
      case hyx37 => (intro wS hSw; (try dsimp only at hSw); go_simp; try with_reducible rfl)
      try simp only [Act.put, List.setIfInBounds_toArray, List.set_cons_zero, List.set_cons_succ]
      refine det_call 3 rfl (by kernel_rfl) rfl ?hyx62 (fun W h => det_shape (Nat.le_refl _) (hC1 W) h) ?restx62
      case hyx62 => (intro wS hSw; go_simp; try with_reducible rfl)
      try simp only [Act.put, List.setIfInBounds_toArray, List.set_cons_zero, List.set_cons_succ]
      refine det_read 4 (v := ?vx38) rfl (by kernel_rfl) rfl ?hyx38 ?restx38
      case hyx38 => (intro wS hSw; (try dsimp only at hSw); go_simp; try with_reducible rfl)
      try simp only [Act.put, List.setIfInBounds_toArray, List.set_cons_zero, List.set_cons_succ]
      refine det_read 5 (v := ?vx39) rfl (by kernel_rfl) rfl ?hyx39 ?restx39
      case hyx39 => (intro wS hSw; (try dsimp only at hSw); go_simp; try with_reducible rfl)
      try simp only [Act.put, List.setIfInBounds_toArray, List.set_cons_zero, List.set_cons_succ]
      refine det_read 6 (v := ?vx40) rfl (by kernel_rfl) rfl ?hyx40 ?restx40
      case hyx40 => (intro wS hSw; (try dsimp only at hSw); go_simp; try with_reducible rfl)
      try simp only [Act.put, List.setIfInBounds_toArray, List.set_cons_zero, List.set_cons_succ]
      refine det_call 7 rfl (by kernel_rfl) rfl ?hyx63 (fun W h => det_shape (Nat.le_refl _) (hC2 W) h) ?restx63
      case hyx63 => (intro wS hSw; go_simp; try with_reducible rfl)
      try simp only [Act.put, List.setIfInBounds_toArray, List.set_cons_zero, List.set_cons_succ]
      refine det_read 8 (v := ?vx41) rfl (by kernel_rfl) rfl ?hyx41 ?restx41
      case hyx41 => (intro wS hSw; (try dsimp only at hSw); go_simp; try with_reducible rfl)
      try simp only [Act.put, List.setIfInBounds_toArray, List.set_cons_zero, List.set_cons_succ]
      refine det_read 9 (v := ?vx42) rfl (by kernel_rfl) rfl ?hyx42 ?restx42
      case hyx42 => (intro wS hSw; (try dsimp only at hSw); go_simp; try with_reducible rfl)
      try simp only [Act.put, List.setIfInBounds_toArray, List.set_cons_zero, List.set_cons_succ]
      refine det_skip 10 rfl (by kernel_rfl) rfl ?restx45
      try simp only [Act.put, List.setIfInBounds_toArray, List.set_cons_zero, List.set_cons_succ]
      refine det_skip 11 rfl (by kernel_rfl) rfl ?restx46
      try simp only [Act.put, List.setIfInBounds_toArray, List.set_cons_zero, List.set_cons_succ]
      refine det_skip 12 rfl (by kernel_rfl) rfl ?restx47
      try simp only [Act.put, List.setIfInBounds_toArray, List.set_cons_zero, List.set_cons_succ]
      refine det_skip 13 rfl (by kernel_rfl) rfl ?restx48
      try simp only [Act.put, List.setIfInBounds_toArray, List.set_cons_zero, List.set_cons_succ]
      refine det_skip 14 rfl (by kernel_rfl) rfl ?restx49
      try simp only [Act.put, List.setIfInBounds_toArray, List.set_cons_zero, List.set_cons_succ]
      refine det_skip 15 rfl (by kernel_rfl) rfl ?restx50
      try simp only [Act.put, List.setIfInBounds_toArray, List.set_cons_zero, List.set_cons_succ]
      refine det_skip 16 rfl (by kernel_rfl) rfl ?restx51
      try simp only [Act.put, List.setIfInBounds_toArray, List.set_cons_zero, List.set_cons_succ]
      refine det_skip 17 rfl (by kernel_rfl) rfl ?restx52
      try simp only [Act.put, List.setIfInBounds_toArray, List.set_cons_zero, List.set_cons_succ]
      refine det_skip 18 rfl (by kernel_rfl) rfl ?restx53
      try simp only [Act.put, List.setIfInBounds_toArray, List.set_cons_zero, List.set_cons_succ]
      refine det_read 19 (v := ?vx43) rfl (by kernel_rfl) rfl ?hyx43 ?restx43
      case hyx43 => (intro wS hSw; (try dsimp only at hSw); go_simp; try with_reducible rfl)
      try simp only [Act.put, List.setIfInBounds_toArray, List.set_cons_zero, List.set_cons_succ]
      refine det_read 20 (v := ?vx44) rfl (by kernel_rfl) rfl ?hyx44 ?restx44
      case hyx44 => (intro wS hSw; (try dsimp only at hSw); go_simp; try with_reducible rfl)
      try simp only [Act.put, List.setIfInBounds_toArray, List.set_cons_zero, List.set_cons_succ]
      refine det_done (by kernel_rfl) ?_
      intro W hW
      have H5 : Hid (Shp w W w1.heap.size c k r) := ⟨hW.1, below2 H4.out.2 hW.2⟩
      obtain ⟨p0, p1, p2⟩ := H5.out.1
      clear hW H4
      go_wp2_with fail
      refine (hP _).mono ?_
      rintro e w6 ⟨rfl, b⟩
      have H6 : Hid (Shp w w6 w1.heap.size c k r) := Shp.kept H5.out b
      clear b p0 p1 p2 H5
      obtain ⟨p0, p1, p2⟩ := H6.out.1
      go_wp2_with fail
      refine (hC1 _).mono ?_
      rintro e w7 ⟨rfl, b⟩
      have H7 : Hid (Shp w w7 w1.heap.size c k r) := Shp.kept H6.out b
      clear b p0 p1 p2 H6
      obtain ⟨p0, p1, p2⟩ := H7.out.1
      go_wp2
      go_ret
      exact ⟨rfl, H7.out.2⟩
theorem walk (a : Int) (wa : (Lit.int .u8 a).wf = true) (b : Int) (wb : (Lit.int .u8 b).wf = true) (d : Int) (wd : (Lit.int .u8 d).wf = true) (x : Int) (wx : (Lit.int .u16 x).wf = true) (y : Int) (wy : (Lit.int .u16 y).wf = true) (w : World) :
    Calls Try.prog 7 #[.int .u8 a, .int .u8 b, .int .u8 d, .int .u16 x, .int .u16 y] w fun e w' => e = .returned (.bool true) ∧ Below w.heap.size w w' :=
  walk_int a b d x y (bounds_u8 wa) (bounds_u8 wb) (bounds_u8 wd) (bounds_u16 wx) (bounds_u16 wy) w

theorem own : ownKnob Try.prog.godebug = none := by kernel_rfl
set_option linter.unusedVariables false in
set_option maxRecDepth 100000 in
theorem lifted (os : Os) (started : os.Started) (H : Type) (enc : TypeId × Value → H) :
    ReturnsInHanded {} Try.checked os 7 .any (Rows.layoutApartSpec.pre6 enc Try.prog Try.f7 Rows.layoutApartRow.domain false) (Rows.layoutApartSpec.post enc Try.prog Try.f7 false true false false) := by
  refine returnsInHanded_of_change (C := Try.checked) own started (by kernel_rfl) Try.func7
    (ChangeSpec.witness6 (enc := enc) (C := Try.checked) false ⟨#[], #[.int .u8 0, .int .u8 0, .int .u8 0, .int .u16 0, .int .u16 0], []⟩ 8 (by kernel_rfl) (by kernel_rfl) (by kernel_rfl) (by kernel_rfl)) ?_
  intro W base args ds gs before hval0 hW hcnd _
  have hval : ∀ (j : Nat) t v, Try.f7.params[j]? = some t → args[j]? = some v → Value.okWide Try.prog W .any base t v := hval0
  have hW' := hW
  obtain ⟨p, q, hA0, hV, rfl, hfz, hnd⟩ := hW
  have hA : DataW.TrodAll enc Try.prog W 0 (fun _ => true) true Try.f7.params.toList args.toList ds p := hA0
  rw [Try.params7] at hA hval
  obtain ⟨v0, vs0, d0, ds0, p0, q0, hargs, rfl, rfl, h0, r0⟩ := trodAll_cons hA
  obtain ⟨v1, vs1, d1, ds1, p1, q1, rfl, rfl, rfl, h1, r1⟩ := trodAll_cons r0
  obtain ⟨v2, vs2, d2, ds2, p2, q2, rfl, rfl, rfl, h2, r2⟩ := trodAll_cons r1
  obtain ⟨v3, vs3, d3, ds3, p3, q3, rfl, rfl, rfl, h3, r3⟩ := trodAll_cons r2
  obtain ⟨v4, vs4, d4, ds4, p4, q4, rfl, rfl, rfl, h4, r4⟩ := trodAll_cons r3
  obtain ⟨rfl, rfl, rfl⟩ := trodAll_nil r4
  obtain rfl : args = #[v0, v1, v2, v3, v4] := by cases args; simp_all
  obtain ⟨rfl, rfl⟩ := trodVars_none hV
  obtain ⟨a0, rfl, rfl, rfl, w0⟩ := open_int Try.underlying5 (hval 0 5 v0 rfl rfl) h0
  obtain ⟨a1, rfl, rfl, rfl, w1⟩ := open_int Try.underlying5 (hval 1 5 v1 rfl rfl) h1
  obtain ⟨a2, rfl, rfl, rfl, w2⟩ := open_int Try.underlying5 (hval 2 5 v2 rfl rfl) h2
  obtain ⟨a3, rfl, rfl, rfl, w3⟩ := open_int Try.underlying37 (hval 3 37 v3 rfl rfl) h3
  obtain ⟨a4, rfl, rfl, rfl, w4⟩ := open_int Try.underlying37 (hval 4 37 v4 rfl rfl) h4
  clear hA0 hval0
  simp only [List.append_nil] at hW'
  refine (walk a0 w0 a1 w1 a2 w2 a3 w3 a4 w4 W).mono fun e W' ⟨he, hg⟩ => ?_
  subst he
  exact ⟨_, rfl, _, _, _, [], [], [], hW', trodAll_mk1 (shut_bool Try.underlying4 _), (trodAll_cons_mk (shut_int Try.underlying5 w0) (trodAll_cons_mk (shut_int Try.underlying5 w1) (trodAll_cons_mk (shut_int Try.underlying5 w2) (trodAll_cons_mk (shut_int Try.underlying37 w3) (trodAll_cons_mk (shut_int Try.underlying37 w4) trodAll_mk0))))), rfl, hg.frame _, fun h => by cases h⟩
/-- For every input the law returns true, and each argument reads as it did. -/
theorem proved : Rows.LayoutApartSaid :=
  OpenClaim.holds_of_wide 7 Try.f7 rfl rfl rfl rfl rfl rfl rfl ⟨rfl, rfl, rfl, rfl, rfl⟩ rfl rfl rfl rfl rfl (by kernel_rfl) Try.func7 (by kernel_rfl)
    (of_decide_eq_true (by kernel_rfl)) (by unfold Func.isWrapper; first | (rw [if_pos (by decide +kernel)]; kernel_rfl) | (rw [if_neg (by decide +kernel)]; exact ⟨rfl, rfl⟩))
    (fun os started H enc _ => lifted os started H enc)
end Go.Proofs.Ytfnafoahcllakaa.layoutApart
