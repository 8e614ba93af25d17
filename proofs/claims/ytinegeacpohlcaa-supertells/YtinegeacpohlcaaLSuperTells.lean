/- For every superblock and every text the law SuperTells returns true: whether it may be, its sector, and what any bytes are, is the document's answer, or its error. No condition. -/
import Derived.Test.YtinegeacpohlcaaSup08
import Derived.Test.YtinegeacpohlcaaRef08Dec
import Derived.ProofKit
import Derived.OpenShut
import Derived.ShutString
import Derived.ChangeOld
import Derived.Below
namespace Go.Proofs.Ytinegeacpohlcaa.superTells
open Go.ChangeShapes Go.WideShapes Go.ChangeAt Go.RowKit
open Go.ChangeMaps (open_string shut_string)

theorem eqRef (s t : Su) (w : World) : (Op.equalIn 10000 32 (supV s) (supV t)).run Try.prog w = .ok (decide (s = t)) w := by
  obtain ⟨uu, ev, role, c, k, r, cl, b, nw, g⟩ := s
  obtain ⟨uu', ev', role', c', k', r', cl', b', nw', g'⟩ := t
  unfold supV
  rw [run_equalIn_struct w 9999 32 _ _ (by kernel_rfl) (by kernel_rfl)]
  go_simp
  by_cases h : uu = uu'
  case neg => have h' : ¬ (uu : Int) = uu' := by omega
              simp [h, h']
  subst h
  by_cases h : ev = ev'
  case neg => have h' : ¬ (ev : Int) = ev' := by omega
              simp [h, h']
  subst h
  by_cases h : role = role'
  case neg => simp [h]
  subst h
  by_cases h : c = c'
  case neg => simp [h]
  subst h
  by_cases h : k = k'
  case neg => simp [h]
  subst h
  by_cases h : r = r'
  case neg => simp [h]
  subst h
  by_cases h : cl = cl'
  case neg => simp [h]
  subst h
  by_cases h : b = b'
  case neg => simp [h]
  subst h
  by_cases h : nw = nw'
  case neg => simp [h]
  subst h
  by_cases h : g = g'
  case neg => simp [h]
  subst h
  simp
/-- three superblocks' cells stay over a call that leaves what lay below -/
theorem det_three {P : Program} {f : FuncId} {args : Array Value} {v : Value} {wr W : World} {b b1 b2 B : Nat} {s x y : Su} (hB : B ≤ wr.heap.size) (h : Calls P f args W fun e w' => e = .returned v ∧ Below W.heap.size W w')
    (hW : SupAt W b 0 s ∧ SupAt W b1 0 x ∧ SupAt W b2 0 y ∧ Below B wr W) : Calls P f args W fun e w' => e = .returned v ∧ SupAt w' b 0 s ∧ SupAt w' b1 0 x ∧ SupAt w' b2 0 y ∧ Below B wr w' :=
  h.mono fun _ _ ⟨e, hb⟩ => ⟨e, hW.1.below hb hW.1.lt, hW.2.1.below hb hW.2.1.lt, hW.2.2.1.below hb hW.2.2.1.lt, hW.2.2.2.trans (hb.mono (Nat.le_trans hB hW.2.2.2.size))⟩

set_option maxRecDepth 100000 in
set_option maxHeartbeats 8000000 in
theorem walk_long (s : Su) (b : ByteArray) (h : 200 < b.size) (w : World) :
    Calls Try.prog 3 #[supV s, .string b] w fun e w' => e = .returned (.bool true) ∧ Below w.heap.size w w' := by
  have hl : (200 : Int) < (b.size : Int) := by omega
  obtain ⟨s0, s1, s2, s3, s4, s5, s6, s7, s8, s9⟩ := s
  unfold supV
  dsimp only
  clear h
  go_enter Try.func3, Try.ntmps3
  go_wp2_with fail
  refine (shown8_any _).mono ?_
  rintro e w1 ⟨rfl, hb1⟩
  have HB : Hid (Below w.heap.size w w1) := ((Below.refl w.heap.size w).alloc (Nat.le_refl _) _).trans (hb1.mono (by rw [World.size_alloc]; omega))
  clear hb1
  go_wp2
  go_ret
  exact ⟨rfl, HB.out⟩
set_option maxRecDepth 100000 in
set_option maxHeartbeats 8000000 in
theorem walk_short (s : Su) (hs : s.Wf) (b : ByteArray) (h : ¬ 200 < b.size) (w : World) :
    Calls Try.prog 3 #[supV s, .string b] w fun e w' => e = .returned (.bool true) ∧ Below w.heap.size w w' := by
  have hl : ¬ (200 : Int) < (b.size : Int) := by omega
  have hI : s.In := ⟨hs.uu, hs.ev, hs.c.2, hs.nw.2⟩
  have HE := fun W => Encode8_any s hI W
  have HF := fun W => rEncode8_any s hI W
  have HD := fun W => Decode8_any b W
  have HG := fun W => rDecode8_any b W
  have HM := fun W => May_any s hI.nw hI.c W
  have HN := fun W => rMay_any s W
  have HW := fun W => Whole_any s hI.nw hI.c W
  have HX := fun W => rWhole_any s W
  have HQ := eqRef (Sup.decS b) (Sup.decS b)
  rw [decide_eq_true rfl] at HQ
  generalize Sup.encT s = T at *
  generalize Sup.encE s = n at *
  generalize Sup.decS b = y at *
  generalize Sup.decE b = m at *
  generalize Sup.mayB s = p at *
  generalize Sup.wholeB s = q at *
  have HMX : Hid (Try.prog.follows .mixedOrders = true) := by show _ = _; kernel_rfl
  have HT : Hid _ := SupAt.new w s 26
  clear h hs hI
  obtain ⟨s0, s1, s2, s3, s4, s5, s6, s7, s8, s9⟩ := s
  obtain ⟨x0, x1, x2, x3, x4, x5, x6, x7, x8, x9⟩ := y
  unfold supV at *
  dsimp only at *
  go_enter Try.func3, Try.ntmps3
  go_wp2_with fail
  refine (shown8_any _).mono ?_
  rintro e w1 ⟨rfl, hb1⟩
  have HB1 : Hid (Below w.heap.size w w1) := ((Below.refl w.heap.size w).alloc (Nat.le_refl _) _).trans (hb1.mono (by rw [World.size_alloc]; omega))
  have HS1 : Hid (SupAt w1 w.heap.size 0 ⟨s0, s1, s2, s3, s4, s5, s6, s7, s8, s9⟩) := SupAt.below (show SupAt _ w.heap.size 0 ⟨s0, s1, s2, s3, s4, s5, s6, s7, s8, s9⟩ from HT.out) hb1 (by rw [World.size_alloc]; omega)
  obtain ⟨m0, m1, m2, m3, m4, m5, m6, m7, m8, m9⟩ := HS1.out
  simp only [Nat.zero_add] at m1 m2 m3 m4 m5 m6 m7 m8 m9
  clear hb1 HT
  go_wp2_with fail
  refine (HE _).mono ?_
  rintro e w2 ⟨rfl, hb2⟩
  have HB2 : Hid (Below w.heap.size w w2) := below2 HB1.out hb2
  have HS2 : Hid (SupAt w2 w.heap.size 0 ⟨s0, s1, s2, s3, s4, s5, s6, s7, s8, s9⟩) := SupAt.below HS1.out hb2 (SupAt.lt HS1.out)
  clear m0 m1 m2 m3 m4 m5 m6 m7 m8 m9 hb2 HB1 HS1
  obtain ⟨m0, m1, m2, m3, m4, m5, m6, m7, m8, m9⟩ := HS2.out
  simp only [Nat.zero_add] at m1 m2 m3 m4 m5 m6 m7 m8 m9
  go_wp2_with fail
  refine (HF _).mono ?_
  rintro e w3 ⟨rfl, hb3⟩
  have HB3 : Hid (Below w.heap.size w w3) := below2 HB2.out hb3
  have HS3 : Hid (SupAt w3 w.heap.size 0 ⟨s0, s1, s2, s3, s4, s5, s6, s7, s8, s9⟩) := SupAt.below HS2.out hb3 (SupAt.lt HS2.out)
  clear m0 m1 m2 m3 m4 m5 m6 m7 m8 m9 hb3 HB2 HS2
  go_wp2_with fail
  refine (HD _).mono ?_
  rintro e w4 ⟨rfl, hb4⟩
  have HB4 : Hid (Below w.heap.size w w4) := below2 HB3.out hb4
  have HS4 : Hid (SupAt w4 w.heap.size 0 ⟨s0, s1, s2, s3, s4, s5, s6, s7, s8, s9⟩) := SupAt.below HS3.out hb4 (SupAt.lt HS3.out)
  clear hb4 HB3 HS3
  have HX4 : Hid _ := SupAt.new w4 ⟨x0, x1, x2, x3, x4, x5, x6, x7, x8, x9⟩ 26
  go_wp2_with fail
  refine (HG _).mono ?_
  rintro e w5 ⟨rfl, hb5⟩
  have HB5 : Hid (Below w.heap.size w w5) := (HB4.out.alloc HB4.out.size _).trans (hb5.mono (by rw [World.size_alloc]; have := HB4.out.size; omega))
  have HS5 : Hid (SupAt w5 w.heap.size 0 ⟨s0, s1, s2, s3, s4, s5, s6, s7, s8, s9⟩) := SupAt.below (SupAt.below HS4.out ((Below.refl _ w4).alloc (Nat.le_refl _) _) (SupAt.lt HS4.out)) hb5 (by rw [World.size_alloc]; have := SupAt.lt HS4.out; omega)
  have HX5 : Hid (SupAt w5 w4.heap.size 0 ⟨x0, x1, x2, x3, x4, x5, x6, x7, x8, x9⟩) := SupAt.below (show SupAt _ w4.heap.size 0 ⟨x0, x1, x2, x3, x4, x5, x6, x7, x8, x9⟩ from HX4.out) hb5 (by rw [World.size_alloc]; omega)
  have HY5 : Hid (SupAt (w5.alloc (.cells #[.int .u64 (x0 : Int), .int .u64 (x1 : Int), .int .i64 x2, .int .i64 x3, .int .i64 x4, .int .i64 x5, .bool x6, .int .i64 x7, .int .i64 x8, .int .i64 x9] 32)) w5.heap.size 0 ⟨x0, x1, x2, x3, x4, x5, x6, x7, x8, x9⟩) := SupAt.new w5 ⟨x0, x1, x2, x3, x4, x5, x6, x7, x8, x9⟩ 32
  clear hb5 HB4 HS4 HX4
  generalize w4.heap.size = b1 at *
  go_wp2_with fail
  have HB6 : Hid (Below w.heap.size w (w5.alloc (.cells #[.int .u64 (x0 : Int), .int .u64 (x1 : Int), .int .i64 x2, .int .i64 x3, .int .i64 x4, .int .i64 x5, .bool x6, .int .i64 x7, .int .i64 x8, .int .i64 x9] 32))) := HB5.out.alloc HB5.out.size _
  have HS6 : Hid (SupAt (w5.alloc (.cells #[.int .u64 (x0 : Int), .int .u64 (x1 : Int), .int .i64 x2, .int .i64 x3, .int .i64 x4, .int .i64 x5, .bool x6, .int .i64 x7, .int .i64 x8, .int .i64 x9] 32)) w.heap.size 0 ⟨s0, s1, s2, s3, s4, s5, s6, s7, s8, s9⟩) := SupAt.below HS5.out ((Below.refl _ w5).alloc (Nat.le_refl _) _) (SupAt.lt HS5.out)
  have HX6 : Hid (SupAt (w5.alloc (.cells #[.int .u64 (x0 : Int), .int .u64 (x1 : Int), .int .i64 x2, .int .i64 x3, .int .i64 x4, .int .i64 x5, .bool x6, .int .i64 x7, .int .i64 x8, .int .i64 x9] 32)) b1 0 ⟨x0, x1, x2, x3, x4, x5, x6, x7, x8, x9⟩) := SupAt.below HX5.out ((Below.refl _ w5).alloc (Nat.le_refl _) _) (SupAt.lt HX5.out)
  clear HB5 HS5 HX5
  generalize (w5.alloc (.cells #[.int .u64 (x0 : Int), .int .u64 (x1 : Int), .int .i64 x2, .int .i64 x3, .int .i64 x4, .int .i64 x5, .bool x6, .int .i64 x7, .int .i64 x8, .int .i64 x9] 32)) = w6 at *
  generalize w5.heap.size = b2 at *
  refine region_det (fun W => (W.cell? ⟨w.heap.size, 0, none⟩ = some (.int .u64 (s0 : Int)) ∧ W.cell? ⟨w.heap.size, 1, none⟩ = some (.int .u64 (s1 : Int)) ∧ W.cell? ⟨w.heap.size, 2, none⟩ = some (.int .i64 s2) ∧ W.cell? ⟨w.heap.size, 3, none⟩ = some (.int .i64 s3) ∧ W.cell? ⟨w.heap.size, 4, none⟩ = some (.int .i64 s4) ∧ W.cell? ⟨w.heap.size, 5, none⟩ = some (.int .i64 s5) ∧ W.cell? ⟨w.heap.size, 6, none⟩ = some (.bool s6) ∧ W.cell? ⟨w.heap.size, 7, none⟩ = some (.int .i64 s7) ∧ W.cell? ⟨w.heap.size, 8, none⟩ = some (.int .i64 s8) ∧ W.cell? ⟨w.heap.size, 9, none⟩ = some (.int .i64 s9)) ∧ (W.cell? ⟨b1, 0, none⟩ = some (.int .u64 (x0 : Int)) ∧ W.cell? ⟨b1, 1, none⟩ = some (.int .u64 (x1 : Int)) ∧ W.cell? ⟨b1, 2, none⟩ = some (.int .i64 x2) ∧ W.cell? ⟨b1, 3, none⟩ = some (.int .i64 x3) ∧ W.cell? ⟨b1, 4, none⟩ = some (.int .i64 x4) ∧ W.cell? ⟨b1, 5, none⟩ = some (.int .i64 x5) ∧ W.cell? ⟨b1, 6, none⟩ = some (.bool x6) ∧ W.cell? ⟨b1, 7, none⟩ = some (.int .i64 x7) ∧ W.cell? ⟨b1, 8, none⟩ = some (.int .i64 x8) ∧ W.cell? ⟨b1, 9, none⟩ = some (.int .i64 x9)) ∧ (W.cell? ⟨b2, 0, none⟩ = some (.int .u64 (x0 : Int)) ∧ W.cell? ⟨b2, 1, none⟩ = some (.int .u64 (x1 : Int)) ∧ W.cell? ⟨b2, 2, none⟩ = some (.int .i64 x2) ∧ W.cell? ⟨b2, 3, none⟩ = some (.int .i64 x3) ∧ W.cell? ⟨b2, 4, none⟩ = some (.int .i64 x4) ∧ W.cell? ⟨b2, 5, none⟩ = some (.int .i64 x5) ∧ W.cell? ⟨b2, 6, none⟩ = some (.bool x6) ∧ W.cell? ⟨b2, 7, none⟩ = some (.int .i64 x7) ∧ W.cell? ⟨b2, 8, none⟩ = some (.int .i64 x8) ∧ W.cell? ⟨b2, 9, none⟩ = some (.int .i64 x9)) ∧ Below w6.heap.size w6 W) HMX.out (by kernel_rfl) ⟨HS6.out, HX6.out, HY5.out, (Below.refl _ _).drew⟩ ?_
  refine det_read 0 (v := ?vx1) rfl (by kernel_rfl) rfl ?hyx1 ?restx1
  case hyx1 => (intro wS hSw; (try dsimp only at hSw); go_simp; try with_reducible rfl)
  try simp only [Act.put, List.setIfInBounds_toArray, List.set_cons_zero, List.set_cons_succ]
  refine det_read 1 (v := ?vx2) rfl (by kernel_rfl) rfl ?hyx2 ?restx2
  case hyx2 => (intro wS hSw; (try dsimp only at hSw); go_simp; try with_reducible rfl)
  try simp only [Act.put, List.setIfInBounds_toArray, List.set_cons_zero, List.set_cons_succ]
  refine det_read 2 (v := ?vx3) rfl (by kernel_rfl) rfl ?hyx3 ?restx3
  case hyx3 => (intro wS hSw; (try dsimp only at hSw); go_simp; try with_reducible rfl)
  try simp only [Act.put, List.setIfInBounds_toArray, List.set_cons_zero, List.set_cons_succ]
  refine det_read 3 (v := ?vx4) rfl (by kernel_rfl) rfl ?hyx4 ?restx4
  case hyx4 => (intro wS hSw; (try dsimp only at hSw); go_simp; try with_reducible rfl)
  try simp only [Act.put, List.setIfInBounds_toArray, List.set_cons_zero, List.set_cons_succ]
  refine det_read 4 (v := ?vx5) rfl (by kernel_rfl) rfl ?hyx5 ?restx5
  case hyx5 => (intro wS hSw; (try dsimp only at hSw); go_simp; try with_reducible rfl)
  try simp only [Act.put, List.setIfInBounds_toArray, List.set_cons_zero, List.set_cons_succ]
  refine det_read 5 (v := ?vx6) rfl (by kernel_rfl) rfl ?hyx6 ?restx6
  case hyx6 => (intro wS hSw; (try dsimp only at hSw); go_simp; try with_reducible rfl)
  try simp only [Act.put, List.setIfInBounds_toArray, List.set_cons_zero, List.set_cons_succ]
  refine det_read 6 (v := ?vx7) rfl (by kernel_rfl) rfl ?hyx7 ?restx7
  case hyx7 => (intro wS hSw; (try dsimp only at hSw); go_simp; try with_reducible rfl)
  try simp only [Act.put, List.setIfInBounds_toArray, List.set_cons_zero, List.set_cons_succ]
  refine det_read 7 (v := ?vx8) rfl (by kernel_rfl) rfl ?hyx8 ?restx8
  case hyx8 => (intro wS hSw; (try dsimp only at hSw); go_simp; try with_reducible rfl)
  try simp only [Act.put, List.setIfInBounds_toArray, List.set_cons_zero, List.set_cons_succ]
  refine det_read 8 (v := ?vx9) rfl (by kernel_rfl) rfl ?hyx9 ?restx9
  case hyx9 => (intro wS hSw; (try dsimp only at hSw); go_simp; try with_reducible rfl)
  try simp only [Act.put, List.setIfInBounds_toArray, List.set_cons_zero, List.set_cons_succ]
  refine det_read 9 (v := ?vx10) rfl (by kernel_rfl) rfl ?hyx10 ?restx10
  case hyx10 => (intro wS hSw; (try dsimp only at hSw); go_simp; try with_reducible rfl)
  try simp only [Act.put, List.setIfInBounds_toArray, List.set_cons_zero, List.set_cons_succ]
  refine det_read 10 (v := ?vx11) rfl (by kernel_rfl) rfl ?hyx11 ?restx11
  case hyx11 => (intro wS hSw; (try dsimp only at hSw); go_simp; try with_reducible rfl)
  try simp only [Act.put, List.setIfInBounds_toArray, List.set_cons_zero, List.set_cons_succ]
  refine det_read 11 (v := ?vx12) rfl (by kernel_rfl) rfl ?hyx12 ?restx12
  case hyx12 => (intro wS hSw; (try dsimp only at hSw); go_simp; try with_reducible rfl)
  try simp only [Act.put, List.setIfInBounds_toArray, List.set_cons_zero, List.set_cons_succ]
  refine det_read 12 (v := ?vx13) rfl (by kernel_rfl) rfl ?hyx13 ?restx13
  case hyx13 => (intro wS hSw; (try dsimp only at hSw); go_simp; try with_reducible rfl)
  try simp only [Act.put, List.setIfInBounds_toArray, List.set_cons_zero, List.set_cons_succ]
  refine det_read 13 (v := ?vx14) rfl (by kernel_rfl) rfl ?hyx14 ?restx14
  case hyx14 => (intro wS hSw; (try dsimp only at hSw); go_simp; try with_reducible rfl)
  try simp only [Act.put, List.setIfInBounds_toArray, List.set_cons_zero, List.set_cons_succ]
  refine det_read 14 (v := ?vx15) rfl (by kernel_rfl) rfl ?hyx15 ?restx15
  case hyx15 => (intro wS hSw; (try dsimp only at hSw); go_simp; try with_reducible rfl)
  try simp only [Act.put, List.setIfInBounds_toArray, List.set_cons_zero, List.set_cons_succ]
  refine det_read 15 (v := ?vx16) rfl (by kernel_rfl) rfl ?hyx16 ?restx16
  case hyx16 => (intro wS hSw; (try dsimp only at hSw); go_simp; try with_reducible rfl)
  try simp only [Act.put, List.setIfInBounds_toArray, List.set_cons_zero, List.set_cons_succ]
  refine det_read 16 (v := ?vx17) rfl (by kernel_rfl) rfl ?hyx17 ?restx17
  case hyx17 => (intro wS hSw; (try dsimp only at hSw); go_simp; try with_reducible rfl)
  try simp only [Act.put, List.setIfInBounds_toArray, List.set_cons_zero, List.set_cons_succ]
  refine det_read 17 (v := ?vx18) rfl (by kernel_rfl) rfl ?hyx18 ?restx18
  case hyx18 => (intro wS hSw; (try dsimp only at hSw); go_simp; try with_reducible rfl)
  try simp only [Act.put, List.setIfInBounds_toArray, List.set_cons_zero, List.set_cons_succ]
  refine det_read 18 (v := ?vx19) rfl (by kernel_rfl) rfl ?hyx19 ?restx19
  case hyx19 => (intro wS hSw; (try dsimp only at hSw); go_simp; try with_reducible rfl)
  try simp only [Act.put, List.setIfInBounds_toArray, List.set_cons_zero, List.set_cons_succ]
  refine det_read 19 (v := ?vx20) rfl (by kernel_rfl) rfl ?hyx20 ?restx20
  case hyx20 => (intro wS hSw; (try dsimp only at hSw); go_simp; try with_reducible rfl)
  try simp only [Act.put, List.setIfInBounds_toArray, List.set_cons_zero, List.set_cons_succ]
  refine det_call 20 rfl (by kernel_rfl) rfl ?hyx30 (fun W h => det_three (s := ⟨s0, s1, s2, s3, s4, s5, s6, s7, s8, s9⟩) (x := ⟨x0, x1, x2, x3, x4, x5, x6, x7, x8, x9⟩) (y := ⟨x0, x1, x2, x3, x4, x5, x6, x7, x8, x9⟩) (Nat.le_refl _) (HM W) h) ?restx30
  case hyx30 => (intro wS hSw; go_simp; try with_reducible rfl)
  try simp only [Act.put, List.setIfInBounds_toArray, List.set_cons_zero, List.set_cons_succ]
  refine det_read 21 (v := ?vx21) rfl (by kernel_rfl) rfl ?hyx21 ?restx21
  case hyx21 => (intro wS hSw; (try dsimp only at hSw); go_simp; try with_reducible rfl)
  try simp only [Act.put, List.setIfInBounds_toArray, List.set_cons_zero, List.set_cons_succ]
  refine det_call 22 rfl (by kernel_rfl) rfl ?hyx31 (fun W h => det_three (s := ⟨s0, s1, s2, s3, s4, s5, s6, s7, s8, s9⟩) (x := ⟨x0, x1, x2, x3, x4, x5, x6, x7, x8, x9⟩) (y := ⟨x0, x1, x2, x3, x4, x5, x6, x7, x8, x9⟩) (Nat.le_refl _) (HN W) h) ?restx31
  case hyx31 => (intro wS hSw; go_simp; try with_reducible rfl)
  try simp only [Act.put, List.setIfInBounds_toArray, List.set_cons_zero, List.set_cons_succ]
  refine det_read 23 (v := ?vx22) rfl (by kernel_rfl) rfl ?hyx22 ?restx22
  case hyx22 => (intro wS hSw; (try dsimp only at hSw); go_simp; try with_reducible rfl)
  try simp only [Act.put, List.setIfInBounds_toArray, List.set_cons_zero, List.set_cons_succ]
  refine det_read 24 (v := ?vx23) rfl (by kernel_rfl) rfl ?hyx23 ?restx23
  case hyx23 => (intro wS hSw; (try dsimp only at hSw); go_simp; try with_reducible rfl)
  try simp only [Act.put, List.setIfInBounds_toArray, List.set_cons_zero, List.set_cons_succ]
  refine det_read 25 (v := ?vx24) rfl (by kernel_rfl) rfl ?hyx24 ?restx24
  case hyx24 => (intro wS hSw; (try dsimp only at hSw); go_simp; try with_reducible rfl)
  try simp only [Act.put, List.setIfInBounds_toArray, List.set_cons_zero, List.set_cons_succ]
  refine det_read 26 (v := ?vx25) rfl (by kernel_rfl) rfl ?hyx25 ?restx25
  case hyx25 => (intro wS hSw; (try dsimp only at hSw); go_simp; try with_reducible rfl)
  try simp only [Act.put, List.setIfInBounds_toArray, List.set_cons_zero, List.set_cons_succ]
  refine det_call 27 rfl (by kernel_rfl) rfl ?hyx32 (fun W h => det_three (s := ⟨s0, s1, s2, s3, s4, s5, s6, s7, s8, s9⟩) (x := ⟨x0, x1, x2, x3, x4, x5, x6, x7, x8, x9⟩) (y := ⟨x0, x1, x2, x3, x4, x5, x6, x7, x8, x9⟩) (Nat.le_refl _) (HW W) h) ?restx32
  case hyx32 => (intro wS hSw; go_simp; try with_reducible rfl)
  try simp only [Act.put, List.setIfInBounds_toArray, List.set_cons_zero, List.set_cons_succ]
  refine det_read 28 (v := ?vx26) rfl (by kernel_rfl) rfl ?hyx26 ?restx26
  case hyx26 => (intro wS hSw; (try dsimp only at hSw); go_simp; try with_reducible rfl)
  try simp only [Act.put, List.setIfInBounds_toArray, List.set_cons_zero, List.set_cons_succ]
  refine det_call 29 rfl (by kernel_rfl) rfl ?hyx33 (fun W h => det_three (s := ⟨s0, s1, s2, s3, s4, s5, s6, s7, s8, s9⟩) (x := ⟨x0, x1, x2, x3, x4, x5, x6, x7, x8, x9⟩) (y := ⟨x0, x1, x2, x3, x4, x5, x6, x7, x8, x9⟩) (Nat.le_refl _) (HX W) h) ?restx33
  case hyx33 => (intro wS hSw; go_simp; try with_reducible rfl)
  try simp only [Act.put, List.setIfInBounds_toArray, List.set_cons_zero, List.set_cons_succ]
  refine det_read 30 (v := ?vx27) rfl (by kernel_rfl) rfl ?hyx27 ?restx27
  case hyx27 => (intro wS hSw; (try dsimp only at hSw); go_simp; try with_reducible rfl)
  try simp only [Act.put, List.setIfInBounds_toArray, List.set_cons_zero, List.set_cons_succ]
  refine det_read 31 (v := ?vx28) rfl (by kernel_rfl) rfl ?hyx28 ?restx28
  case hyx28 => (intro wS hSw; (try dsimp only at hSw); go_simp; try with_reducible rfl)
  try simp only [Act.put, List.setIfInBounds_toArray, List.set_cons_zero, List.set_cons_succ]
  refine det_read 32 (v := ?vx29) rfl (by kernel_rfl) rfl ?hyx29 ?restx29
  case hyx29 => (intro wS hSw; (try dsimp only at hSw); go_simp; try with_reducible rfl)
  try simp only [Act.put, List.setIfInBounds_toArray, List.set_cons_zero, List.set_cons_succ]
  refine det_done (by kernel_rfl) ?_
  intro W hW
  have HB7 : Hid (Below w.heap.size w W) := below2 HB6.out hW.2.2.2
  clear hW
  go_wp2
  go_ret
  exact ⟨rfl, HB7.out⟩
theorem walk (w : World) (s : Su) (hs : s.Wf) (b : ByteArray) (_hb : b.size ≤ maxLen) :
    Calls Try.prog 3 #[supV s, .string b] w fun e w' => e = .returned (.bool true) ∧ Below w.heap.size w w' := by
  by_cases h : 200 < b.size
  · exact walk_long s b h w
  · exact walk_short s hs b h w

theorem own : ownKnob Try.prog.godebug = none := by kernel_rfl
theorem laidOut : laidOutB Try.prog = true := by kernel_rfl
set_option linter.unusedVariables false in
set_option maxRecDepth 100000 in
theorem lifted (os : Os) (started : os.Started) (H : Type) (enc : TypeId × Value → H) :
    ReturnsInHanded {} Try.checked os 3 .any (Rows.superTellsSpec.pre6 enc Try.prog Try.f3 Rows.superTellsRow.domain false) (Rows.superTellsSpec.post enc Try.prog Try.f3 false true false false) := by
  refine returnsInHanded_of_change (C := Try.checked) own started (by kernel_rfl) Try.func3
    (ChangeSpec.witness6 (enc := enc) (C := Try.checked) false ⟨#[], #[.agg #[.int .u64 0, .int .u64 0, .int .i64 0, .int .i64 0, .int .i64 0, .int .i64 0, .bool false, .int .i64 0, .int .i64 0, .int .i64 0], .string ByteArray.empty], []⟩ 8 (by kernel_rfl) (by kernel_rfl) (by kernel_rfl) (by kernel_rfl)) ?_
  intro W base args ds gs before hval0 hW hcnd _
  have hval : ∀ (j : Nat) t v, Try.f3.params[j]? = some t → args[j]? = some v → Value.okWide Try.prog W .any base t v := hval0
  have hW' := hW
  obtain ⟨p, q, hA0, hV, rfl, hfz, hnd⟩ := hW
  have hA : DataW.TrodAll enc Try.prog W 0 (fun _ => true) true Try.f3.params.toList args.toList ds p := hA0
  rw [Try.params3] at hA hval
  obtain ⟨v0, vs0, d0, ds0, p0, q0, hargs, rfl, rfl, h0, r0⟩ := trodAll_cons hA
  obtain ⟨v1, vs1, d1, ds1, p1, q1, rfl, rfl, rfl, h1, r1⟩ := trodAll_cons r0
  obtain ⟨rfl, rfl, rfl⟩ := trodAll_nil r1
  obtain rfl : args = #[v0, v1] := by cases args; simp_all
  obtain ⟨rfl, rfl⟩ := trodVars_none hV
  obtain ⟨s0, rfl, w0⟩ := open_sup (hval 0 26 v0 rfl rfl) h0
  have k0 := h0
  have lt0 : ∀ x ∈ p0, x.block < W.heap.size := by obtain ⟨m, hm⟩ := k0; exact DataW.trod_lt m _ _ _ hm
  obtain ⟨a1, rfl, rfl, rfl, w1⟩ := open_string Try.underlying9 (hval 1 9 v1 rfl rfl) h1
  clear hA0 hval0
  simp only [List.append_nil] at hW'
  refine (walk W s0 w0 a1 w1).mono fun e W' ⟨he, hg⟩ => ?_
  subst he
  exact ⟨_, rfl, _, _, _, [], _, [], hW', trodAll_mk1 (shut_bool Try.underlying4 _), (trodAll_cons_mk (Below.trod laidOut (by kernel_rfl) (of_decide_eq_true (by kernel_rfl)) k0 hg lt0) (trodAll_cons_mk (shut_string Try.underlying9 w1) trodAll_mk0)), rfl, hg.frame _, fun h => by cases h⟩
/-- For every input the law returns true, and each argument reads as it did. -/
theorem proved : Rows.SuperTellsSaid :=
  OpenClaim.holds_of_wide 3 Try.f3 rfl rfl rfl rfl rfl rfl rfl ⟨rfl, rfl, rfl, rfl, rfl⟩ rfl rfl rfl rfl rfl (by kernel_rfl) Try.func3 (by kernel_rfl)
    (of_decide_eq_true (by kernel_rfl)) (by unfold Func.isWrapper; first | (rw [if_pos (by decide +kernel)]; kernel_rfl) | (rw [if_neg (by decide +kernel)]; exact ⟨rfl, rfl⟩))
    (fun os started H enc _ => lifted os started H enc)
end Go.Proofs.Ytinegeacpohlcaa.superTells
