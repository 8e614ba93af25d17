/- For all columns and three numbers the law RefillGood returns true: a row of which two columns were lost is good when it is filled, and what is not lost stays (up to the law's own bound on lengths; beyond it the law says nothing). No condition. -/
import Derived.Test.YtjephdeolifbpaaRf06Square
import Derived.Test.YtjephdeolifbpaaRef05Sum
import Derived.Test.YtjephdeolifbpaaRfRows
import Derived.Test.YtjephdeolifbpaaRef06Same
import Derived.Test.YtjephdeolifbpaaSynOne
import Derived.Test.YtjephdeolifbpaaKitJoin
import Derived.Test.YtjephdeolifbpaaKitDet
import Derived.ProofKit
import Derived.OpenShut
import Derived.ShutString
import Derived.ChangeOld
import Derived.Below
namespace Go.Proofs.Ytjephdeolifbpaa.refillGood
open Go.ChangeShapes Go.WideShapes Go.ChangeAt Go.RowKit
open Go.ChangeMaps (open_string shut_string)

set_option maxRecDepth 100000 in
set_option maxHeartbeats 8000000 in
theorem core_apart (w : World) (a0 : Option Addr) (n0 cap0 : Nat) (f : Nat → ByteArray) (hr0 : RowS w a0 n0 f) (hm0 : n0 ≤ maxLen) (hsz0 : ∀ j, (f j).size ≤ maxLen) (k a b : Nat) (N A B : Nat) (hk : k < 256) (hNk : 4 + k % 7 = N) (ha256 : a < 256) (hb256 : b < 256) (hA : A < N) (hB : B < N) (hAB : A ≠ B) (ha : a % N = A) (hb : b % N = B) :
    Calls Try.prog 5 #[.slice a0 n0 cap0, .int .u8 k, .int .u8 a, .int .u8 b] w fun e w' => e = .returned (.bool true) ∧ Below w.heap.size w w' := by
  have HY := heavy6_any w a0 n0 cap0 f hr0 hsz0 hm0 none 0 0 (by decide)
  obtain ⟨r, hr⟩ : ∃ r : Nat, r = k % 7 := ⟨_, rfl⟩
  have hr7 : r < 7 := by omega
  have hrm : (k : Int).tmod 7 = (r : Int) := by rw [hr, Int.tmod_eq_emod_of_nonneg (by omega)]; omega
  have m1 : (a : Int).tmod (N : Int) = (A : Int) := by rw [Int.tmod_eq_emod_of_nonneg (by omega), ← ha]; omega
  have m2 : (b : Int).tmod (N : Int) = (B : Int) := by rw [Int.tmod_eq_emod_of_nonneg (by omega), ← hb]; omega
  have m3 : ((A : Int) == (B : Int)) = false := by rw [beq_eq_false_iff_ne]; omega
  have e1 : (4 : Int) + (r : Int) = (N : Int) := by omega
  have hN10 : N ≤ 10 := by omega
  have hN4 : 4 ≤ N := by omega
  clear hsz0 hm0 hr hNk ha hb
  go_enter Try.func5, Try.ntmps5
  go_wp2_with fail
  refine HY.mono ?_
  rintro e w' ⟨hw, h⟩
  subst w'
  clear HY
  rcases h with rfl | ⟨rfl, hL⟩
  · go_wp2_with fail
    refine (shown6_any _).mono ?_
    rintro e w1 ⟨rfl, b1⟩
    go_wp2
    go_ret
    exact ⟨rfl, b1⟩
  · have hn20 := hL.1
    have hF0 := hL.fits
    obtain ⟨m, HN⟩ : ∃ m, Hid (N = m + 2) := ⟨N - 2, by show _ = _; omega⟩
    have m2' : 2 ≤ m := by have := HN.out; omega
    have m8 : m ≤ 8 := by have := HN.out; omega
    clear hL
    go_wp2_with fail
    refine (shown6_any _).mono ?_
    rintro e w1 ⟨rfl, b1⟩
    have hQ := square_any n0 f (by omega) a0 cap0 N (by omega) hF0 w1 (hr0.below b1)
    go_wp2_with fail
    refine hQ.mono ?_
    rintro e w2 ⟨⟨gR, cR, rfl, own⟩, b2⟩
    obtain ⟨_, _, er, rr, hcR, _⟩ := RowS.of_owns own
    cases er
    have b2 := below2 b1 b2
    obtain ⟨F, hFe⟩ : ∃ F, sqF n0 f = F := ⟨_, rfl⟩
    have FS : ∀ i, (F i).size = 12 := fun i => by rw [← hFe]; exact sqF_size n0 f i
    have FF : ∀ q, Fits 1048576 q F := fun q i _ => by rw [FS]; decide
    rw [hFe] at rr
    clear own hQ hFe hr0 hF0
    obtain ⟨L1, hL1⟩ : ∃ L1 : Nat → Int, L1 = fun i => [(A : Int), (B : Int)].getD i 0 := ⟨_, rfl⟩
    have l0 : L1 0 = (A : Int) := by rw [hL1]; rfl
    have l1 : L1 1 = (B : Int) := by rw [hL1]; rfl
    have z1 : Rf.Lost m 2 L1 := Rf.Lost.pair (by omega) (by have := HN.out; omega) (by have := HN.out; omega) hAB L1 l0 l1
    have y1 : Rf.mayF N F 2 L1 = 0 := by rw [HN.out]; exact Rf.mayF_fine z1 m2' m8 (show 12 ≤ 4096 by decide) fun i _ _ => FS i
    have rl : RowI .i64 (w2.alloc (.cells #[.int .i64 (A : Int), .int .i64 (B : Int)] 3)) (some ⟨w2.heap.size, 0, none⟩) 2 L1 := by
      have h := RowI.new .i64 w2 [(A : Int), (B : Int)] #[.int .i64 (A : Int), .int .i64 (B : Int)] 3 rfl
      rw [hL1]; exact h
    have al2 : Below w2.heap.size w2 (w2.alloc (.cells #[.int .i64 (A : Int), .int .i64 (B : Int)] 3)) := (Below.refl _ w2).alloc (Nat.le_refl _) _
    have h3 := Fill_says N F (by omega) (FF N) (some ⟨gR, 0, none⟩) cR hcR 2 L1 (by omega) (some ⟨w2.heap.size, 0, none⟩) 2 (Nat.le_refl _) _ (rr.below al2) rl
    unfold FillSays at h3
    rw [y1, Rf.kF_ok] at h3
    have GOODF : Hid (goodF m (Rf.fillF N F 2 L1) = true) := by
      show _ = _; rw [HN.out]; exact Rf.good_bytes fun t => Rf.fillF_two z1 rfl (by omega) (fun i _ _ => FS i) t
    have SIZES : Hid (∀ i, (Rf.fillF N F 2 L1 i).size = 12) := fun i => by
      have e := Rf.szF_same (f := F) (s := 12) z1 (by omega) fun i _ _ => FS i
      rw [← HN.out] at e; exact Rf.fillF_size e i
    have KEPT : Hid (∀ i, i < N → i ≠ A → i ≠ B → Rf.fillF N F 2 L1 i = F i) := fun i hi h1 h2 => by
      rw [HN.out] at hi ⊢; exact Rf.fillF_keeps z1 (by omega) (fun i _ _ => FS i) hi ((Rf.has_pair l0 l1).2 ⟨h1, h2⟩)
    obtain ⟨G, hG⟩ : ∃ G, Rf.fillF N F 2 L1 = G := ⟨_, rfl⟩
    rw [hG] at h3 GOODF SIZES KEPT
    clear y1 rl hL1 l0 l1 z1 hG
    go_wp2_with fail
    refine h3.mono ?_
    rintro e w3 ⟨⟨g3, c3, rfl, r3, hc3⟩, b3⟩
    have b3 : Below w2.heap.size w2 w3 := al2.trans (b3.mono al2.size)
    have rr3 := rr.below b3
    have b3 := below2 b2 b3
    have hGood := refGood_some m G (by omega) (fun i _ => by rw [SIZES.out]; decide) g3 c3 (by have := HN.out; omega) w3 (by rw [← HN.out]; exact r3)
    rw [GOODF.out, ← HN.out] at hGood
    clear h3 al2 GOODF
    go_wp2_with fail
    refine hGood.mono ?_
    rintro e w4 ⟨rfl, b4⟩
    have R3 : Hid (RowS w4 g3 N G) := r3.below b4
    have RR : Hid (RowS w4 (some ⟨gR, 0, none⟩) N F) := rr3.below b4
    have B4 : Hid (Below w.heap.size w w4) := below2 b3 b4
    have FSZ : Hid (∀ i, (F i).size = 12) := FS
    have HMX : Hid (Try.prog.follows .mixedOrders = true) := by show _ = _; kernel_rfl
    clear r3 rr rr3 b1 b2 b3 b4 hGood FS FF
    go_wp2
    go_loopg [15] N (fun gg u wr => ∃ j : Nat, j ≤ N ∧ gg = N - j ∧ u = .int .i64 j ∧ Below w4.heap.size w4 wr)
    case atStart => exact ⟨0, Nat.zero_le _, rfl, rfl, Below.refl _ _⟩
    case round =>
      obtain ⟨j, hj, rfl, rfl, hb⟩ := hrel
      have HB : Hid (Below w4.heap.size w4 wr) := hb
      have hsz := hb.size
      clear hb
      by_cases hjN : j < N
      · obtain ⟨g0, o0, rfl, hc0⟩ := R3.out j hjN
        have hc0 := keep_one HB.out hc0
        have hc1 := keep_one HB.out (RR.out.at hjN)
        rw [Nat.zero_add] at hc1
        have hz := SIZES.out j
        have hKj := KEPT.out j hjN
        obtain ⟨x, hx⟩ : ∃ x, G j = x := ⟨_, rfl⟩
        obtain ⟨y, hy⟩ : ∃ y, F j = y := ⟨_, rfl⟩
        rw [hx] at hc0 hz hKj
        rw [hy] at hc1 hKj
        have hz9 : ((x.size : Int) != 12) = false := by rw [bne_eq_false_iff_eq]; omega
        have hS0 : wr.cell? ⟨g0, o0 + j, none⟩ = some (.string x) ∧ wr.cell? ⟨gR, j, none⟩ = some (.string y) ∧ Below wr.heap.size wr wr.drew := ⟨hc0, hc1, (Below.refl _ _).drew⟩
        clear hx hy
        by_cases jA : j = A
        · have q1 : ((j : Int) != (A : Int)) = false := by rw [bne_eq_false_iff_eq]; omega
          clear hKj jA
          go_wp2_with fail
          refine region_det (fun W => W.cell? ⟨g0, o0 + j, none⟩ = some (.string x) ∧ W.cell? ⟨gR, j, none⟩ = some (.string y) ∧ Below wr.heap.size wr W) HMX.out (by kernel_rfl) hS0 ?_
          refine det_read 0 (v := ?vx1) rfl (by kernel_rfl) rfl ?hyx1 ?restx1
          case hyx1 => (intro wS hSw; (try dsimp only at hSw); go_simp; try with_reducible rfl)
          try simp only [Act.put, List.setIfInBounds_toArray, List.set_cons_zero, List.set_cons_succ]
          refine det_read 1 (v := ?vx2) rfl (by kernel_rfl) rfl ?hyx2 ?restx2
          case hyx2 => (intro wS hSw; (try dsimp only at hSw); go_simp; try with_reducible rfl)
          try simp only [Act.put, List.setIfInBounds_toArray, List.set_cons_zero, List.set_cons_succ]
          refine det_read 2 (v := ?vx3) rfl (by kernel_rfl) rfl ?hyx3 ?restx3
          case hyx3 => (intro wS hSw; (try dsimp only at hSw); go_simp; try with_reducible rfl)
          try simp only [Act.put, List.setIfInBounds_toArray, List.set_cons_zero, List.set_cons_succ]
          refine det_read 3 (v := ?vx4) rfl (by kernel_rfl) rfl ?hyx4 ?restx4
          case hyx4 => (intro wS hSw; (try dsimp only at hSw); go_simp; try with_reducible rfl)
          try simp only [Act.put, List.setIfInBounds_toArray, List.set_cons_zero, List.set_cons_succ]
          refine det_skip 4 rfl (by kernel_rfl) rfl ?restx121
          try simp only [Act.put, List.setIfInBounds_toArray, List.set_cons_zero, List.set_cons_succ]
          refine det_skip 5 rfl (by kernel_rfl) rfl ?restx122
          try simp only [Act.put, List.setIfInBounds_toArray, List.set_cons_zero, List.set_cons_succ]
          refine det_skip 6 rfl (by kernel_rfl) rfl ?restx123
          try simp only [Act.put, List.setIfInBounds_toArray, List.set_cons_zero, List.set_cons_succ]
          refine det_read 7 (v := ?vx5) rfl (by kernel_rfl) rfl ?hyx5 ?restx5
          case hyx5 => (intro wS hSw; (try dsimp only at hSw); go_simp; try with_reducible rfl)
          try simp only [Act.put, List.setIfInBounds_toArray, List.set_cons_zero, List.set_cons_succ]
          refine det_read 8 (v := ?vx6) rfl (by kernel_rfl) rfl ?hyx6 ?restx6
          case hyx6 => (intro wS hSw; (try dsimp only at hSw); go_simp; try with_reducible rfl)
          try simp only [Act.put, List.setIfInBounds_toArray, List.set_cons_zero, List.set_cons_succ]
          refine det_skip 9 rfl (by kernel_rfl) rfl ?restx124
          try simp only [Act.put, List.setIfInBounds_toArray, List.set_cons_zero, List.set_cons_succ]
          refine det_skip 10 rfl (by kernel_rfl) rfl ?restx125
          try simp only [Act.put, List.setIfInBounds_toArray, List.set_cons_zero, List.set_cons_succ]
          refine det_skip 11 rfl (by kernel_rfl) rfl ?restx126
          try simp only [Act.put, List.setIfInBounds_toArray, List.set_cons_zero, List.set_cons_succ]
          refine det_skip 12 rfl (by kernel_rfl) rfl ?restx127
          try simp only [Act.put, List.setIfInBounds_toArray, List.set_cons_zero, List.set_cons_succ]
          refine det_skip 13 rfl (by kernel_rfl) rfl ?restx128
          try simp only [Act.put, List.setIfInBounds_toArray, List.set_cons_zero, List.set_cons_succ]
          refine det_skip 14 rfl (by kernel_rfl) rfl ?restx129
          try simp only [Act.put, List.setIfInBounds_toArray, List.set_cons_zero, List.set_cons_succ]
          refine det_skip 15 rfl (by kernel_rfl) rfl ?restx130
          try simp only [Act.put, List.setIfInBounds_toArray, List.set_cons_zero, List.set_cons_succ]
          refine det_skip 16 rfl (by kernel_rfl) rfl ?restx131
          try simp only [Act.put, List.setIfInBounds_toArray, List.set_cons_zero, List.set_cons_succ]
          refine det_skip 17 rfl (by kernel_rfl) rfl ?restx132
          try simp only [Act.put, List.setIfInBounds_toArray, List.set_cons_zero, List.set_cons_succ]
          refine det_read 18 (v := ?vx7) rfl (by kernel_rfl) rfl ?hyx7 ?restx7
          case hyx7 => (intro wS hSw; (try dsimp only at hSw); go_simp; try with_reducible rfl)
          try simp only [Act.put, List.setIfInBounds_toArray, List.set_cons_zero, List.set_cons_succ]
          refine det_read 19 (v := ?vx8) rfl (by kernel_rfl) rfl ?hyx8 ?restx8
          case hyx8 => (intro wS hSw; (try dsimp only at hSw); go_simp; try with_reducible rfl)
          try simp only [Act.put, List.setIfInBounds_toArray, List.set_cons_zero, List.set_cons_succ]
          refine det_read 20 (v := ?vx9) rfl (by kernel_rfl) rfl ?hyx9 ?restx9
          case hyx9 => (intro wS hSw; (try dsimp only at hSw); go_simp; try with_reducible rfl)
          try simp only [Act.put, List.setIfInBounds_toArray, List.set_cons_zero, List.set_cons_succ]
          refine det_read 21 (v := ?vx10) rfl (by kernel_rfl) rfl ?hyx10 ?restx10
          case hyx10 => (intro wS hSw; (try dsimp only at hSw); go_simp; try with_reducible rfl)
          try simp only [Act.put, List.setIfInBounds_toArray, List.set_cons_zero, List.set_cons_succ]
          refine det_read 22 (v := ?vx11) rfl (by kernel_rfl) rfl ?hyx11 ?restx11
          case hyx11 => (intro wS hSw; (try dsimp only at hSw); go_simp; try with_reducible rfl)
          try simp only [Act.put, List.setIfInBounds_toArray, List.set_cons_zero, List.set_cons_succ]
          refine det_read 23 (v := ?vx12) rfl (by kernel_rfl) rfl ?hyx12 ?restx12
          case hyx12 => (intro wS hSw; (try dsimp only at hSw); go_simp; try with_reducible rfl)
          try simp only [Act.put, List.setIfInBounds_toArray, List.set_cons_zero, List.set_cons_succ]
          refine det_read 24 (v := ?vx13) rfl (by kernel_rfl) rfl ?hyx13 ?restx13
          case hyx13 => (intro wS hSw; (try dsimp only at hSw); go_simp; try with_reducible rfl)
          try simp only [Act.put, List.setIfInBounds_toArray, List.set_cons_zero, List.set_cons_succ]
          refine det_read 25 (v := ?vx14) rfl (by kernel_rfl) rfl ?hyx14 ?restx14
          case hyx14 => (intro wS hSw; (try dsimp only at hSw); go_simp; try with_reducible rfl)
          try simp only [Act.put, List.setIfInBounds_toArray, List.set_cons_zero, List.set_cons_succ]
          refine det_read 26 (v := ?vx15) rfl (by kernel_rfl) rfl ?hyx15 ?restx15
          case hyx15 => (intro wS hSw; (try dsimp only at hSw); go_simp; try with_reducible rfl)
          try simp only [Act.put, List.setIfInBounds_toArray, List.set_cons_zero, List.set_cons_succ]
          refine det_done (by kernel_rfl) ?_
          rintro W ⟨_, _, hW⟩
          go_wp2
          go_roundg (N - (j + 1))
          case measure => omega
          case rel => exact ⟨j + 1, by omega, rfl, by go_num, HB.out.trans (hW.mono hsz)⟩
        · have q1 : ((j : Int) != (A : Int)) = true := by rw [bne_iff_ne]; omega
          by_cases jB : j = B
          · have q2 : ((j : Int) != (B : Int)) = false := by rw [bne_eq_false_iff_eq]; omega
            clear hKj jB
            go_wp2_with fail
            refine region_det (fun W => W.cell? ⟨g0, o0 + j, none⟩ = some (.string x) ∧ W.cell? ⟨gR, j, none⟩ = some (.string y) ∧ Below wr.heap.size wr W) HMX.out (by kernel_rfl) hS0 ?_
            refine det_read 0 (v := ?vx16) rfl (by kernel_rfl) rfl ?hyx16 ?restx16
            case hyx16 => (intro wS hSw; (try dsimp only at hSw); go_simp; try with_reducible rfl)
            try simp only [Act.put, List.setIfInBounds_toArray, List.set_cons_zero, List.set_cons_succ]
            refine det_read 1 (v := ?vx17) rfl (by kernel_rfl) rfl ?hyx17 ?restx17
            case hyx17 => (intro wS hSw; (try dsimp only at hSw); go_simp; try with_reducible rfl)
            try simp only [Act.put, List.setIfInBounds_toArray, List.set_cons_zero, List.set_cons_succ]
            refine det_read 2 (v := ?vx18) rfl (by kernel_rfl) rfl ?hyx18 ?restx18
            case hyx18 => (intro wS hSw; (try dsimp only at hSw); go_simp; try with_reducible rfl)
            try simp only [Act.put, List.setIfInBounds_toArray, List.set_cons_zero, List.set_cons_succ]
            refine det_read 3 (v := ?vx19) rfl (by kernel_rfl) rfl ?hyx19 ?restx19
            case hyx19 => (intro wS hSw; (try dsimp only at hSw); go_simp; try with_reducible rfl)
            try simp only [Act.put, List.setIfInBounds_toArray, List.set_cons_zero, List.set_cons_succ]
            refine det_read 4 (v := ?vx20) rfl (by kernel_rfl) rfl ?hyx20 ?restx20
            case hyx20 => (intro wS hSw; (try dsimp only at hSw); go_simp; try with_reducible rfl)
            try simp only [Act.put, List.setIfInBounds_toArray, List.set_cons_zero, List.set_cons_succ]
            refine det_read 5 (v := ?vx21) rfl (by kernel_rfl) rfl ?hyx21 ?restx21
            case hyx21 => (intro wS hSw; (try dsimp only at hSw); go_simp; try with_reducible rfl)
            try simp only [Act.put, List.setIfInBounds_toArray, List.set_cons_zero, List.set_cons_succ]
            refine det_read 6 (v := ?vx22) rfl (by kernel_rfl) rfl ?hyx22 ?restx22
            case hyx22 => (intro wS hSw; (try dsimp only at hSw); go_simp; try with_reducible rfl)
            try simp only [Act.put, List.setIfInBounds_toArray, List.set_cons_zero, List.set_cons_succ]
            refine det_read 7 (v := ?vx23) rfl (by kernel_rfl) rfl ?hyx23 ?restx23
            case hyx23 => (intro wS hSw; (try dsimp only at hSw); go_simp; try with_reducible rfl)
            try simp only [Act.put, List.setIfInBounds_toArray, List.set_cons_zero, List.set_cons_succ]
            refine det_read 8 (v := ?vx24) rfl (by kernel_rfl) rfl ?hyx24 ?restx24
            case hyx24 => (intro wS hSw; (try dsimp only at hSw); go_simp; try with_reducible rfl)
            try simp only [Act.put, List.setIfInBounds_toArray, List.set_cons_zero, List.set_cons_succ]
            refine det_skip 9 rfl (by kernel_rfl) rfl ?restx133
            try simp only [Act.put, List.setIfInBounds_toArray, List.set_cons_zero, List.set_cons_succ]
            refine det_skip 10 rfl (by kernel_rfl) rfl ?restx134
            try simp only [Act.put, List.setIfInBounds_toArray, List.set_cons_zero, List.set_cons_succ]
            refine det_skip 11 rfl (by kernel_rfl) rfl ?restx135
            try simp only [Act.put, List.setIfInBounds_toArray, List.set_cons_zero, List.set_cons_succ]
            refine det_skip 12 rfl (by kernel_rfl) rfl ?restx136
            try simp only [Act.put, List.setIfInBounds_toArray, List.set_cons_zero, List.set_cons_succ]
            refine det_skip 13 rfl (by kernel_rfl) rfl ?restx137
            try simp only [Act.put, List.setIfInBounds_toArray, List.set_cons_zero, List.set_cons_succ]
            refine det_skip 14 rfl (by kernel_rfl) rfl ?restx138
            try simp only [Act.put, List.setIfInBounds_toArray, List.set_cons_zero, List.set_cons_succ]
            refine det_skip 15 rfl (by kernel_rfl) rfl ?restx139
            try simp only [Act.put, List.setIfInBounds_toArray, List.set_cons_zero, List.set_cons_succ]
            refine det_skip 16 rfl (by kernel_rfl) rfl ?restx140
            try simp only [Act.put, List.setIfInBounds_toArray, List.set_cons_zero, List.set_cons_succ]
            refine det_skip 17 rfl (by kernel_rfl) rfl ?restx141
            try simp only [Act.put, List.setIfInBounds_toArray, List.set_cons_zero, List.set_cons_succ]
            refine det_read 18 (v := ?vx25) rfl (by kernel_rfl) rfl ?hyx25 ?restx25
            case hyx25 => (intro wS hSw; (try dsimp only at hSw); go_simp; try with_reducible rfl)
            try simp only [Act.put, List.setIfInBounds_toArray, List.set_cons_zero, List.set_cons_succ]
            refine det_read 19 (v := ?vx26) rfl (by kernel_rfl) rfl ?hyx26 ?restx26
            case hyx26 => (intro wS hSw; (try dsimp only at hSw); go_simp; try with_reducible rfl)
            try simp only [Act.put, List.setIfInBounds_toArray, List.set_cons_zero, List.set_cons_succ]
            refine det_read 20 (v := ?vx27) rfl (by kernel_rfl) rfl ?hyx27 ?restx27
            case hyx27 => (intro wS hSw; (try dsimp only at hSw); go_simp; try with_reducible rfl)
            try simp only [Act.put, List.setIfInBounds_toArray, List.set_cons_zero, List.set_cons_succ]
            refine det_read 21 (v := ?vx28) rfl (by kernel_rfl) rfl ?hyx28 ?restx28
            case hyx28 => (intro wS hSw; (try dsimp only at hSw); go_simp; try with_reducible rfl)
            try simp only [Act.put, List.setIfInBounds_toArray, List.set_cons_zero, List.set_cons_succ]
            refine det_read 22 (v := ?vx29) rfl (by kernel_rfl) rfl ?hyx29 ?restx29
            case hyx29 => (intro wS hSw; (try dsimp only at hSw); go_simp; try with_reducible rfl)
            try simp only [Act.put, List.setIfInBounds_toArray, List.set_cons_zero, List.set_cons_succ]
            refine det_read 23 (v := ?vx30) rfl (by kernel_rfl) rfl ?hyx30 ?restx30
            case hyx30 => (intro wS hSw; (try dsimp only at hSw); go_simp; try with_reducible rfl)
            try simp only [Act.put, List.setIfInBounds_toArray, List.set_cons_zero, List.set_cons_succ]
            refine det_read 24 (v := ?vx31) rfl (by kernel_rfl) rfl ?hyx31 ?restx31
            case hyx31 => (intro wS hSw; (try dsimp only at hSw); go_simp; try with_reducible rfl)
            try simp only [Act.put, List.setIfInBounds_toArray, List.set_cons_zero, List.set_cons_succ]
            refine det_read 25 (v := ?vx32) rfl (by kernel_rfl) rfl ?hyx32 ?restx32
            case hyx32 => (intro wS hSw; (try dsimp only at hSw); go_simp; try with_reducible rfl)
            try simp only [Act.put, List.setIfInBounds_toArray, List.set_cons_zero, List.set_cons_succ]
            refine det_read 26 (v := ?vx33) rfl (by kernel_rfl) rfl ?hyx33 ?restx33
            case hyx33 => (intro wS hSw; (try dsimp only at hSw); go_simp; try with_reducible rfl)
            try simp only [Act.put, List.setIfInBounds_toArray, List.set_cons_zero, List.set_cons_succ]
            refine det_done (by kernel_rfl) ?_
            rintro W ⟨_, _, hW⟩
            go_wp2
            go_roundg (N - (j + 1))
            case measure => omega
            case rel => exact ⟨j + 1, by omega, rfl, by go_num, HB.out.trans (hW.mono hsz)⟩
          · have q2 : ((j : Int) != (B : Int)) = true := by rw [bne_iff_ne]; omega
            have hxy : x = y := hKj jA jB
            subst hxy
            clear hKj
            go_wp2_with fail
            refine region_det (fun W => W.cell? ⟨g0, o0 + j, none⟩ = some (.string x) ∧ W.cell? ⟨gR, j, none⟩ = some (.string x) ∧ Below wr.heap.size wr W) HMX.out (by kernel_rfl) hS0 ?_
            refine det_read 0 (v := ?vx34) rfl (by kernel_rfl) rfl ?hyx34 ?restx34
            case hyx34 => (intro wS hSw; (try dsimp only at hSw); go_simp; try with_reducible rfl)
            try simp only [Act.put, List.setIfInBounds_toArray, List.set_cons_zero, List.set_cons_succ]
            refine det_read 1 (v := ?vx35) rfl (by kernel_rfl) rfl ?hyx35 ?restx35
            case hyx35 => (intro wS hSw; (try dsimp only at hSw); go_simp; try with_reducible rfl)
            try simp only [Act.put, List.setIfInBounds_toArray, List.set_cons_zero, List.set_cons_succ]
            refine det_read 2 (v := ?vx36) rfl (by kernel_rfl) rfl ?hyx36 ?restx36
            case hyx36 => (intro wS hSw; (try dsimp only at hSw); go_simp; try with_reducible rfl)
            try simp only [Act.put, List.setIfInBounds_toArray, List.set_cons_zero, List.set_cons_succ]
            refine det_read 3 (v := ?vx37) rfl (by kernel_rfl) rfl ?hyx37 ?restx37
            case hyx37 => (intro wS hSw; (try dsimp only at hSw); go_simp; try with_reducible rfl)
            try simp only [Act.put, List.setIfInBounds_toArray, List.set_cons_zero, List.set_cons_succ]
            refine det_read 4 (v := ?vx38) rfl (by kernel_rfl) rfl ?hyx38 ?restx38
            case hyx38 => (intro wS hSw; (try dsimp only at hSw); go_simp; try with_reducible rfl)
            try simp only [Act.put, List.setIfInBounds_toArray, List.set_cons_zero, List.set_cons_succ]
            refine det_read 5 (v := ?vx39) rfl (by kernel_rfl) rfl ?hyx39 ?restx39
            case hyx39 => (intro wS hSw; (try dsimp only at hSw); go_simp; try with_reducible rfl)
            try simp only [Act.put, List.setIfInBounds_toArray, List.set_cons_zero, List.set_cons_succ]
            refine det_read 6 (v := ?vx40) rfl (by kernel_rfl) rfl ?hyx40 ?restx40
            case hyx40 => (intro wS hSw; (try dsimp only at hSw); go_simp; try with_reducible rfl)
            try simp only [Act.put, List.setIfInBounds_toArray, List.set_cons_zero, List.set_cons_succ]
            refine det_read 7 (v := ?vx41) rfl (by kernel_rfl) rfl ?hyx41 ?restx41
            case hyx41 => (intro wS hSw; (try dsimp only at hSw); go_simp; try with_reducible rfl)
            try simp only [Act.put, List.setIfInBounds_toArray, List.set_cons_zero, List.set_cons_succ]
            refine det_read 8 (v := ?vx42) rfl (by kernel_rfl) rfl ?hyx42 ?restx42
            case hyx42 => (intro wS hSw; (try dsimp only at hSw); go_simp; try with_reducible rfl)
            try simp only [Act.put, List.setIfInBounds_toArray, List.set_cons_zero, List.set_cons_succ]
            refine det_read 9 (v := ?vx43) rfl (by kernel_rfl) rfl ?hyx43 ?restx43
            case hyx43 => (intro wS hSw; (try dsimp only at hSw); go_simp; try with_reducible rfl)
            try simp only [Act.put, List.setIfInBounds_toArray, List.set_cons_zero, List.set_cons_succ]
            refine det_read 10 (v := ?vx44) rfl (by kernel_rfl) rfl ?hyx44 ?restx44
            case hyx44 => (intro wS hSw; (try dsimp only at hSw); go_simp; try with_reducible rfl)
            try simp only [Act.put, List.setIfInBounds_toArray, List.set_cons_zero, List.set_cons_succ]
            refine det_read 11 (v := ?vx45) rfl (by kernel_rfl) rfl ?hyx45 ?restx45
            case hyx45 => (intro wS hSw; (try dsimp only at hSw); go_simp; try with_reducible rfl)
            try simp only [Act.put, List.setIfInBounds_toArray, List.set_cons_zero, List.set_cons_succ]
            refine det_read 12 (v := ?vx46) rfl (by kernel_rfl) rfl ?hyx46 ?restx46
            case hyx46 => (intro wS hSw; (try dsimp only at hSw); go_simp; try with_reducible rfl)
            try simp only [Act.put, List.setIfInBounds_toArray, List.set_cons_zero, List.set_cons_succ]
            refine det_read 13 (v := ?vx47) rfl (by kernel_rfl) rfl ?hyx47 ?restx47
            case hyx47 => (intro wS hSw; (try dsimp only at hSw); go_simp; try with_reducible rfl)
            try simp only [Act.put, List.setIfInBounds_toArray, List.set_cons_zero, List.set_cons_succ]
            refine det_read 14 (v := ?vx48) rfl (by kernel_rfl) rfl ?hyx48 ?restx48
            case hyx48 => (intro wS hSw; (try dsimp only at hSw); go_simp; try with_reducible rfl)
            try simp only [Act.put, List.setIfInBounds_toArray, List.set_cons_zero, List.set_cons_succ]
            refine det_read 15 (v := ?vx49) rfl (by kernel_rfl) rfl ?hyx49 ?restx49
            case hyx49 => (intro wS hSw; (try dsimp only at hSw); go_simp; try with_reducible rfl)
            try simp only [Act.put, List.setIfInBounds_toArray, List.set_cons_zero, List.set_cons_succ]
            refine det_read 16 (v := ?vx50) rfl (by kernel_rfl) rfl ?hyx50 ?restx50
            case hyx50 => (intro wS hSw; (try dsimp only at hSw); go_simp; try with_reducible rfl)
            try simp only [Act.put, List.setIfInBounds_toArray, List.set_cons_zero, List.set_cons_succ]
            refine det_read 17 (v := ?vx51) rfl (by kernel_rfl) rfl ?hyx51 ?restx51
            case hyx51 => (intro wS hSw; (try dsimp only at hSw); go_simp; try with_reducible rfl)
            try simp only [Act.put, List.setIfInBounds_toArray, List.set_cons_zero, List.set_cons_succ]
            refine det_read 18 (v := ?vx52) rfl (by kernel_rfl) rfl ?hyx52 ?restx52
            case hyx52 => (intro wS hSw; (try dsimp only at hSw); go_simp; try with_reducible rfl)
            try simp only [Act.put, List.setIfInBounds_toArray, List.set_cons_zero, List.set_cons_succ]
            refine det_read 19 (v := ?vx53) rfl (by kernel_rfl) rfl ?hyx53 ?restx53
            case hyx53 => (intro wS hSw; (try dsimp only at hSw); go_simp; try with_reducible rfl)
            try simp only [Act.put, List.setIfInBounds_toArray, List.set_cons_zero, List.set_cons_succ]
            refine det_read 20 (v := ?vx54) rfl (by kernel_rfl) rfl ?hyx54 ?restx54
            case hyx54 => (intro wS hSw; (try dsimp only at hSw); go_simp; try with_reducible rfl)
            try simp only [Act.put, List.setIfInBounds_toArray, List.set_cons_zero, List.set_cons_succ]
            refine det_read 21 (v := ?vx55) rfl (by kernel_rfl) rfl ?hyx55 ?restx55
            case hyx55 => (intro wS hSw; (try dsimp only at hSw); go_simp; try with_reducible rfl)
            try simp only [Act.put, List.setIfInBounds_toArray, List.set_cons_zero, List.set_cons_succ]
            refine det_read 22 (v := ?vx56) rfl (by kernel_rfl) rfl ?hyx56 ?restx56
            case hyx56 => (intro wS hSw; (try dsimp only at hSw); go_simp; try with_reducible rfl)
            try simp only [Act.put, List.setIfInBounds_toArray, List.set_cons_zero, List.set_cons_succ]
            refine det_read 23 (v := ?vx57) rfl (by kernel_rfl) rfl ?hyx57 ?restx57
            case hyx57 => (intro wS hSw; (try dsimp only at hSw); go_simp; try with_reducible rfl)
            try simp only [Act.put, List.setIfInBounds_toArray, List.set_cons_zero, List.set_cons_succ]
            refine det_read 24 (v := ?vx58) rfl (by kernel_rfl) rfl ?hyx58 ?restx58
            case hyx58 => (intro wS hSw; (try dsimp only at hSw); go_simp; try with_reducible rfl)
            try simp only [Act.put, List.setIfInBounds_toArray, List.set_cons_zero, List.set_cons_succ]
            refine det_read 25 (v := ?vx59) rfl (by kernel_rfl) rfl ?hyx59 ?restx59
            case hyx59 => (intro wS hSw; (try dsimp only at hSw); go_simp; try with_reducible rfl)
            try simp only [Act.put, List.setIfInBounds_toArray, List.set_cons_zero, List.set_cons_succ]
            refine det_read 26 (v := ?vx60) rfl (by kernel_rfl) rfl ?hyx60 ?restx60
            case hyx60 => (intro wS hSw; (try dsimp only at hSw); go_simp; try with_reducible rfl)
            try simp only [Act.put, List.setIfInBounds_toArray, List.set_cons_zero, List.set_cons_succ]
            refine det_done (by kernel_rfl) ?_
            rintro W ⟨_, _, hW⟩
            go_wp2
            go_roundg (N - (j + 1))
            case measure => omega
            case rel => exact ⟨j + 1, by omega, rfl, by go_num, HB.out.trans (hW.mono hsz)⟩
      · have hjj : j = N := by omega
        subst hjj
        have HBE : Hid (Below w.heap.size w wr) := B4.out.trans (HB.out.mono B4.out.size)
        go_wp2
        go_ret
        exact ⟨rfl, HBE.out⟩

set_option maxRecDepth 100000 in
set_option maxHeartbeats 8000000 in
theorem core_met (w : World) (a0 : Option Addr) (n0 cap0 : Nat) (f : Nat → ByteArray) (hr0 : RowS w a0 n0 f) (hm0 : n0 ≤ maxLen) (hsz0 : ∀ j, (f j).size ≤ maxLen) (k a b : Nat) (N A B : Nat) (hk : k < 256) (hNk : 4 + k % 7 = N) (ha256 : a < 256) (hb256 : b < 256) (hA : A < N) (hB : B < N) (hAB : A ≠ B) (ha : a % N = A) (hb : b % N = A ∧ (A + 1) % N = B) :
    Calls Try.prog 5 #[.slice a0 n0 cap0, .int .u8 k, .int .u8 a, .int .u8 b] w fun e w' => e = .returned (.bool true) ∧ Below w.heap.size w w' := by
  have HY := heavy6_any w a0 n0 cap0 f hr0 hsz0 hm0 none 0 0 (by decide)
  obtain ⟨r, hr⟩ : ∃ r : Nat, r = k % 7 := ⟨_, rfl⟩
  have hr7 : r < 7 := by omega
  have hrm : (k : Int).tmod 7 = (r : Int) := by rw [hr, Int.tmod_eq_emod_of_nonneg (by omega)]; omega
  have m1 : (a : Int).tmod (N : Int) = (A : Int) := by rw [Int.tmod_eq_emod_of_nonneg (by omega), ← ha]; omega
  have m2 : (b : Int).tmod (N : Int) = (A : Int) := by rw [Int.tmod_eq_emod_of_nonneg (by omega), ← hb.1]; omega
  have m3 : ((A : Int) + 1).tmod (N : Int) = (B : Int) := by rw [Int.tmod_eq_emod_of_nonneg (by omega), ← hb.2, Int.natCast_emod]; rfl
  have e1 : (4 : Int) + (r : Int) = (N : Int) := by omega
  have hN10 : N ≤ 10 := by omega
  have hN4 : 4 ≤ N := by omega
  clear hsz0 hm0 hr hNk ha hb
  go_enter Try.func5, Try.ntmps5
  go_wp2_with fail
  refine HY.mono ?_
  rintro e w' ⟨hw, h⟩
  subst w'
  clear HY
  rcases h with rfl | ⟨rfl, hL⟩
  · go_wp2_with fail
    refine (shown6_any _).mono ?_
    rintro e w1 ⟨rfl, b1⟩
    go_wp2
    go_ret
    exact ⟨rfl, b1⟩
  · have hn20 := hL.1
    have hF0 := hL.fits
    obtain ⟨m, HN⟩ : ∃ m, Hid (N = m + 2) := ⟨N - 2, by show _ = _; omega⟩
    have m2' : 2 ≤ m := by have := HN.out; omega
    have m8 : m ≤ 8 := by have := HN.out; omega
    clear hL
    go_wp2_with fail
    refine (shown6_any _).mono ?_
    rintro e w1 ⟨rfl, b1⟩
    have hQ := square_any n0 f (by omega) a0 cap0 N (by omega) hF0 w1 (hr0.below b1)
    go_wp2_with fail
    refine hQ.mono ?_
    rintro e w2 ⟨⟨gR, cR, rfl, own⟩, b2⟩
    obtain ⟨_, _, er, rr, hcR, _⟩ := RowS.of_owns own
    cases er
    have b2 := below2 b1 b2
    obtain ⟨F, hFe⟩ : ∃ F, sqF n0 f = F := ⟨_, rfl⟩
    have FS : ∀ i, (F i).size = 12 := fun i => by rw [← hFe]; exact sqF_size n0 f i
    have FF : ∀ q, Fits 1048576 q F := fun q i _ => by rw [FS]; decide
    rw [hFe] at rr
    clear own hQ hFe hr0 hF0
    obtain ⟨L1, hL1⟩ : ∃ L1 : Nat → Int, L1 = fun i => [(A : Int), (B : Int)].getD i 0 := ⟨_, rfl⟩
    have l0 : L1 0 = (A : Int) := by rw [hL1]; rfl
    have l1 : L1 1 = (B : Int) := by rw [hL1]; rfl
    have z1 : Rf.Lost m 2 L1 := Rf.Lost.pair (by omega) (by have := HN.out; omega) (by have := HN.out; omega) hAB L1 l0 l1
    have y1 : Rf.mayF N F 2 L1 = 0 := by rw [HN.out]; exact Rf.mayF_fine z1 m2' m8 (show 12 ≤ 4096 by decide) fun i _ _ => FS i
    have rl : RowI .i64 (w2.alloc (.cells #[.int .i64 (A : Int), .int .i64 (B : Int)] 3)) (some ⟨w2.heap.size, 0, none⟩) 2 L1 := by
      have h := RowI.new .i64 w2 [(A : Int), (B : Int)] #[.int .i64 (A : Int), .int .i64 (B : Int)] 3 rfl
      rw [hL1]; exact h
    have al2 : Below w2.heap.size w2 (w2.alloc (.cells #[.int .i64 (A : Int), .int .i64 (B : Int)] 3)) := (Below.refl _ w2).alloc (Nat.le_refl _) _
    have h3 := Fill_says N F (by omega) (FF N) (some ⟨gR, 0, none⟩) cR hcR 2 L1 (by omega) (some ⟨w2.heap.size, 0, none⟩) 2 (Nat.le_refl _) _ (rr.below al2) rl
    unfold FillSays at h3
    rw [y1, Rf.kF_ok] at h3
    have GOODF : Hid (goodF m (Rf.fillF N F 2 L1) = true) := by
      show _ = _; rw [HN.out]; exact Rf.good_bytes fun t => Rf.fillF_two z1 rfl (by omega) (fun i _ _ => FS i) t
    have SIZES : Hid (∀ i, (Rf.fillF N F 2 L1 i).size = 12) := fun i => by
      have e := Rf.szF_same (f := F) (s := 12) z1 (by omega) fun i _ _ => FS i
      rw [← HN.out] at e; exact Rf.fillF_size e i
    have KEPT : Hid (∀ i, i < N → i ≠ A → i ≠ B → Rf.fillF N F 2 L1 i = F i) := fun i hi h1 h2 => by
      rw [HN.out] at hi ⊢; exact Rf.fillF_keeps z1 (by omega) (fun i _ _ => FS i) hi ((Rf.has_pair l0 l1).2 ⟨h1, h2⟩)
    obtain ⟨G, hG⟩ : ∃ G, Rf.fillF N F 2 L1 = G := ⟨_, rfl⟩
    rw [hG] at h3 GOODF SIZES KEPT
    clear y1 rl hL1 l0 l1 z1 hG
    go_wp2_with fail
    refine h3.mono ?_
    rintro e w3 ⟨⟨g3, c3, rfl, r3, hc3⟩, b3⟩
    have b3 : Below w2.heap.size w2 w3 := al2.trans (b3.mono al2.size)
    have rr3 := rr.below b3
    have b3 := below2 b2 b3
    have hGood := refGood_some m G (by omega) (fun i _ => by rw [SIZES.out]; decide) g3 c3 (by have := HN.out; omega) w3 (by rw [← HN.out]; exact r3)
    rw [GOODF.out, ← HN.out] at hGood
    clear h3 al2 GOODF
    go_wp2_with fail
    refine hGood.mono ?_
    rintro e w4 ⟨rfl, b4⟩
    have R3 : Hid (RowS w4 g3 N G) := r3.below b4
    have RR : Hid (RowS w4 (some ⟨gR, 0, none⟩) N F) := rr3.below b4
    have B4 : Hid (Below w.heap.size w w4) := below2 b3 b4
    have FSZ : Hid (∀ i, (F i).size = 12) := FS
    have HMX : Hid (Try.prog.follows .mixedOrders = true) := by show _ = _; kernel_rfl
    clear r3 rr rr3 b1 b2 b3 b4 hGood FS FF
    go_wp2
    go_loopg [15] N (fun gg u wr => ∃ j : Nat, j ≤ N ∧ gg = N - j ∧ u = .int .i64 j ∧ Below w4.heap.size w4 wr)
    case atStart => exact ⟨0, Nat.zero_le _, rfl, rfl, Below.refl _ _⟩
    case round =>
      obtain ⟨j, hj, rfl, rfl, hb⟩ := hrel
      have HB : Hid (Below w4.heap.size w4 wr) := hb
      have hsz := hb.size
      clear hb
      by_cases hjN : j < N
      · obtain ⟨g0, o0, rfl, hc0⟩ := R3.out j hjN
        have hc0 := keep_one HB.out hc0
        have hc1 := keep_one HB.out (RR.out.at hjN)
        rw [Nat.zero_add] at hc1
        have hz := SIZES.out j
        have hKj := KEPT.out j hjN
        obtain ⟨x, hx⟩ : ∃ x, G j = x := ⟨_, rfl⟩
        obtain ⟨y, hy⟩ : ∃ y, F j = y := ⟨_, rfl⟩
        rw [hx] at hc0 hz hKj
        rw [hy] at hc1 hKj
        have hz9 : ((x.size : Int) != 12) = false := by rw [bne_eq_false_iff_eq]; omega
        have hS0 : wr.cell? ⟨g0, o0 + j, none⟩ = some (.string x) ∧ wr.cell? ⟨gR, j, none⟩ = some (.string y) ∧ Below wr.heap.size wr wr.drew := ⟨hc0, hc1, (Below.refl _ _).drew⟩
        clear hx hy
        by_cases jA : j = A
        · have q1 : ((j : Int) != (A : Int)) = false := by rw [bne_eq_false_iff_eq]; omega
          clear hKj jA
          go_wp2_with fail
          refine region_det (fun W => W.cell? ⟨g0, o0 + j, none⟩ = some (.string x) ∧ W.cell? ⟨gR, j, none⟩ = some (.string y) ∧ Below wr.heap.size wr W) HMX.out (by kernel_rfl) hS0 ?_
          refine det_read 0 (v := ?vx61) rfl (by kernel_rfl) rfl ?hyx61 ?restx61
          case hyx61 => (intro wS hSw; (try dsimp only at hSw); go_simp; try with_reducible rfl)
          try simp only [Act.put, List.setIfInBounds_toArray, List.set_cons_zero, List.set_cons_succ]
          refine det_read 1 (v := ?vx62) rfl (by kernel_rfl) rfl ?hyx62 ?restx62
          case hyx62 => (intro wS hSw; (try dsimp only at hSw); go_simp; try with_reducible rfl)
          try simp only [Act.put, List.setIfInBounds_toArray, List.set_cons_zero, List.set_cons_succ]
          refine det_read 2 (v := ?vx63) rfl (by kernel_rfl) rfl ?hyx63 ?restx63
          case hyx63 => (intro wS hSw; (try dsimp only at hSw); go_simp; try with_reducible rfl)
          try simp only [Act.put, List.setIfInBounds_toArray, List.set_cons_zero, List.set_cons_succ]
          refine det_read 3 (v := ?vx64) rfl (by kernel_rfl) rfl ?hyx64 ?restx64
          case hyx64 => (intro wS hSw; (try dsimp only at hSw); go_simp; try with_reducible rfl)
          try simp only [Act.put, List.setIfInBounds_toArray, List.set_cons_zero, List.set_cons_succ]
          refine det_skip 4 rfl (by kernel_rfl) rfl ?restx142
          try simp only [Act.put, List.setIfInBounds_toArray, List.set_cons_zero, List.set_cons_succ]
          refine det_skip 5 rfl (by kernel_rfl) rfl ?restx143
          try simp only [Act.put, List.setIfInBounds_toArray, List.set_cons_zero, List.set_cons_succ]
          refine det_skip 6 rfl (by kernel_rfl) rfl ?restx144
          try simp only [Act.put, List.setIfInBounds_toArray, List.set_cons_zero, List.set_cons_succ]
          refine det_read 7 (v := ?vx65) rfl (by kernel_rfl) rfl ?hyx65 ?restx65
          case hyx65 => (intro wS hSw; (try dsimp only at hSw); go_simp; try with_reducible rfl)
          try simp only [Act.put, List.setIfInBounds_toArray, List.set_cons_zero, List.set_cons_succ]
          refine det_read 8 (v := ?vx66) rfl (by kernel_rfl) rfl ?hyx66 ?restx66
          case hyx66 => (intro wS hSw; (try dsimp only at hSw); go_simp; try with_reducible rfl)
          try simp only [Act.put, List.setIfInBounds_toArray, List.set_cons_zero, List.set_cons_succ]
          refine det_skip 9 rfl (by kernel_rfl) rfl ?restx145
          try simp only [Act.put, List.setIfInBounds_toArray, List.set_cons_zero, List.set_cons_succ]
          refine det_skip 10 rfl (by kernel_rfl) rfl ?restx146
          try simp only [Act.put, List.setIfInBounds_toArray, List.set_cons_zero, List.set_cons_succ]
          refine det_skip 11 rfl (by kernel_rfl) rfl ?restx147
          try simp only [Act.put, List.setIfInBounds_toArray, List.set_cons_zero, List.set_cons_succ]
          refine det_skip 12 rfl (by kernel_rfl) rfl ?restx148
          try simp only [Act.put, List.setIfInBounds_toArray, List.set_cons_zero, List.set_cons_succ]
          refine det_skip 13 rfl (by kernel_rfl) rfl ?restx149
          try simp only [Act.put, List.setIfInBounds_toArray, List.set_cons_zero, List.set_cons_succ]
          refine det_skip 14 rfl (by kernel_rfl) rfl ?restx150
          try simp only [Act.put, List.setIfInBounds_toArray, List.set_cons_zero, List.set_cons_succ]
          refine det_skip 15 rfl (by kernel_rfl) rfl ?restx151
          try simp only [Act.put, List.setIfInBounds_toArray, List.set_cons_zero, List.set_cons_succ]
          refine det_skip 16 rfl (by kernel_rfl) rfl ?restx152
          try simp only [Act.put, List.setIfInBounds_toArray, List.set_cons_zero, List.set_cons_succ]
          refine det_skip 17 rfl (by kernel_rfl) rfl ?restx153
          try simp only [Act.put, List.setIfInBounds_toArray, List.set_cons_zero, List.set_cons_succ]
          refine det_read 18 (v := ?vx67) rfl (by kernel_rfl) rfl ?hyx67 ?restx67
          case hyx67 => (intro wS hSw; (try dsimp only at hSw); go_simp; try with_reducible rfl)
          try simp only [Act.put, List.setIfInBounds_toArray, List.set_cons_zero, List.set_cons_succ]
          refine det_read 19 (v := ?vx68) rfl (by kernel_rfl) rfl ?hyx68 ?restx68
          case hyx68 => (intro wS hSw; (try dsimp only at hSw); go_simp; try with_reducible rfl)
          try simp only [Act.put, List.setIfInBounds_toArray, List.set_cons_zero, List.set_cons_succ]
          refine det_read 20 (v := ?vx69) rfl (by kernel_rfl) rfl ?hyx69 ?restx69
          case hyx69 => (intro wS hSw; (try dsimp only at hSw); go_simp; try with_reducible rfl)
          try simp only [Act.put, List.setIfInBounds_toArray, List.set_cons_zero, List.set_cons_succ]
          refine det_read 21 (v := ?vx70) rfl (by kernel_rfl) rfl ?hyx70 ?restx70
          case hyx70 => (intro wS hSw; (try dsimp only at hSw); go_simp; try with_reducible rfl)
          try simp only [Act.put, List.setIfInBounds_toArray, List.set_cons_zero, List.set_cons_succ]
          refine det_read 22 (v := ?vx71) rfl (by kernel_rfl) rfl ?hyx71 ?restx71
          case hyx71 => (intro wS hSw; (try dsimp only at hSw); go_simp; try with_reducible rfl)
          try simp only [Act.put, List.setIfInBounds_toArray, List.set_cons_zero, List.set_cons_succ]
          refine det_read 23 (v := ?vx72) rfl (by kernel_rfl) rfl ?hyx72 ?restx72
          case hyx72 => (intro wS hSw; (try dsimp only at hSw); go_simp; try with_reducible rfl)
          try simp only [Act.put, List.setIfInBounds_toArray, List.set_cons_zero, List.set_cons_succ]
          refine det_read 24 (v := ?vx73) rfl (by kernel_rfl) rfl ?hyx73 ?restx73
          case hyx73 => (intro wS hSw; (try dsimp only at hSw); go_simp; try with_reducible rfl)
          try simp only [Act.put, List.setIfInBounds_toArray, List.set_cons_zero, List.set_cons_succ]
          refine det_read 25 (v := ?vx74) rfl (by kernel_rfl) rfl ?hyx74 ?restx74
          case hyx74 => (intro wS hSw; (try dsimp only at hSw); go_simp; try with_reducible rfl)
          try simp only [Act.put, List.setIfInBounds_toArray, List.set_cons_zero, List.set_cons_succ]
          refine det_read 26 (v := ?vx75) rfl (by kernel_rfl) rfl ?hyx75 ?restx75
          case hyx75 => (intro wS hSw; (try dsimp only at hSw); go_simp; try with_reducible rfl)
          try simp only [Act.put, List.setIfInBounds_toArray, List.set_cons_zero, List.set_cons_succ]
          refine det_done (by kernel_rfl) ?_
          rintro W ⟨_, _, hW⟩
          go_wp2
          go_roundg (N - (j + 1))
          case measure => omega
          case rel => exact ⟨j + 1, by omega, rfl, by go_num, HB.out.trans (hW.mono hsz)⟩
        · have q1 : ((j : Int) != (A : Int)) = true := by rw [bne_iff_ne]; omega
          by_cases jB : j = B
          · have q2 : ((j : Int) != (B : Int)) = false := by rw [bne_eq_false_iff_eq]; omega
            clear hKj jB
            go_wp2_with fail
            refine region_det (fun W => W.cell? ⟨g0, o0 + j, none⟩ = some (.string x) ∧ W.cell? ⟨gR, j, none⟩ = some (.string y) ∧ Below wr.heap.size wr W) HMX.out (by kernel_rfl) hS0 ?_
            refine det_read 0 (v := ?vx76) rfl (by kernel_rfl) rfl ?hyx76 ?restx76
            case hyx76 => (intro wS hSw; (try dsimp only at hSw); go_simp; try with_reducible rfl)
            try simp only [Act.put, List.setIfInBounds_toArray, List.set_cons_zero, List.set_cons_succ]
            refine det_read 1 (v := ?vx77) rfl (by kernel_rfl) rfl ?hyx77 ?restx77
            case hyx77 => (intro wS hSw; (try dsimp only at hSw); go_simp; try with_reducible rfl)
            try simp only [Act.put, List.setIfInBounds_toArray, List.set_cons_zero, List.set_cons_succ]
            refine det_read 2 (v := ?vx78) rfl (by kernel_rfl) rfl ?hyx78 ?restx78
            case hyx78 => (intro wS hSw; (try dsimp only at hSw); go_simp; try with_reducible rfl)
            try simp only [Act.put, List.setIfInBounds_toArray, List.set_cons_zero, List.set_cons_succ]
            refine det_read 3 (v := ?vx79) rfl (by kernel_rfl) rfl ?hyx79 ?restx79
            case hyx79 => (intro wS hSw; (try dsimp only at hSw); go_simp; try with_reducible rfl)
            try simp only [Act.put, List.setIfInBounds_toArray, List.set_cons_zero, List.set_cons_succ]
            refine det_read 4 (v := ?vx80) rfl (by kernel_rfl) rfl ?hyx80 ?restx80
            case hyx80 => (intro wS hSw; (try dsimp only at hSw); go_simp; try with_reducible rfl)
            try simp only [Act.put, List.setIfInBounds_toArray, List.set_cons_zero, List.set_cons_succ]
            refine det_read 5 (v := ?vx81) rfl (by kernel_rfl) rfl ?hyx81 ?restx81
            case hyx81 => (intro wS hSw; (try dsimp only at hSw); go_simp; try with_reducible rfl)
            try simp only [Act.put, List.setIfInBounds_toArray, List.set_cons_zero, List.set_cons_succ]
            refine det_read 6 (v := ?vx82) rfl (by kernel_rfl) rfl ?hyx82 ?restx82
            case hyx82 => (intro wS hSw; (try dsimp only at hSw); go_simp; try with_reducible rfl)
            try simp only [Act.put, List.setIfInBounds_toArray, List.set_cons_zero, List.set_cons_succ]
            refine det_read 7 (v := ?vx83) rfl (by kernel_rfl) rfl ?hyx83 ?restx83
            case hyx83 => (intro wS hSw; (try dsimp only at hSw); go_simp; try with_reducible rfl)
            try simp only [Act.put, List.setIfInBounds_toArray, List.set_cons_zero, List.set_cons_succ]
            refine det_read 8 (v := ?vx84) rfl (by kernel_rfl) rfl ?hyx84 ?restx84
            case hyx84 => (intro wS hSw; (try dsimp only at hSw); go_simp; try with_reducible rfl)
            try simp only [Act.put, List.setIfInBounds_toArray, List.set_cons_zero, List.set_cons_succ]
            refine det_skip 9 rfl (by kernel_rfl) rfl ?restx154
            try simp only [Act.put, List.setIfInBounds_toArray, List.set_cons_zero, List.set_cons_succ]
            refine det_skip 10 rfl (by kernel_rfl) rfl ?restx155
            try simp only [Act.put, List.setIfInBounds_toArray, List.set_cons_zero, List.set_cons_succ]
            refine det_skip 11 rfl (by kernel_rfl) rfl ?restx156
            try simp only [Act.put, List.setIfInBounds_toArray, List.set_cons_zero, List.set_cons_succ]
            refine det_skip 12 rfl (by kernel_rfl) rfl ?restx157
            try simp only [Act.put, List.setIfInBounds_toArray, List.set_cons_zero, List.set_cons_succ]
            refine det_skip 13 rfl (by kernel_rfl) rfl ?restx158
            try simp only [Act.put, List.setIfInBounds_toArray, List.set_cons_zero, List.set_cons_succ]
            refine det_skip 14 rfl (by kernel_rfl) rfl ?restx159
            try simp only [Act.put, List.setIfInBounds_toArray, List.set_cons_zero, List.set_cons_succ]
            refine det_skip 15 rfl (by kernel_rfl) rfl ?restx160
            try simp only [Act.put, List.setIfInBounds_toArray, List.set_cons_zero, List.set_cons_succ]
            refine det_skip 16 rfl (by kernel_rfl) rfl ?restx161
            try simp only [Act.put, List.setIfInBounds_toArray, List.set_cons_zero, List.set_cons_succ]
            refine det_skip 17 rfl (by kernel_rfl) rfl ?restx162
            try simp only [Act.put, List.setIfInBounds_toArray, List.set_cons_zero, List.set_cons_succ]
            refine det_read 18 (v := ?vx85) rfl (by kernel_rfl) rfl ?hyx85 ?restx85
            case hyx85 => (intro wS hSw; (try dsimp only at hSw); go_simp; try with_reducible rfl)
            try simp only [Act.put, List.setIfInBounds_toArray, List.set_cons_zero, List.set_cons_succ]
            refine det_read 19 (v := ?vx86) rfl (by kernel_rfl) rfl ?hyx86 ?restx86
            case hyx86 => (intro wS hSw; (try dsimp only at hSw); go_simp; try with_reducible rfl)
            try simp only [Act.put, List.setIfInBounds_toArray, List.set_cons_zero, List.set_cons_succ]
            refine det_read 20 (v := ?vx87) rfl (by kernel_rfl) rfl ?hyx87 ?restx87
            case hyx87 => (intro wS hSw; (try dsimp only at hSw); go_simp; try with_reducible rfl)
            try simp only [Act.put, List.setIfInBounds_toArray, List.set_cons_zero, List.set_cons_succ]
            refine det_read 21 (v := ?vx88) rfl (by kernel_rfl) rfl ?hyx88 ?restx88
            case hyx88 => (intro wS hSw; (try dsimp only at hSw); go_simp; try with_reducible rfl)
            try simp only [Act.put, List.setIfInBounds_toArray, List.set_cons_zero, List.set_cons_succ]
            refine det_read 22 (v := ?vx89) rfl (by kernel_rfl) rfl ?hyx89 ?restx89
            case hyx89 => (intro wS hSw; (try dsimp only at hSw); go_simp; try with_reducible rfl)
            try simp only [Act.put, List.setIfInBounds_toArray, List.set_cons_zero, List.set_cons_succ]
            refine det_read 23 (v := ?vx90) rfl (by kernel_rfl) rfl ?hyx90 ?restx90
            case hyx90 => (intro wS hSw; (try dsimp only at hSw); go_simp; try with_reducible rfl)
            try simp only [Act.put, List.setIfInBounds_toArray, List.set_cons_zero, List.set_cons_succ]
            refine det_read 24 (v := ?vx91) rfl (by kernel_rfl) rfl ?hyx91 ?restx91
            case hyx91 => (intro wS hSw; (try dsimp only at hSw); go_simp; try with_reducible rfl)
            try simp only [Act.put, List.setIfInBounds_toArray, List.set_cons_zero, List.set_cons_succ]
            refine det_read 25 (v := ?vx92) rfl (by kernel_rfl) rfl ?hyx92 ?restx92
            case hyx92 => (intro wS hSw; (try dsimp only at hSw); go_simp; try with_reducible rfl)
            try simp only [Act.put, List.setIfInBounds_toArray, List.set_cons_zero, List.set_cons_succ]
            refine det_read 26 (v := ?vx93) rfl (by kernel_rfl) rfl ?hyx93 ?restx93
            case hyx93 => (intro wS hSw; (try dsimp only at hSw); go_simp; try with_reducible rfl)
            try simp only [Act.put, List.setIfInBounds_toArray, List.set_cons_zero, List.set_cons_succ]
            refine det_done (by kernel_rfl) ?_
            rintro W ⟨_, _, hW⟩
            go_wp2
            go_roundg (N - (j + 1))
            case measure => omega
            case rel => exact ⟨j + 1, by omega, rfl, by go_num, HB.out.trans (hW.mono hsz)⟩
          · have q2 : ((j : Int) != (B : Int)) = true := by rw [bne_iff_ne]; omega
            have hxy : x = y := hKj jA jB
            subst hxy
            clear hKj
            go_wp2_with fail
            refine region_det (fun W => W.cell? ⟨g0, o0 + j, none⟩ = some (.string x) ∧ W.cell? ⟨gR, j, none⟩ = some (.string x) ∧ Below wr.heap.size wr W) HMX.out (by kernel_rfl) hS0 ?_
            refine det_read 0 (v := ?vx94) rfl (by kernel_rfl) rfl ?hyx94 ?restx94
            case hyx94 => (intro wS hSw; (try dsimp only at hSw); go_simp; try with_reducible rfl)
            try simp only [Act.put, List.setIfInBounds_toArray, List.set_cons_zero, List.set_cons_succ]
            refine det_read 1 (v := ?vx95) rfl (by kernel_rfl) rfl ?hyx95 ?restx95
            case hyx95 => (intro wS hSw; (try dsimp only at hSw); go_simp; try with_reducible rfl)
            try simp only [Act.put, List.setIfInBounds_toArray, List.set_cons_zero, List.set_cons_succ]
            refine det_read 2 (v := ?vx96) rfl (by kernel_rfl) rfl ?hyx96 ?restx96
            case hyx96 => (intro wS hSw; (try dsimp only at hSw); go_simp; try with_reducible rfl)
            try simp only [Act.put, List.setIfInBounds_toArray, List.set_cons_zero, List.set_cons_succ]
            refine det_read 3 (v := ?vx97) rfl (by kernel_rfl) rfl ?hyx97 ?restx97
            case hyx97 => (intro wS hSw; (try dsimp only at hSw); go_simp; try with_reducible rfl)
            try simp only [Act.put, List.setIfInBounds_toArray, List.set_cons_zero, List.set_cons_succ]
            refine det_read 4 (v := ?vx98) rfl (by kernel_rfl) rfl ?hyx98 ?restx98
            case hyx98 => (intro wS hSw; (try dsimp only at hSw); go_simp; try with_reducible rfl)
            try simp only [Act.put, List.setIfInBounds_toArray, List.set_cons_zero, List.set_cons_succ]
            refine det_read 5 (v := ?vx99) rfl (by kernel_rfl) rfl ?hyx99 ?restx99
            case hyx99 => (intro wS hSw; (try dsimp only at hSw); go_simp; try with_reducible rfl)
            try simp only [Act.put, List.setIfInBounds_toArray, List.set_cons_zero, List.set_cons_succ]
            refine det_read 6 (v := ?vx100) rfl (by kernel_rfl) rfl ?hyx100 ?restx100
            case hyx100 => (intro wS hSw; (try dsimp only at hSw); go_simp; try with_reducible rfl)
            try simp only [Act.put, List.setIfInBounds_toArray, List.set_cons_zero, List.set_cons_succ]
            refine det_read 7 (v := ?vx101) rfl (by kernel_rfl) rfl ?hyx101 ?restx101
            case hyx101 => (intro wS hSw; (try dsimp only at hSw); go_simp; try with_reducible rfl)
            try simp only [Act.put, List.setIfInBounds_toArray, List.set_cons_zero, List.set_cons_succ]
            refine det_read 8 (v := ?vx102) rfl (by kernel_rfl) rfl ?hyx102 ?restx102
            case hyx102 => (intro wS hSw; (try dsimp only at hSw); go_simp; try with_reducible rfl)
            try simp only [Act.put, List.setIfInBounds_toArray, List.set_cons_zero, List.set_cons_succ]
            refine det_read 9 (v := ?vx103) rfl (by kernel_rfl) rfl ?hyx103 ?restx103
            case hyx103 => (intro wS hSw; (try dsimp only at hSw); go_simp; try with_reducible rfl)
            try simp only [Act.put, List.setIfInBounds_toArray, List.set_cons_zero, List.set_cons_succ]
            refine det_read 10 (v := ?vx104) rfl (by kernel_rfl) rfl ?hyx104 ?restx104
            case hyx104 => (intro wS hSw; (try dsimp only at hSw); go_simp; try with_reducible rfl)
            try simp only [Act.put, List.setIfInBounds_toArray, List.set_cons_zero, List.set_cons_succ]
            refine det_read 11 (v := ?vx105) rfl (by kernel_rfl) rfl ?hyx105 ?restx105
            case hyx105 => (intro wS hSw; (try dsimp only at hSw); go_simp; try with_reducible rfl)
            try simp only [Act.put, List.setIfInBounds_toArray, List.set_cons_zero, List.set_cons_succ]
            refine det_read 12 (v := ?vx106) rfl (by kernel_rfl) rfl ?hyx106 ?restx106
            case hyx106 => (intro wS hSw; (try dsimp only at hSw); go_simp; try with_reducible rfl)
            try simp only [Act.put, List.setIfInBounds_toArray, List.set_cons_zero, List.set_cons_succ]
            refine det_read 13 (v := ?vx107) rfl (by kernel_rfl) rfl ?hyx107 ?restx107
            case hyx107 => (intro wS hSw; (try dsimp only at hSw); go_simp; try with_reducible rfl)
            try simp only [Act.put, List.setIfInBounds_toArray, List.set_cons_zero, List.set_cons_succ]
            refine det_read 14 (v := ?vx108) rfl (by kernel_rfl) rfl ?hyx108 ?restx108
            case hyx108 => (intro wS hSw; (try dsimp only at hSw); go_simp; try with_reducible rfl)
            try simp only [Act.put, List.setIfInBounds_toArray, List.set_cons_zero, List.set_cons_succ]
            refine det_read 15 (v := ?vx109) rfl (by kernel_rfl) rfl ?hyx109 ?restx109
            case hyx109 => (intro wS hSw; (try dsimp only at hSw); go_simp; try with_reducible rfl)
            try simp only [Act.put, List.setIfInBounds_toArray, List.set_cons_zero, List.set_cons_succ]
            refine det_read 16 (v := ?vx110) rfl (by kernel_rfl) rfl ?hyx110 ?restx110
            case hyx110 => (intro wS hSw; (try dsimp only at hSw); go_simp; try with_reducible rfl)
            try simp only [Act.put, List.setIfInBounds_toArray, List.set_cons_zero, List.set_cons_succ]
            refine det_read 17 (v := ?vx111) rfl (by kernel_rfl) rfl ?hyx111 ?restx111
            case hyx111 => (intro wS hSw; (try dsimp only at hSw); go_simp; try with_reducible rfl)
            try simp only [Act.put, List.setIfInBounds_toArray, List.set_cons_zero, List.set_cons_succ]
            refine det_read 18 (v := ?vx112) rfl (by kernel_rfl) rfl ?hyx112 ?restx112
            case hyx112 => (intro wS hSw; (try dsimp only at hSw); go_simp; try with_reducible rfl)
            try simp only [Act.put, List.setIfInBounds_toArray, List.set_cons_zero, List.set_cons_succ]
            refine det_read 19 (v := ?vx113) rfl (by kernel_rfl) rfl ?hyx113 ?restx113
            case hyx113 => (intro wS hSw; (try dsimp only at hSw); go_simp; try with_reducible rfl)
            try simp only [Act.put, List.setIfInBounds_toArray, List.set_cons_zero, List.set_cons_succ]
            refine det_read 20 (v := ?vx114) rfl (by kernel_rfl) rfl ?hyx114 ?restx114
            case hyx114 => (intro wS hSw; (try dsimp only at hSw); go_simp; try with_reducible rfl)
            try simp only [Act.put, List.setIfInBounds_toArray, List.set_cons_zero, List.set_cons_succ]
            refine det_read 21 (v := ?vx115) rfl (by kernel_rfl) rfl ?hyx115 ?restx115
            case hyx115 => (intro wS hSw; (try dsimp only at hSw); go_simp; try with_reducible rfl)
            try simp only [Act.put, List.setIfInBounds_toArray, List.set_cons_zero, List.set_cons_succ]
            refine det_read 22 (v := ?vx116) rfl (by kernel_rfl) rfl ?hyx116 ?restx116
            case hyx116 => (intro wS hSw; (try dsimp only at hSw); go_simp; try with_reducible rfl)
            try simp only [Act.put, List.setIfInBounds_toArray, List.set_cons_zero, List.set_cons_succ]
            refine det_read 23 (v := ?vx117) rfl (by kernel_rfl) rfl ?hyx117 ?restx117
            case hyx117 => (intro wS hSw; (try dsimp only at hSw); go_simp; try with_reducible rfl)
            try simp only [Act.put, List.setIfInBounds_toArray, List.set_cons_zero, List.set_cons_succ]
            refine det_read 24 (v := ?vx118) rfl (by kernel_rfl) rfl ?hyx118 ?restx118
            case hyx118 => (intro wS hSw; (try dsimp only at hSw); go_simp; try with_reducible rfl)
            try simp only [Act.put, List.setIfInBounds_toArray, List.set_cons_zero, List.set_cons_succ]
            refine det_read 25 (v := ?vx119) rfl (by kernel_rfl) rfl ?hyx119 ?restx119
            case hyx119 => (intro wS hSw; (try dsimp only at hSw); go_simp; try with_reducible rfl)
            try simp only [Act.put, List.setIfInBounds_toArray, List.set_cons_zero, List.set_cons_succ]
            refine det_read 26 (v := ?vx120) rfl (by kernel_rfl) rfl ?hyx120 ?restx120
            case hyx120 => (intro wS hSw; (try dsimp only at hSw); go_simp; try with_reducible rfl)
            try simp only [Act.put, List.setIfInBounds_toArray, List.set_cons_zero, List.set_cons_succ]
            refine det_done (by kernel_rfl) ?_
            rintro W ⟨_, _, hW⟩
            go_wp2
            go_roundg (N - (j + 1))
            case measure => omega
            case rel => exact ⟨j + 1, by omega, rfl, by go_num, HB.out.trans (hW.mono hsz)⟩
      · have hjj : j = N := by omega
        subst hjj
        have HBE : Hid (Below w.heap.size w wr) := B4.out.trans (HB.out.mono B4.out.size)
        go_wp2
        go_ret
        exact ⟨rfl, HBE.out⟩

theorem walk (w : World) (a0 : Option Addr) (len0 cap0 : Nat) (z0 : List ByteArray) (w0 : IsStrs w a0 len0 cap0 z0) (a1 : Int) (w1 : (Lit.int .u8 a1).wf = true) (a2 : Int) (w2 : (Lit.int .u8 a2).wf = true) (a3 : Int) (w3 : (Lit.int .u8 a3).wf = true) :
    Calls Try.prog 5 #[.slice a0 len0 cap0, .int .u8 a1, .int .u8 a2, .int .u8 a3] w fun e w' => e = .returned (.bool true) ∧ Below w.heap.size w w' := by
  obtain ⟨f, hm, _, hsz, hr⟩ := w0.open6
  have b1 := bounds_u8 w1
  have b2 := bounds_u8 w2
  have b3 := bounds_u8 w3
  obtain ⟨k, rfl⟩ := Int.eq_ofNat_of_zero_le b1.1
  obtain ⟨a, rfl⟩ := Int.eq_ofNat_of_zero_le b2.1
  obtain ⟨b, rfl⟩ := Int.eq_ofNat_of_zero_le b3.1
  obtain ⟨N, hN⟩ : ∃ N, 4 + k % 7 = N := ⟨_, rfl⟩
  have hN0 : 4 ≤ N := by omega
  have ma := Nat.mod_lt a (show 0 < N by omega)
  have mb := Nat.mod_lt b (show 0 < N by omega)
  by_cases h : a % N = b % N
  · have mc := Nat.mod_lt (a % N + 1) (show 0 < N by omega)
    have hne : a % N ≠ (a % N + 1) % N := by
      by_cases c : a % N + 1 < N
      · rw [Nat.mod_eq_of_lt c]; omega
      · rw [show a % N + 1 = N from by omega, Nat.mod_self]; omega
    exact core_met w a0 len0 cap0 f hr hm hsz k a b N (a % N) ((a % N + 1) % N) (by omega) hN (by omega) (by omega) ma mc hne rfl ⟨h.symm, rfl⟩
  · exact core_apart w a0 len0 cap0 f hr hm hsz k a b N (a % N) (b % N) (by omega) hN (by omega) (by omega) ma mb h rfl rfl

theorem own : ownKnob Try.prog.godebug = none := by kernel_rfl
theorem laidOut : laidOutB Try.prog = true := by kernel_rfl
set_option linter.unusedVariables false in
set_option maxRecDepth 100000 in
theorem lifted (os : Os) (started : os.Started) (H : Type) (enc : TypeId × Value → H) :
    ReturnsInHanded {} Try.checked os 5 .any (Rows.refillGoodSpec.pre6 enc Try.prog Try.f5 Rows.refillGoodRow.domain false) (Rows.refillGoodSpec.post enc Try.prog Try.f5 false true false false) := by
  refine returnsInHanded_of_change (C := Try.checked) own started (by kernel_rfl) Try.func5
    (ChangeSpec.witness6 (enc := enc) (C := Try.checked) false ⟨#[], #[.slice none 0 0, .int .u8 0, .int .u8 0, .int .u8 0], []⟩ 8 (by kernel_rfl) (by kernel_rfl) (by kernel_rfl) (by kernel_rfl)) ?_
  intro W base args ds gs before hval0 hW hcnd _
  have hval : ∀ (j : Nat) t v, Try.f5.params[j]? = some t → args[j]? = some v → Value.okWide Try.prog W .any base t v := hval0
  have hW' := hW
  obtain ⟨p, q, hA0, hV, rfl, hfz, hnd⟩ := hW
  have hA : DataW.TrodAll enc Try.prog W 0 (fun _ => true) true Try.f5.params.toList args.toList ds p := hA0
  rw [Try.params5] at hA hval
  obtain ⟨v0, vs0, d0, ds0, p0, q0, hargs, rfl, rfl, h0, r0⟩ := trodAll_cons hA
  obtain ⟨v1, vs1, d1, ds1, p1, q1, rfl, rfl, rfl, h1, r1⟩ := trodAll_cons r0
  obtain ⟨v2, vs2, d2, ds2, p2, q2, rfl, rfl, rfl, h2, r2⟩ := trodAll_cons r1
  obtain ⟨v3, vs3, d3, ds3, p3, q3, rfl, rfl, rfl, h3, r3⟩ := trodAll_cons r2
  obtain ⟨rfl, rfl, rfl⟩ := trodAll_nil r3
  obtain rfl : args = #[v0, v1, v2, v3] := by cases args; simp_all
  obtain ⟨rfl, rfl⟩ := trodVars_none hV
  obtain ⟨a0, len0, cap0, rfl⟩ := okWide_slice Try.underlying22 (hval 0 22 v0 rfl rfl)
  have k0 := h0
  have lt0 : ∀ x ∈ p0, x.block < W.heap.size := by obtain ⟨m, hm⟩ := k0; exact DataW.trod_lt m _ _ _ hm
  obtain ⟨z0, w0⟩ : ∃ zs, IsStrs W a0 len0 cap0 zs := by
    obtain ⟨fuel, hf⟩ := h0
    rcases open_strings Try.underlying22 Try.underlying9 (by kernel_rfl) hf with ⟨hcs, _⟩ | ⟨x, l, c, zs, hcs, _, hl, hm, hz, _, hcell, hwz⟩
    · simp [Value.cells] at hcs
      obtain ⟨rfl, rfl, rfl⟩ := hcs
      exact ⟨[], .inl ⟨rfl, rfl, rfl, rfl⟩⟩
    · simp [Value.cells] at hcs
      obtain ⟨rfl, rfl, rfl⟩ := hcs
      exact ⟨zs, .inr ⟨_, rfl, hl, hm, by simpa using hz, hcell, hwz⟩⟩
  obtain ⟨a1, rfl, rfl, rfl, w1⟩ := open_int Try.underlying5 (hval 1 5 v1 rfl rfl) h1
  obtain ⟨a2, rfl, rfl, rfl, w2⟩ := open_int Try.underlying5 (hval 2 5 v2 rfl rfl) h2
  obtain ⟨a3, rfl, rfl, rfl, w3⟩ := open_int Try.underlying5 (hval 3 5 v3 rfl rfl) h3
  clear hA0 hval0
  simp only [List.append_nil] at hW'
  refine (walk W a0 len0 cap0 z0 w0 a1 w1 a2 w2 a3 w3).mono fun e W' ⟨he, hg⟩ => ?_
  subst he
  exact ⟨_, rfl, _, _, _, [], _, [], hW', trodAll_mk1 (shut_bool Try.underlying4 _), (trodAll_cons_mk (Below.trod laidOut (by kernel_rfl) (of_decide_eq_true (by kernel_rfl)) k0 hg lt0) (trodAll_cons_mk (shut_int Try.underlying5 w1) (trodAll_cons_mk (shut_int Try.underlying5 w2) (trodAll_cons_mk (shut_int Try.underlying5 w3) trodAll_mk0)))), rfl, hg.frame _, fun h => by cases h⟩
/-- For every input the law returns true, and each argument reads as it did. -/
theorem proved : Rows.RefillGoodSaid :=
  OpenClaim.holds_of_wide 5 Try.f5 rfl rfl rfl rfl rfl rfl rfl ⟨rfl, rfl, rfl, rfl, rfl⟩ rfl rfl rfl rfl rfl (by kernel_rfl) Try.func5 (by kernel_rfl)
    (of_decide_eq_true (by kernel_rfl)) (by unfold Func.isWrapper; first | (rw [if_pos (by decide +kernel)]; kernel_rfl) | (rw [if_neg (by decide +kernel)]; exact ⟨rfl, rfl⟩))
    (fun os started H enc _ => lifted os started H enc)
end Go.Proofs.Ytjephdeolifbpaa.refillGood
