/- For all columns the law SyndromeSums returns true: P and Q of columns that are added are the sums of theirs, and Q of one column is that column (up to the law's own bound on lengths; beyond it the law says nothing). No condition. -/
import Derived.Test.YtekpamadimachaaSyn05
import Derived.Test.YtekpamadimachaaSynLin
import Derived.Test.YtekpamadimachaaKitDet
import Derived.ProofKit
import Derived.OpenShut
import Derived.ShutString
import Derived.ChangeOld
import Derived.Below
namespace Go.Proofs.Ytekpamadimachaa.syndromeSums
open Go.ChangeShapes Go.WideShapes Go.ChangeAt Go.RowKit
open Go.ChangeMaps (open_string shut_string)

set_option maxRecDepth 100000 in
set_option maxHeartbeats 8000000 in
theorem walk (w : World) (a0 : Option Addr) (len0 cap0 : Nat) (z0 : List ByteArray) (w0 : IsStrs w a0 len0 cap0 z0) (a1 : Option Addr) (len1 cap1 : Nat) (z1 : List ByteArray) (w1 : IsStrs w a1 len1 cap1 z1) :
    Calls Try.prog 6 #[.slice a0 len0 cap0, .slice a1 len1 cap1] w fun e w' => e = .returned (.bool true) ∧ Below w.heap.size w w' := by
  obtain ⟨f, hm0, hcap0, hsz0, hr0⟩ := w0.open5
  obtain ⟨g, hm1, hcap1, hsz1, hr1⟩ := w1.open5
  have HY0 := heavy5_any w a0 len0 cap0 f hr0 hsz0 hm0
  have HY1 := heavy5_any w a1 len1 cap1 g hr1 hsz1 hm1
  clear w0 w1 hsz0 hsz1
  go_enter Try.func6, Try.ntmps6
  go_wp2_with fail
  refine HY0.mono ?_
  rintro e w' ⟨hw, h⟩
  subst w'
  clear HY0
  rcases h with rfl | ⟨rfl, hL0⟩
  · clear HY1
    go_wp2_with fail
    refine (shown5_any _).mono ?_
    rintro e w1 ⟨rfl, b1⟩
    go_wp2
    go_ret
    exact ⟨rfl, b1⟩
  · go_wp2_with fail
    refine HY1.mono ?_
    rintro e w' ⟨hw, h⟩
    subst w'
    clear HY1
    rcases h with rfl | ⟨rfl, hL1⟩
    · go_wp2_with fail
      refine (shown5_any _).mono ?_
      rintro e w1 ⟨rfl, b1⟩
      go_wp2
      go_ret
      exact ⟨rfl, b1⟩
    · obtain ⟨N, hN⟩ : ∃ N, N = min len0 len1 := ⟨_, rfl⟩
      have hmin : ∀ (ts : Array TypeId) (ty : TypeId) (W : World), (Builtin.min_ ts ty #[.int .i64 (len0 : Int), .int .i64 (len1 : Int)]).run Try.prog W = .ok (.int .i64 (N : Int)) W := by
        intro ts ty W
        simp [Builtin.min_, Builtin.min2]
        omega
      have hN0 : N ≤ len0 := by omega
      have hN1 : N ≤ len1 := by omega
      have hN40 : N ≤ 40 := by have := hL0.1; omega
      have F0 : Hid (Fits 1048576 N f) := hL0.fits.mono hN0
      have F1 : Hid (Fits 1048576 N g) := hL1.fits.mono hN1
      have R0 : Hid (RowS w a0 N f) := hr0.mono hN0 fun _ _ => rfl
      have R1 : Hid (RowS w a1 N g) := hr1.mono hN1 fun _ _ => rfl
      have sl0 := run_slice_to a0 len0 cap0 N (by omega)
      have sl1 := run_slice_to a1 len1 cap1 N (by omega)
      have L0 : Hid (len0 ≤ 40) := hL0.1
      have L1 : Hid (len1 ≤ 40) := hL1.1
      have HMX : Hid (Try.prog.follows .mixedOrders = true) := by show _ = _; kernel_rfl
      obtain ⟨i0, hi, hz0, hz1, hz2⟩ := info_parts (show (Try.prog.info? 9).map (fun i => (i.zero, i.size, i.bytes)) = some (some (.string ByteArray.empty), 1, 16) from info_str)
      clear hr0 hr1 hL0 hL1 hm0 hm1 hN
      go_wp2_with fail
      refine (shown5_any _).mono ?_
      rintro e w1 ⟨rfl, b1⟩
      have B1 : Hid (Below w.heap.size w w1) := b1
      clear b1
      go_wp2
      go_loopg [6, 7] N (fun gg u i wr => ∃ (k : Nat) (v : Value), v = u ∧ k ≤ N ∧ gg = N - k ∧ i = .int .i64 k ∧ wr.ownsRow w1.heap.size 9 1 v k (textVals k fun i => Gfm.xorB (f i) (g i)) ∧ Below w1.heap.size w1 wr)
      case atStart => exact ⟨0, _, rfl, Nat.zero_le _, rfl, rfl, World.ownsRow_made _ _ _ (Nat.le_refl _) (by decide) rfl, (Below.refl _ _).alloc (Nat.le_refl _) _⟩
      case round =>
        obtain ⟨k, v, rfl, hk, rfl, rfl, hown, hb⟩ := hrel
        have OWN : Hid (wr.ownsRow w1.heap.size 9 1 v k (textVals k fun i => Gfm.xorB (f i) (g i))) := hown
        have HB : Hid (Below w1.heap.size w1 wr) := hb
        have hsz := hb.size
        clear hown hb
        by_cases hkN : k < N
        · obtain ⟨b0, o0, rfl, hc0⟩ := R0.out k hkN
          obtain ⟨b1, o1, rfl, hc1⟩ := R1.out k hkN
          have hc0 := ((B1.out.trans (HB.out.mono B1.out.size)).cell (p := ⟨b0, o0 + k, none⟩) (World.block_lt_of_cell? w _ hc0)).trans hc0
          have hc1 := ((B1.out.trans (HB.out.mono B1.out.size)).cell (p := ⟨b1, o1 + k, none⟩) (World.block_lt_of_cell? w _ hc1)).trans hc1
          have x0 := F0.out k hkN
          have x1 := F1.out k hkN
          have hkl0 : k < len0 := by omega
          have hkl1 : k < len1 := by omega
          have hXY : Hid ((fun i => Gfm.xorB (f i) (g i)) k = Gfm.xorB (f k) (g k)) := rfl
          obtain ⟨x, hx⟩ : ∃ x, f k = x := ⟨_, rfl⟩
          obtain ⟨y, hy⟩ : ∃ y, g k = y := ⟨_, rfl⟩
          rw [hx] at hc0 x0 hXY
          rw [hy] at hc1 x1 hXY
          clear hx hy
          have hS : (fun W : World => W.cell? ⟨b0, o0 + k, none⟩ = some (.string x) ∧ W.cell? ⟨b1, o1 + k, none⟩ = some (.string y)) wr.drew := ⟨hc0, hc1⟩
          go_wp2_with fail
          refine wp_region_held (S := fun W => W.cell? ⟨b0, o0 + k, none⟩ = some (.string x) ∧ W.cell? ⟨b1, o1 + k, none⟩ = some (.string y)) HMX.out ?_
          change wpAnyH _ _ _ _ _ _ _ _ wr.drew
          refine held_quiet 0 (v := ?v0) rfl (by kernel_rfl) (fun _ _ _ h => h) (by assumption) rfl ?hy0 ?rest0
          case hy0 => (intro wS hSw; (try dsimp only at hSw); go_simp; try with_reducible rfl)
          try simp only [Act.put, List.setIfInBounds_toArray, List.set_cons_zero, List.set_cons_succ]
          refine held_quiet 1 (v := ?v1) rfl (by kernel_rfl) (fun _ _ _ h => h) (by assumption) rfl ?hy1 ?rest1
          case hy1 => (intro wS hSw; (try dsimp only at hSw); go_simp; try with_reducible rfl)
          try simp only [Act.put, List.setIfInBounds_toArray, List.set_cons_zero, List.set_cons_succ]
          refine held_quiet 2 (v := ?v2) rfl (by kernel_rfl) (fun _ _ _ h => h) (by assumption) rfl ?hy2 ?rest2
          case hy2 => (intro wS hSw; (try dsimp only at hSw); go_simp; try with_reducible rfl)
          try simp only [Act.put, List.setIfInBounds_toArray, List.set_cons_zero, List.set_cons_succ]
          refine held_quiet 3 (v := ?v3) rfl (by kernel_rfl) (fun _ _ _ h => h) (by assumption) rfl ?hy3 ?rest3
          case hy3 => (intro wS hSw; (try dsimp only at hSw); go_simp; try with_reducible rfl)
          try simp only [Act.put, List.setIfInBounds_toArray, List.set_cons_zero, List.set_cons_succ]
          refine held_quiet 4 (v := ?v4) rfl (by kernel_rfl) (fun _ _ _ h => h) (by assumption) rfl ?hy4 ?rest4
          case hy4 => (intro wS hSw; (try dsimp only at hSw); go_simp; try with_reducible rfl)
          try simp only [Act.put, List.setIfInBounds_toArray, List.set_cons_zero, List.set_cons_succ]
          refine held_quiet 5 (v := ?v5) rfl (by kernel_rfl) (fun _ _ _ h => h) (by assumption) rfl ?hy5 ?rest5
          case hy5 => (intro wS hSw; (try dsimp only at hSw); go_simp; try with_reducible rfl)
          try simp only [Act.put, List.setIfInBounds_toArray, List.set_cons_zero, List.set_cons_succ]
          refine held_quiet 6 (v := ?v6) rfl (by kernel_rfl) (fun _ _ _ h => h) (by assumption) rfl ?hy6 ?rest6
          case hy6 => (intro wS hSw; (try dsimp only at hSw); go_simp; try with_reducible rfl)
          try simp only [Act.put, List.setIfInBounds_toArray, List.set_cons_zero, List.set_cons_succ]
          refine held_quiet 7 (v := ?v7) rfl (by kernel_rfl) (fun _ _ _ h => h) (by assumption) rfl ?hy7 ?rest7
          case hy7 => (intro wS hSw; (try dsimp only at hSw); go_simp; try with_reducible rfl)
          try simp only [Act.put, List.setIfInBounds_toArray, List.set_cons_zero, List.set_cons_succ]
          refine held_quiet 8 (v := ?v8) rfl (by kernel_rfl) (fun _ _ _ h => h) (by assumption) rfl ?hy8 ?rest8
          case hy8 => (intro wS hSw; (try dsimp only at hSw); go_simp; try with_reducible rfl)
          try simp only [Act.put, List.setIfInBounds_toArray, List.set_cons_zero, List.set_cons_succ]
          refine held_one 9 rfl (by kernel_rfl) ?_
          go_wp2_with fail
          refine (refXor_any x y x0 x1 _).mono ?_
          rintro e w2 ⟨rfl, hb2⟩
          have hb2 : Below wr.heap.size wr w2 := (Below.refl _ wr).drew.trans hb2
          have hs2 : w2.cell? ⟨b0, o0 + k, none⟩ = some (.string x) ∧ w2.cell? ⟨b1, o1 + k, none⟩ = some (.string y) := ⟨keep_one hb2 hc0, keep_one hb2 hc1⟩
          have own2 := ownsRow_below OWN.out hb2
          have hz2' := hb2.size
          go_wp2
          try refine ⟨hs2, ?_⟩
          refine held_one 10 rfl (by kernel_rfl) ?_
          have hal := ((Below.refl _ w2).alloc (Nat.le_refl _) (.cells #[.string (Gfm.xorB x y)] 9))
          have hs3 := And.intro (keep_one hal hs2.1) (keep_one hal hs2.2)
          go_wp2
          try refine ⟨hs3, ?_⟩
          refine held_one 11 rfl (by kernel_rfl) ?_
          refine wpList_append_own _ rfl _ _ 22 rfl w1.heap.size 9 i0 (.string ByteArray.empty) 1 16 Try.underlying22 hi hz0 hz1 hz2 rfl (by decide) v k (textVals k fun i => Gfm.xorB (f i) (g i)) rfl (own2.alloc _) ⟨w2.heap.size, 0, none⟩ 1 1 [.string (Gfm.xorB x y)] rfl rfl (cell_one_new _ _ _) (by simp [Value.oneCell']) (by unfold maxLen; omega) (by omega) (by simp; omega) ?_
          intro v' w3 hown' hgrow _
          have hb3 := below_append own2 (Nat.le_trans hsz hz2') hgrow
          have hB3 : Below w1.heap.size w1 w3 := (HB.out.trans (hb2.mono hsz)).trans hb3
          have hs4 : w3.cell? ⟨b0, o0 + k, none⟩ = some (.string x) ∧ w3.cell? ⟨b1, o1 + k, none⟩ = some (.string y) := by
            obtain ⟨b0', o0', e0, hc0'⟩ := R0.out k hkN
            obtain ⟨b1', o1', e1, hc1'⟩ := R1.out k hkN
            cases e0; cases e1
            have l0 := World.block_lt_of_cell? w _ hc0'
            have l1 := World.block_lt_of_cell? w _ hc1'
            have := B1.out.size
            exact ⟨(hb3.cell (p := ⟨b0, o0 + k, none⟩) (Nat.lt_of_lt_of_le l0 this)).trans hs2.1, (hb3.cell (p := ⟨b1, o1 + k, none⟩) (Nat.lt_of_lt_of_le l1 this)).trans hs2.2⟩
          try refine ⟨hs4, ?_⟩
          refine held_one 12 rfl (by kernel_rfl) ?_
          go_wp2
          try refine ⟨hs4, ?_⟩
          refine held_done (by kernel_rfl) ?_
          have HO : Hid (w3.ownsRow w1.heap.size 9 1 v' (k + 1) (textVals (k + 1) fun i => Gfm.xorB (f i) (g i))) := by
            show World.ownsRow _ _ _ _ _ _ _
            rw [← textVals_snoc, hXY.out]; exact hown'
          have HB3 : Hid (Below w1.heap.size w1 w3) := hB3
          clear hown' hgrow hb3 hB3 hs4 hs3 hs2 hal own2
          go_wp2
          go_roundg (N - (k + 1))
          case measure => omega
          case rel => exact ⟨k + 1, _, rfl, by omega, rfl, by go_num, HO.out, HB3.out⟩
        · have hkk : k = N := by omega
          subst hkk
          obtain ⟨ar, cs, rfl, hrs, _, _⟩ := RowS.of_owns OWN.out
          have hlow : Below w.heap.size w wr := B1.out.trans (HB.out.mono B1.out.size)
          have N20 : k ≤ 1048576 := by omega
          have f0 := F0.out
          have f1 := F1.out
          have hPs := fun (W : World) (h : Below wr.heap.size wr W) => P_any k (fun i => Gfm.xorB (f i) (g i)) N20 (f0.xor f1) ar cs W (hrs.below h)
          have hP0 := fun (W : World) (h : Below wr.heap.size wr W) => P_any k f N20 f0 a0 cap0 W ((R0.out.below hlow).below h)
          have hP1 := fun (W : World) (h : Below wr.heap.size wr W) => P_any k g N20 f1 a1 cap1 W ((R1.out.below hlow).below h)
          have hQs := fun (W : World) (h : Below wr.heap.size wr W) => Q_any k (fun i => Gfm.xorB (f i) (g i)) N20 (f0.xor f1) ar cs W (hrs.below h)
          have hQ0 := fun (W : World) (h : Below wr.heap.size wr W) => Q_any k f N20 f0 a0 cap0 W ((R0.out.below hlow).below h)
          have hQ1 := fun (W : World) (h : Below wr.heap.size wr W) => Q_any k g N20 f1 a1 cap1 W ((R1.out.below hlow).below h)
          have p0 := f0.add
          have p1 := f1.add
          have q0 := f0.qT.add
          have q1 := f1.qT.add
          rw [Gfm.addF_xor] at hPs
          rw [Gfm.addQ_xor] at hQs
          have ONE : Hid (k = 1 → Gfm.addF k (Gfm.qT f) = f 0) := fun e => by subst e; exact Gfm.addQ_one f
          obtain ⟨P0, hP0e⟩ : ∃ x, Gfm.addF k f = x := ⟨_, rfl⟩
          obtain ⟨P1, hP1e⟩ : ∃ x, Gfm.addF k g = x := ⟨_, rfl⟩
          obtain ⟨Q0, hQ0e⟩ : ∃ x, Gfm.addF k (Gfm.qT f) = x := ⟨_, rfl⟩
          obtain ⟨Q1, hQ1e⟩ : ∃ x, Gfm.addF k (Gfm.qT g) = x := ⟨_, rfl⟩
          rw [hP0e] at hPs hP0 p0
          rw [hP1e] at hPs hP1 p1
          rw [hQ0e] at hQs hQ0 q0 ONE
          rw [hQ1e] at hQs hQ1 q1
          have hX0 := fun W => refXor_any P0 P1 p0 p1 W
          have hX1 := fun W => refXor_any Q0 Q1 q0 q1 W
          have HLOW : Hid (Below w.heap.size w wr) := hlow
          have hS0 : Below wr.heap.size wr wr.drew := (Below.refl _ _).drew
          clear hP0e hP1e hQ0e hQ1e f0 f1 p0 p1 q0 q1 hrs hlow hi hz0 hz1 hz2
          by_cases hN1 : k = 1
          · have hne : ((k : Int) != 1) = false := by rw [bne_eq_false_iff_eq]; omega
            obtain ⟨b0, o0, rfl, hc0⟩ := R0.out 0 (by omega)
            have hc0 := (HLOW.out.cell (p := ⟨b0, o0 + 0, none⟩) (World.block_lt_of_cell? w _ hc0)).trans hc0
            have hkl0 : 0 < len0 := by omega
            have one := ONE.out hN1
            rw [← one, Nat.add_zero] at hc0
            have hS1 : wr.cell? ⟨b0, o0, none⟩ = some (.string Q0) ∧ Below wr.heap.size wr wr.drew := ⟨hc0, hS0⟩
            clear one hN1
            go_wp2_with fail
            refine region_det (fun W => W.cell? ⟨b0, o0, none⟩ = some (.string Q0) ∧ Below wr.heap.size wr W) HMX.out (by kernel_rfl) hS1 ?_
            refine det_read 0 (v := ?vx1) rfl (by kernel_rfl) rfl ?hyx1 ?restx1
            case hyx1 => (intro wS hSw; (try dsimp only at hSw); go_simp; try with_reducible rfl)
            try simp only [Act.put, List.setIfInBounds_toArray, List.set_cons_zero, List.set_cons_succ]
            refine det_call 1 rfl (by kernel_rfl) rfl ?hyx66 (fun W h => det_sees (hPs W h.2) h) ?restx66
            case hyx66 => (intro wS hSw; go_simp; try with_reducible rfl)
            try simp only [Act.put, List.setIfInBounds_toArray, List.set_cons_zero, List.set_cons_succ]
            refine det_read 2 (v := ?vx2) rfl (by kernel_rfl) rfl ?hyx2 ?restx2
            case hyx2 => (intro wS hSw; (try dsimp only at hSw); go_simp; try with_reducible rfl)
            try simp only [Act.put, List.setIfInBounds_toArray, List.set_cons_zero, List.set_cons_succ]
            refine det_read 3 (v := ?vx3) rfl (by kernel_rfl) rfl ?hyx3 ?restx3
            case hyx3 => (intro wS hSw; (try dsimp only at hSw); go_simp; try with_reducible rfl)
            try simp only [Act.put, List.setIfInBounds_toArray, List.set_cons_zero, List.set_cons_succ]
            refine det_read 4 (v := ?vx4) rfl (by kernel_rfl) rfl ?hyx4 ?restx4
            case hyx4 => (intro wS hSw; (try dsimp only at hSw); go_simp; try with_reducible rfl)
            try simp only [Act.put, List.setIfInBounds_toArray, List.set_cons_zero, List.set_cons_succ]
            refine det_call 5 rfl (by kernel_rfl) rfl ?hyx67 (fun W h => det_sees (hP0 W h.2) h) ?restx67
            case hyx67 => (intro wS hSw; go_simp; try with_reducible rfl)
            try simp only [Act.put, List.setIfInBounds_toArray, List.set_cons_zero, List.set_cons_succ]
            refine det_read 6 (v := ?vx5) rfl (by kernel_rfl) rfl ?hyx5 ?restx5
            case hyx5 => (intro wS hSw; (try dsimp only at hSw); go_simp; try with_reducible rfl)
            try simp only [Act.put, List.setIfInBounds_toArray, List.set_cons_zero, List.set_cons_succ]
            refine det_read 7 (v := ?vx6) rfl (by kernel_rfl) rfl ?hyx6 ?restx6
            case hyx6 => (intro wS hSw; (try dsimp only at hSw); go_simp; try with_reducible rfl)
            try simp only [Act.put, List.setIfInBounds_toArray, List.set_cons_zero, List.set_cons_succ]
            refine det_read 8 (v := ?vx7) rfl (by kernel_rfl) rfl ?hyx7 ?restx7
            case hyx7 => (intro wS hSw; (try dsimp only at hSw); go_simp; try with_reducible rfl)
            try simp only [Act.put, List.setIfInBounds_toArray, List.set_cons_zero, List.set_cons_succ]
            refine det_call 9 rfl (by kernel_rfl) rfl ?hyx68 (fun W h => det_sees (hP1 W h.2) h) ?restx68
            case hyx68 => (intro wS hSw; go_simp; try with_reducible rfl)
            try simp only [Act.put, List.setIfInBounds_toArray, List.set_cons_zero, List.set_cons_succ]
            refine det_call 10 rfl (by kernel_rfl) rfl ?hyx69 (fun W h => det_sees (hX0 W) h) ?restx69
            case hyx69 => (intro wS hSw; go_simp; try with_reducible rfl)
            try simp only [Act.put, List.setIfInBounds_toArray, List.set_cons_zero, List.set_cons_succ]
            refine det_read 11 (v := ?vx8) rfl (by kernel_rfl) rfl ?hyx8 ?restx8
            case hyx8 => (intro wS hSw; (try dsimp only at hSw); go_simp; try with_reducible rfl)
            try simp only [Act.put, List.setIfInBounds_toArray, List.set_cons_zero, List.set_cons_succ]
            refine det_read 12 (v := ?vx9) rfl (by kernel_rfl) rfl ?hyx9 ?restx9
            case hyx9 => (intro wS hSw; (try dsimp only at hSw); go_simp; try with_reducible rfl)
            try simp only [Act.put, List.setIfInBounds_toArray, List.set_cons_zero, List.set_cons_succ]
            refine det_read 13 (v := ?vx10) rfl (by kernel_rfl) rfl ?hyx10 ?restx10
            case hyx10 => (intro wS hSw; (try dsimp only at hSw); go_simp; try with_reducible rfl)
            try simp only [Act.put, List.setIfInBounds_toArray, List.set_cons_zero, List.set_cons_succ]
            refine det_call 14 rfl (by kernel_rfl) rfl ?hyx70 (fun W h => det_sees (hQs W h.2) h) ?restx70
            case hyx70 => (intro wS hSw; go_simp; try with_reducible rfl)
            try simp only [Act.put, List.setIfInBounds_toArray, List.set_cons_zero, List.set_cons_succ]
            refine det_read 15 (v := ?vx11) rfl (by kernel_rfl) rfl ?hyx11 ?restx11
            case hyx11 => (intro wS hSw; (try dsimp only at hSw); go_simp; try with_reducible rfl)
            try simp only [Act.put, List.setIfInBounds_toArray, List.set_cons_zero, List.set_cons_succ]
            refine det_read 16 (v := ?vx12) rfl (by kernel_rfl) rfl ?hyx12 ?restx12
            case hyx12 => (intro wS hSw; (try dsimp only at hSw); go_simp; try with_reducible rfl)
            try simp only [Act.put, List.setIfInBounds_toArray, List.set_cons_zero, List.set_cons_succ]
            refine det_read 17 (v := ?vx13) rfl (by kernel_rfl) rfl ?hyx13 ?restx13
            case hyx13 => (intro wS hSw; (try dsimp only at hSw); go_simp; try with_reducible rfl)
            try simp only [Act.put, List.setIfInBounds_toArray, List.set_cons_zero, List.set_cons_succ]
            refine det_call 18 rfl (by kernel_rfl) rfl ?hyx71 (fun W h => det_sees (hQ0 W h.2) h) ?restx71
            case hyx71 => (intro wS hSw; go_simp; try with_reducible rfl)
            try simp only [Act.put, List.setIfInBounds_toArray, List.set_cons_zero, List.set_cons_succ]
            refine det_read 19 (v := ?vx14) rfl (by kernel_rfl) rfl ?hyx14 ?restx14
            case hyx14 => (intro wS hSw; (try dsimp only at hSw); go_simp; try with_reducible rfl)
            try simp only [Act.put, List.setIfInBounds_toArray, List.set_cons_zero, List.set_cons_succ]
            refine det_read 20 (v := ?vx15) rfl (by kernel_rfl) rfl ?hyx15 ?restx15
            case hyx15 => (intro wS hSw; (try dsimp only at hSw); go_simp; try with_reducible rfl)
            try simp only [Act.put, List.setIfInBounds_toArray, List.set_cons_zero, List.set_cons_succ]
            refine det_read 21 (v := ?vx16) rfl (by kernel_rfl) rfl ?hyx16 ?restx16
            case hyx16 => (intro wS hSw; (try dsimp only at hSw); go_simp; try with_reducible rfl)
            try simp only [Act.put, List.setIfInBounds_toArray, List.set_cons_zero, List.set_cons_succ]
            refine det_call 22 rfl (by kernel_rfl) rfl ?hyx72 (fun W h => det_sees (hQ1 W h.2) h) ?restx72
            case hyx72 => (intro wS hSw; go_simp; try with_reducible rfl)
            try simp only [Act.put, List.setIfInBounds_toArray, List.set_cons_zero, List.set_cons_succ]
            refine det_call 23 rfl (by kernel_rfl) rfl ?hyx73 (fun W h => det_sees (hX1 W) h) ?restx73
            case hyx73 => (intro wS hSw; go_simp; try with_reducible rfl)
            try simp only [Act.put, List.setIfInBounds_toArray, List.set_cons_zero, List.set_cons_succ]
            refine det_read 24 (v := ?vx17) rfl (by kernel_rfl) rfl ?hyx17 ?restx17
            case hyx17 => (intro wS hSw; (try dsimp only at hSw); go_simp; try with_reducible rfl)
            try simp only [Act.put, List.setIfInBounds_toArray, List.set_cons_zero, List.set_cons_succ]
            refine det_read 25 (v := ?vx18) rfl (by kernel_rfl) rfl ?hyx18 ?restx18
            case hyx18 => (intro wS hSw; (try dsimp only at hSw); go_simp; try with_reducible rfl)
            try simp only [Act.put, List.setIfInBounds_toArray, List.set_cons_zero, List.set_cons_succ]
            refine det_read 26 (v := ?vx19) rfl (by kernel_rfl) rfl ?hyx19 ?restx19
            case hyx19 => (intro wS hSw; (try dsimp only at hSw); go_simp; try with_reducible rfl)
            try simp only [Act.put, List.setIfInBounds_toArray, List.set_cons_zero, List.set_cons_succ]
            refine det_read 27 (v := ?vx20) rfl (by kernel_rfl) rfl ?hyx20 ?restx20
            case hyx20 => (intro wS hSw; (try dsimp only at hSw); go_simp; try with_reducible rfl)
            try simp only [Act.put, List.setIfInBounds_toArray, List.set_cons_zero, List.set_cons_succ]
            refine det_read 28 (v := ?vx21) rfl (by kernel_rfl) rfl ?hyx21 ?restx21
            case hyx21 => (intro wS hSw; (try dsimp only at hSw); go_simp; try with_reducible rfl)
            try simp only [Act.put, List.setIfInBounds_toArray, List.set_cons_zero, List.set_cons_succ]
            refine det_read 29 (v := ?vx22) rfl (by kernel_rfl) rfl ?hyx22 ?restx22
            case hyx22 => (intro wS hSw; (try dsimp only at hSw); go_simp; try with_reducible rfl)
            try simp only [Act.put, List.setIfInBounds_toArray, List.set_cons_zero, List.set_cons_succ]
            refine det_read 30 (v := ?vx23) rfl (by kernel_rfl) rfl ?hyx23 ?restx23
            case hyx23 => (intro wS hSw; (try dsimp only at hSw); go_simp; try with_reducible rfl)
            try simp only [Act.put, List.setIfInBounds_toArray, List.set_cons_zero, List.set_cons_succ]
            refine det_read 31 (v := ?vx24) rfl (by kernel_rfl) rfl ?hyx24 ?restx24
            case hyx24 => (intro wS hSw; (try dsimp only at hSw); go_simp; try with_reducible rfl)
            try simp only [Act.put, List.setIfInBounds_toArray, List.set_cons_zero, List.set_cons_succ]
            refine det_read 32 (v := ?vx25) rfl (by kernel_rfl) rfl ?hyx25 ?restx25
            case hyx25 => (intro wS hSw; (try dsimp only at hSw); go_simp; try with_reducible rfl)
            try simp only [Act.put, List.setIfInBounds_toArray, List.set_cons_zero, List.set_cons_succ]
            refine det_call 33 rfl (by kernel_rfl) rfl ?hyx74 (fun W h => det_sees (hQ0 W h.2) h) ?restx74
            case hyx74 => (intro wS hSw; go_simp; try with_reducible rfl)
            try simp only [Act.put, List.setIfInBounds_toArray, List.set_cons_zero, List.set_cons_succ]
            refine det_read 34 (v := ?vx26) rfl (by kernel_rfl) rfl ?hyx26 ?restx26
            case hyx26 => (intro wS hSw; (try dsimp only at hSw); go_simp; try with_reducible rfl)
            try simp only [Act.put, List.setIfInBounds_toArray, List.set_cons_zero, List.set_cons_succ]
            refine det_read 35 (v := ?vx27) rfl (by kernel_rfl) rfl ?hyx27 ?restx27
            case hyx27 => (intro wS hSw; (try dsimp only at hSw); go_simp; try with_reducible rfl)
            try simp only [Act.put, List.setIfInBounds_toArray, List.set_cons_zero, List.set_cons_succ]
            refine det_read 36 (v := ?vx28) rfl (by kernel_rfl) rfl ?hyx28 ?restx28
            case hyx28 => (intro wS hSw; (try dsimp only at hSw); go_simp; try with_reducible rfl)
            try simp only [Act.put, List.setIfInBounds_toArray, List.set_cons_zero, List.set_cons_succ]
            refine det_read 37 (v := ?vx29) rfl (by kernel_rfl) rfl ?hyx29 ?restx29
            case hyx29 => (intro wS hSw; (try dsimp only at hSw); go_simp; try with_reducible rfl)
            try simp only [Act.put, List.setIfInBounds_toArray, List.set_cons_zero, List.set_cons_succ]
            refine det_read 38 (v := ?vx30) rfl (by kernel_rfl) rfl ?hyx30 ?restx30
            case hyx30 => (intro wS hSw; (try dsimp only at hSw); go_simp; try with_reducible rfl)
            try simp only [Act.put, List.setIfInBounds_toArray, List.set_cons_zero, List.set_cons_succ]
            refine det_read 39 (v := ?vx31) rfl (by kernel_rfl) rfl ?hyx31 ?restx31
            case hyx31 => (intro wS hSw; (try dsimp only at hSw); go_simp; try with_reducible rfl)
            try simp only [Act.put, List.setIfInBounds_toArray, List.set_cons_zero, List.set_cons_succ]
            refine det_read 40 (v := ?vx32) rfl (by kernel_rfl) rfl ?hyx32 ?restx32
            case hyx32 => (intro wS hSw; (try dsimp only at hSw); go_simp; try with_reducible rfl)
            try simp only [Act.put, List.setIfInBounds_toArray, List.set_cons_zero, List.set_cons_succ]
            refine det_done (by kernel_rfl) ?_
            intro W hW
            go_wp2
            go_ret
            exact ⟨rfl, HLOW.out.trans (hW.2.mono HLOW.out.size)⟩
          · have hne : ((k : Int) != 1) = true := by rw [bne_iff_ne]; omega
            clear ONE hN1
            go_wp2_with fail
            refine region_det (fun W => Below wr.heap.size wr W) HMX.out (by kernel_rfl) hS0 ?_
            refine det_read 0 (v := ?vx33) rfl (by kernel_rfl) rfl ?hyx33 ?restx33
            case hyx33 => (intro wS hSw; (try dsimp only at hSw); go_simp; try with_reducible rfl)
            try simp only [Act.put, List.setIfInBounds_toArray, List.set_cons_zero, List.set_cons_succ]
            refine det_call 1 rfl (by kernel_rfl) rfl ?hyx75 (fun W h => det_low (hPs W h) h) ?restx75
            case hyx75 => (intro wS hSw; go_simp; try with_reducible rfl)
            try simp only [Act.put, List.setIfInBounds_toArray, List.set_cons_zero, List.set_cons_succ]
            refine det_read 2 (v := ?vx34) rfl (by kernel_rfl) rfl ?hyx34 ?restx34
            case hyx34 => (intro wS hSw; (try dsimp only at hSw); go_simp; try with_reducible rfl)
            try simp only [Act.put, List.setIfInBounds_toArray, List.set_cons_zero, List.set_cons_succ]
            refine det_read 3 (v := ?vx35) rfl (by kernel_rfl) rfl ?hyx35 ?restx35
            case hyx35 => (intro wS hSw; (try dsimp only at hSw); go_simp; try with_reducible rfl)
            try simp only [Act.put, List.setIfInBounds_toArray, List.set_cons_zero, List.set_cons_succ]
            refine det_read 4 (v := ?vx36) rfl (by kernel_rfl) rfl ?hyx36 ?restx36
            case hyx36 => (intro wS hSw; (try dsimp only at hSw); go_simp; try with_reducible rfl)
            try simp only [Act.put, List.setIfInBounds_toArray, List.set_cons_zero, List.set_cons_succ]
            refine det_call 5 rfl (by kernel_rfl) rfl ?hyx76 (fun W h => det_low (hP0 W h) h) ?restx76
            case hyx76 => (intro wS hSw; go_simp; try with_reducible rfl)
            try simp only [Act.put, List.setIfInBounds_toArray, List.set_cons_zero, List.set_cons_succ]
            refine det_read 6 (v := ?vx37) rfl (by kernel_rfl) rfl ?hyx37 ?restx37
            case hyx37 => (intro wS hSw; (try dsimp only at hSw); go_simp; try with_reducible rfl)
            try simp only [Act.put, List.setIfInBounds_toArray, List.set_cons_zero, List.set_cons_succ]
            refine det_read 7 (v := ?vx38) rfl (by kernel_rfl) rfl ?hyx38 ?restx38
            case hyx38 => (intro wS hSw; (try dsimp only at hSw); go_simp; try with_reducible rfl)
            try simp only [Act.put, List.setIfInBounds_toArray, List.set_cons_zero, List.set_cons_succ]
            refine det_read 8 (v := ?vx39) rfl (by kernel_rfl) rfl ?hyx39 ?restx39
            case hyx39 => (intro wS hSw; (try dsimp only at hSw); go_simp; try with_reducible rfl)
            try simp only [Act.put, List.setIfInBounds_toArray, List.set_cons_zero, List.set_cons_succ]
            refine det_call 9 rfl (by kernel_rfl) rfl ?hyx77 (fun W h => det_low (hP1 W h) h) ?restx77
            case hyx77 => (intro wS hSw; go_simp; try with_reducible rfl)
            try simp only [Act.put, List.setIfInBounds_toArray, List.set_cons_zero, List.set_cons_succ]
            refine det_call 10 rfl (by kernel_rfl) rfl ?hyx78 (fun W h => det_low (hX0 W) h) ?restx78
            case hyx78 => (intro wS hSw; go_simp; try with_reducible rfl)
            try simp only [Act.put, List.setIfInBounds_toArray, List.set_cons_zero, List.set_cons_succ]
            refine det_read 11 (v := ?vx40) rfl (by kernel_rfl) rfl ?hyx40 ?restx40
            case hyx40 => (intro wS hSw; (try dsimp only at hSw); go_simp; try with_reducible rfl)
            try simp only [Act.put, List.setIfInBounds_toArray, List.set_cons_zero, List.set_cons_succ]
            refine det_read 12 (v := ?vx41) rfl (by kernel_rfl) rfl ?hyx41 ?restx41
            case hyx41 => (intro wS hSw; (try dsimp only at hSw); go_simp; try with_reducible rfl)
            try simp only [Act.put, List.setIfInBounds_toArray, List.set_cons_zero, List.set_cons_succ]
            refine det_read 13 (v := ?vx42) rfl (by kernel_rfl) rfl ?hyx42 ?restx42
            case hyx42 => (intro wS hSw; (try dsimp only at hSw); go_simp; try with_reducible rfl)
            try simp only [Act.put, List.setIfInBounds_toArray, List.set_cons_zero, List.set_cons_succ]
            refine det_call 14 rfl (by kernel_rfl) rfl ?hyx79 (fun W h => det_low (hQs W h) h) ?restx79
            case hyx79 => (intro wS hSw; go_simp; try with_reducible rfl)
            try simp only [Act.put, List.setIfInBounds_toArray, List.set_cons_zero, List.set_cons_succ]
            refine det_read 15 (v := ?vx43) rfl (by kernel_rfl) rfl ?hyx43 ?restx43
            case hyx43 => (intro wS hSw; (try dsimp only at hSw); go_simp; try with_reducible rfl)
            try simp only [Act.put, List.setIfInBounds_toArray, List.set_cons_zero, List.set_cons_succ]
            refine det_read 16 (v := ?vx44) rfl (by kernel_rfl) rfl ?hyx44 ?restx44
            case hyx44 => (intro wS hSw; (try dsimp only at hSw); go_simp; try with_reducible rfl)
            try simp only [Act.put, List.setIfInBounds_toArray, List.set_cons_zero, List.set_cons_succ]
            refine det_read 17 (v := ?vx45) rfl (by kernel_rfl) rfl ?hyx45 ?restx45
            case hyx45 => (intro wS hSw; (try dsimp only at hSw); go_simp; try with_reducible rfl)
            try simp only [Act.put, List.setIfInBounds_toArray, List.set_cons_zero, List.set_cons_succ]
            refine det_call 18 rfl (by kernel_rfl) rfl ?hyx80 (fun W h => det_low (hQ0 W h) h) ?restx80
            case hyx80 => (intro wS hSw; go_simp; try with_reducible rfl)
            try simp only [Act.put, List.setIfInBounds_toArray, List.set_cons_zero, List.set_cons_succ]
            refine det_read 19 (v := ?vx46) rfl (by kernel_rfl) rfl ?hyx46 ?restx46
            case hyx46 => (intro wS hSw; (try dsimp only at hSw); go_simp; try with_reducible rfl)
            try simp only [Act.put, List.setIfInBounds_toArray, List.set_cons_zero, List.set_cons_succ]
            refine det_read 20 (v := ?vx47) rfl (by kernel_rfl) rfl ?hyx47 ?restx47
            case hyx47 => (intro wS hSw; (try dsimp only at hSw); go_simp; try with_reducible rfl)
            try simp only [Act.put, List.setIfInBounds_toArray, List.set_cons_zero, List.set_cons_succ]
            refine det_read 21 (v := ?vx48) rfl (by kernel_rfl) rfl ?hyx48 ?restx48
            case hyx48 => (intro wS hSw; (try dsimp only at hSw); go_simp; try with_reducible rfl)
            try simp only [Act.put, List.setIfInBounds_toArray, List.set_cons_zero, List.set_cons_succ]
            refine det_call 22 rfl (by kernel_rfl) rfl ?hyx81 (fun W h => det_low (hQ1 W h) h) ?restx81
            case hyx81 => (intro wS hSw; go_simp; try with_reducible rfl)
            try simp only [Act.put, List.setIfInBounds_toArray, List.set_cons_zero, List.set_cons_succ]
            refine det_call 23 rfl (by kernel_rfl) rfl ?hyx82 (fun W h => det_low (hX1 W) h) ?restx82
            case hyx82 => (intro wS hSw; go_simp; try with_reducible rfl)
            try simp only [Act.put, List.setIfInBounds_toArray, List.set_cons_zero, List.set_cons_succ]
            refine det_read 24 (v := ?vx49) rfl (by kernel_rfl) rfl ?hyx49 ?restx49
            case hyx49 => (intro wS hSw; (try dsimp only at hSw); go_simp; try with_reducible rfl)
            try simp only [Act.put, List.setIfInBounds_toArray, List.set_cons_zero, List.set_cons_succ]
            refine det_read 25 (v := ?vx50) rfl (by kernel_rfl) rfl ?hyx50 ?restx50
            case hyx50 => (intro wS hSw; (try dsimp only at hSw); go_simp; try with_reducible rfl)
            try simp only [Act.put, List.setIfInBounds_toArray, List.set_cons_zero, List.set_cons_succ]
            refine det_read 26 (v := ?vx51) rfl (by kernel_rfl) rfl ?hyx51 ?restx51
            case hyx51 => (intro wS hSw; (try dsimp only at hSw); go_simp; try with_reducible rfl)
            try simp only [Act.put, List.setIfInBounds_toArray, List.set_cons_zero, List.set_cons_succ]
            refine det_read 27 (v := ?vx52) rfl (by kernel_rfl) rfl ?hyx52 ?restx52
            case hyx52 => (intro wS hSw; (try dsimp only at hSw); go_simp; try with_reducible rfl)
            try simp only [Act.put, List.setIfInBounds_toArray, List.set_cons_zero, List.set_cons_succ]
            refine det_read 28 (v := ?vx53) rfl (by kernel_rfl) rfl ?hyx53 ?restx53
            case hyx53 => (intro wS hSw; (try dsimp only at hSw); go_simp; try with_reducible rfl)
            try simp only [Act.put, List.setIfInBounds_toArray, List.set_cons_zero, List.set_cons_succ]
            refine det_read 29 (v := ?vx54) rfl (by kernel_rfl) rfl ?hyx54 ?restx54
            case hyx54 => (intro wS hSw; (try dsimp only at hSw); go_simp; try with_reducible rfl)
            try simp only [Act.put, List.setIfInBounds_toArray, List.set_cons_zero, List.set_cons_succ]
            refine det_skip 30 rfl (by kernel_rfl) rfl ?restx58
            try simp only [Act.put, List.setIfInBounds_toArray, List.set_cons_zero, List.set_cons_succ]
            refine det_skip 31 rfl (by kernel_rfl) rfl ?restx59
            try simp only [Act.put, List.setIfInBounds_toArray, List.set_cons_zero, List.set_cons_succ]
            refine det_skip 32 rfl (by kernel_rfl) rfl ?restx60
            try simp only [Act.put, List.setIfInBounds_toArray, List.set_cons_zero, List.set_cons_succ]
            refine det_skip 33 rfl (by kernel_rfl) rfl ?restx61
            try simp only [Act.put, List.setIfInBounds_toArray, List.set_cons_zero, List.set_cons_succ]
            refine det_skip 34 rfl (by kernel_rfl) rfl ?restx62
            try simp only [Act.put, List.setIfInBounds_toArray, List.set_cons_zero, List.set_cons_succ]
            refine det_skip 35 rfl (by kernel_rfl) rfl ?restx63
            try simp only [Act.put, List.setIfInBounds_toArray, List.set_cons_zero, List.set_cons_succ]
            refine det_skip 36 rfl (by kernel_rfl) rfl ?restx64
            try simp only [Act.put, List.setIfInBounds_toArray, List.set_cons_zero, List.set_cons_succ]
            refine det_skip 37 rfl (by kernel_rfl) rfl ?restx65
            try simp only [Act.put, List.setIfInBounds_toArray, List.set_cons_zero, List.set_cons_succ]
            refine det_read 38 (v := ?vx55) rfl (by kernel_rfl) rfl ?hyx55 ?restx55
            case hyx55 => (intro wS hSw; (try dsimp only at hSw); go_simp; try with_reducible rfl)
            try simp only [Act.put, List.setIfInBounds_toArray, List.set_cons_zero, List.set_cons_succ]
            refine det_read 39 (v := ?vx56) rfl (by kernel_rfl) rfl ?hyx56 ?restx56
            case hyx56 => (intro wS hSw; (try dsimp only at hSw); go_simp; try with_reducible rfl)
            try simp only [Act.put, List.setIfInBounds_toArray, List.set_cons_zero, List.set_cons_succ]
            refine det_read 40 (v := ?vx57) rfl (by kernel_rfl) rfl ?hyx57 ?restx57
            case hyx57 => (intro wS hSw; (try dsimp only at hSw); go_simp; try with_reducible rfl)
            try simp only [Act.put, List.setIfInBounds_toArray, List.set_cons_zero, List.set_cons_succ]
            refine det_done (by kernel_rfl) ?_
            intro W hW
            go_wp2
            go_ret
            exact ⟨rfl, HLOW.out.trans (hW.mono HLOW.out.size)⟩

theorem own : ownKnob Try.prog.godebug = none := by kernel_rfl
theorem laidOut : laidOutB Try.prog = true := by kernel_rfl
set_option linter.unusedVariables false in
set_option maxRecDepth 100000 in
theorem lifted (os : Os) (started : os.Started) (H : Type) (enc : TypeId × Value → H) :
    ReturnsInHanded {} Try.checked os 6 .any (Rows.syndromeSumsSpec.pre6 enc Try.prog Try.f6 Rows.syndromeSumsRow.domain false) (Rows.syndromeSumsSpec.post enc Try.prog Try.f6 false true false false) := by
  refine returnsInHanded_of_change (C := Try.checked) own started (by kernel_rfl) Try.func6
    (ChangeSpec.witness6 (enc := enc) (C := Try.checked) false ⟨#[], #[.slice none 0 0, .slice none 0 0], []⟩ 8 (by kernel_rfl) (by kernel_rfl) (by kernel_rfl) (by kernel_rfl)) ?_
  intro W base args ds gs before hval0 hW hcnd _
  have hval : ∀ (j : Nat) t v, Try.f6.params[j]? = some t → args[j]? = some v → Value.okWide Try.prog W .any base t v := hval0
  have hW' := hW
  obtain ⟨p, q, hA0, hV, rfl, hfz, hnd⟩ := hW
  have hA : DataW.TrodAll enc Try.prog W 0 (fun _ => true) true Try.f6.params.toList args.toList ds p := hA0
  rw [Try.params6] at hA hval
  obtain ⟨v0, vs0, d0, ds0, p0, q0, hargs, rfl, rfl, h0, r0⟩ := trodAll_cons hA
  obtain ⟨v1, vs1, d1, ds1, p1, q1, rfl, rfl, rfl, h1, r1⟩ := trodAll_cons r0
  obtain ⟨rfl, rfl, rfl⟩ := trodAll_nil r1
  obtain rfl : args = #[v0, v1] := by cases args; simp_all
  obtain ⟨rfl, rfl⟩ := trodVars_none hV
  obtain ⟨a0, len0, cap0, rfl⟩ := okWide_slice Try.underlying22 (hval 0 22 v0 rfl rfl)
  have k0 := h0
  have lt0 : ∀ x ∈ p0, x.block < W.heap.size := by obtain ⟨m, hm⟩ := k0; exact DataW.trod_lt m _ _ _ hm
  obtain ⟨z0, w0⟩ : ∃ zs, IsStrs W a0 len0 cap0 zs := by
    obtain ⟨fuel, hf⟩ := h0
    rcases open_strings Try.underlying22 Try.underlying9 (by kernel_rfl) hf with ⟨hcs, _⟩ | ⟨x, l, c, zs, hcs, _, hl, hm, hz, _, hcell, hwz⟩
    · simp [Value.cells] at hcs
      obtain ⟨rfl, rfl, rfl⟩ := hcs
      exact ⟨[], .inl ⟨rfl, rfl, rfl, rfl⟩⟩
    · simp [Value.cells] at hcs
      obtain ⟨rfl, rfl, rfl⟩ := hcs
      exact ⟨zs, .inr ⟨_, rfl, hl, hm, by simpa using hz, hcell, hwz⟩⟩
  obtain ⟨a1, len1, cap1, rfl⟩ := okWide_slice Try.underlying22 (hval 1 22 v1 rfl rfl)
  have k1 := h1
  have lt1 : ∀ x ∈ p1, x.block < W.heap.size := by obtain ⟨m, hm⟩ := k1; exact DataW.trod_lt m _ _ _ hm
  obtain ⟨z1, w1⟩ : ∃ zs, IsStrs W a1 len1 cap1 zs := by
    obtain ⟨fuel, hf⟩ := h1
    rcases open_strings Try.underlying22 Try.underlying9 (by kernel_rfl) hf with ⟨hcs, _⟩ | ⟨x, l, c, zs, hcs, _, hl, hm, hz, _, hcell, hwz⟩
    · simp [Value.cells] at hcs
      obtain ⟨rfl, rfl, rfl⟩ := hcs
      exact ⟨[], .inl ⟨rfl, rfl, rfl, rfl⟩⟩
    · simp [Value.cells] at hcs
      obtain ⟨rfl, rfl, rfl⟩ := hcs
      exact ⟨zs, .inr ⟨_, rfl, hl, hm, by simpa using hz, hcell, hwz⟩⟩
  clear hA0 hval0
  simp only [List.append_nil] at hW'
  refine (walk W a0 len0 cap0 z0 w0 a1 len1 cap1 z1 w1).mono fun e W' ⟨he, hg⟩ => ?_
  subst he
  exact ⟨_, rfl, _, _, _, [], _, [], hW', trodAll_mk1 (shut_bool Try.underlying4 _), (trodAll_cons_mk (Below.trod laidOut (by kernel_rfl) (of_decide_eq_true (by kernel_rfl)) k0 hg lt0) (trodAll_cons_mk (Below.trod laidOut (by kernel_rfl) (of_decide_eq_true (by kernel_rfl)) k1 hg lt1) trodAll_mk0)), rfl, hg.frame _, fun h => by cases h⟩
/-- For every input the law returns true, and each argument reads as it did. -/
theorem proved : Rows.SyndromeSumsSaid :=
  OpenClaim.holds_of_wide 6 Try.f6 rfl rfl rfl rfl rfl rfl rfl ⟨rfl, rfl, rfl, rfl, rfl⟩ rfl rfl rfl rfl rfl (by kernel_rfl) Try.func6 (by kernel_rfl)
    (of_decide_eq_true (by kernel_rfl)) (by unfold Func.isWrapper; first | (rw [if_pos (by decide +kernel)]; kernel_rfl) | (rw [if_neg (by decide +kernel)]; exact ⟨rfl, rfl⟩))
    (fun os started H enc _ => lifted os started H enc)
end Go.Proofs.Ytekpamadimachaa.syndromeSums
