/- For all columns the law SyndromeDeltas returns true: deltas that are added make P and Q those of the new columns, one by one (up to the law's own bound on lengths; beyond it the law says nothing). No condition. -/
import Derived.Test.YtekpamadimachaaSyn05
import Derived.Test.YtekpamadimachaaSynDel
import Derived.Test.YtekpamadimachaaSynOne
import Derived.Test.YtekpamadimachaaKitDet
import Derived.ProofKit
import Derived.OpenShut
import Derived.ShutString
import Derived.ChangeOld
import Derived.Below
namespace Go.Proofs.Ytekpamadimachaa.syndromeDeltas
open Go.ChangeShapes Go.WideShapes Go.ChangeAt Go.RowKit
open Go.ChangeMaps (open_string shut_string)

set_option maxRecDepth 100000 in
set_option maxHeartbeats 8000000 in
theorem walk (w : World) (a0 : Option Addr) (len0 cap0 : Nat) (z0 : List ByteArray) (w0 : IsStrs w a0 len0 cap0 z0) (a1 : Option Addr) (len1 cap1 : Nat) (z1 : List ByteArray) (w1 : IsStrs w a1 len1 cap1 z1) :
    Calls Try.prog 4 #[.slice a0 len0 cap0, .slice a1 len1 cap1] w fun e w' => e = .returned (.bool true) ∧ Below w.heap.size w w' := by
  obtain ⟨f, hm0, hcap0, hsz0, hr0⟩ := w0.open5
  obtain ⟨g, hm1, hcap1, hsz1, hr1⟩ := w1.open5
  have HY0 := heavy5_any w a0 len0 cap0 f hr0 hsz0 hm0
  have HY1 := heavy5_any w a1 len1 cap1 g hr1 hsz1 hm1
  clear w0 w1 hsz0 hsz1
  go_enter Try.func4, Try.ntmps4
  go_wp2_with fail
  refine HY0.mono ?_
  rintro e w' ⟨hw, h⟩
  subst w'
  clear HY0
  rcases h with rfl | ⟨rfl, hL0⟩
  · clear HY1
    go_wp2_with fail
    refine (shown5_any _).mono ?_
    rintro e w1 ⟨rfl, b1⟩
    go_wp2
    go_ret
    exact ⟨rfl, b1⟩
  · go_wp2_with fail
    refine HY1.mono ?_
    rintro e w' ⟨hw, h⟩
    subst w'
    clear HY1
    rcases h with rfl | ⟨rfl, hL1⟩
    · go_wp2_with fail
      refine (shown5_any _).mono ?_
      rintro e w1 ⟨rfl, b1⟩
      go_wp2
      go_ret
      exact ⟨rfl, b1⟩
    · obtain ⟨N, hN⟩ : ∃ N, N = min len0 len1 := ⟨_, rfl⟩
      have hmin : ∀ (ts : Array TypeId) (ty : TypeId) (W : World), (Builtin.min_ ts ty #[.int .i64 (len0 : Int), .int .i64 (len1 : Int)]).run Try.prog W = .ok (.int .i64 (N : Int)) W := by
        intro ts ty W
        simp [Builtin.min_, Builtin.min2]
        omega
      have hN0 : N ≤ len0 := by omega
      have hN1 : N ≤ len1 := by omega
      have hl40 := hL0.1
      have F0 : Hid (Fits 1048576 len0 f) := hL0.fits
      have F1 : Hid (Fits 1048576 len1 g) := hL1.fits
      have R0 : Hid (RowS w a0 len0 f) := hr0
      have R1 : Hid (RowS w a1 len1 g) := hr1
      have HMX : Hid (Try.prog.follows .mixedOrders = true) := by show _ = _; kernel_rfl
      have N20 : len0 ≤ 1048576 := by omega
      have hm1' : len1 ≤ 40 := hL1.1
      clear hr0 hr1 hL0 hL1 hm0 hm1 hN
      go_wp2_with fail
      refine (shown5_any _).mono ?_
      rintro e w1 ⟨rfl, b1⟩
      have B1 : Hid (Below w.heap.size w w1) := b1
      have OWN1 : Hid ((w1.alloc (.cells #[] 9)).ownsRow w1.heap.size 9 1 (.slice (some ⟨w1.heap.size, 0, none⟩) 0 0) 0 (textVals 0 f)) := World.ownsRow_made w1 #[] 0 (Nat.le_refl _) (by decide) rfl
      have RA : Hid (RowS (w1.alloc (.cells #[] 9)) a0 len0 f) := R0.out.below (b1.trans (((Below.refl _ w1).alloc (Nat.le_refl _) _).mono b1.size))
      have e0 : 0 + len0 = len0 := by omega
      have t1 : True := trivial
      clear b1
      go_wp2_with (at_builtin; have _t := t1; refine wpList_append_texts _ rfl _ _ rfl w1.heap.size w1.heap.size 0 0 f rfl OWN1.out a0 len0 cap0 f rfl RA.out (by omega) (by simp) ?_; intro gn cn w2 own2 grow2 lies2; rw [e0] at own2; (have OWN2 : Hid (w2.ownsRow w1.heap.size 9 1 (.slice (some ⟨gn, 0, none⟩) len0 cn) len0 (textVals len0 (joinF 0 f f))) := own2); (have B2 : Hid (Below w1.heap.size w1 w2) := below_joined ((Below.refl _ w1).alloc (Nat.le_refl _) _) (by simp) OWN1.out grow2); clear own2 grow2 lies2 t1)
      have hb2 := B2.out
      have R2 := R0.out.below (B1.out.trans (hb2.mono B1.out.size))
      refine (P_any len0 f N20 F0.out a0 cap0 _ R2).mono ?_
      rintro e w3 ⟨rfl, b3⟩
      have R3 := R2.below b3
      go_wp2_with fail
      refine (Q_any len0 f N20 F0.out a0 cap0 _ R3).mono ?_
      rintro e w4 ⟨rfl, b4⟩
      have b4 := below2 b3 b4
      have hF : textVals len0 (joinF 0 f f) = textVals len0 f := textVals_congr fun j _ => by unfold joinF; rw [if_neg (by omega), Nat.sub_zero]
      have OWN4 : Hid (w4.ownsRow w1.heap.size 9 1 (.slice (some ⟨gn, 0, none⟩) len0 cn) len0 (textVals len0 f)) := by
        show World.ownsRow _ _ _ _ _ _ _; rw [← hF]; exact ownsRow_below OWN2.out b4
      have B4 : Hid (Below w1.heap.size w1 w4) := hb2.trans (b4.mono hb2.size)
      clear R2 R3 b3 b4 hb2 hF
      go_wp2
      go_loopg [7, 8, 9, 10, 11, 12] N (fun gg up uq i _ _ _ wr => ∃ (j : Nat) (F : Nat → ByteArray) (p q : ByteArray), j ≤ N ∧ j = gg ∧ up = .string p ∧ uq = .string q ∧ i = .int .i64 j ∧ F = Gfm.nowF N j f g ∧ Gfm.SumsP len0 F p ∧ Gfm.SumsQ len0 F q ∧ p.size ≤ 1048576 ∧ q.size ≤ 1048576 ∧
        wr.ownsRow w1.heap.size 9 1 (.slice (some ⟨gn, 0, none⟩) len0 cn) len0 (textVals len0 F) ∧ Below w1.heap.size w1 wr)
      case atStart => exact ⟨N, f, _, _, Nat.le_refl _, rfl, rfl, rfl, rfl, (Gfm.nowF_top N f g).symm, Gfm.SumsP.start _ _, Gfm.SumsQ.start _ _, F0.out.add, F0.out.qT.add, OWN4.out, B4.out⟩
      case round =>
        obtain ⟨j, F, p, q, hj, rfl, rfl, rfl, rfl, hF, hp, hq, hps, hqs, own, hb⟩ := hrel
        have HF : Hid (F = Gfm.nowF N j f g) := hF
        have HP : Hid (Gfm.SumsP len0 F p) := hp
        have HQ : Hid (Gfm.SumsQ len0 F q) := hq
        have OWN : Hid (wr.ownsRow w1.heap.size 9 1 (.slice (some ⟨gn, 0, none⟩) len0 cn) len0 (textVals len0 F)) := own
        have HB : Hid (Below w1.heap.size w1 wr) := hb
        have hsz := hb.size
        have HLOW : Hid (Below w.heap.size w wr) := B1.out.trans (hb.mono B1.out.size)
        clear hF hp hq own hb
        by_cases hj0 : 0 < j
        · obtain ⟨k, hk⟩ : ∃ k, j = k + 1 := ⟨j - 1, by omega⟩
          have e1 : (j : Int) - 1 = (k : Int) := by omega
          have hkN : k < N := by omega
          obtain ⟨b0, o0, rfl, hc0⟩ := R0.out k (by omega)
          obtain ⟨b1, o1, rfl, hc1⟩ := R1.out k (by omega)
          have l1 := World.block_lt_of_cell? w _ hc1
          have hc0 := (HLOW.out.cell (p := ⟨b0, o0 + k, none⟩) (World.block_lt_of_cell? w _ hc0)).trans hc0
          have hc1 := (HLOW.out.cell (p := ⟨b1, o1 + k, none⟩) l1).trans hc1
          have x0 := F0.out k (by omega)
          have x1 := F1.out k (by omega)
          have hk0 : k < len0 := by omega
          have hk1 : k < len1 := by omega
          have e2 : IntKind.i64.wrap (k : Int) = (k : Int) := by rw [IntKind.wrap_i64]; omega
          have FK : Hid (F k = f k) := by show _ = _; rw [HF.out]; exact Gfm.nowF_low N j f g (by omega)
          have STEP : Hid (Gfm.upd F k (g k) = Gfm.nowF N k f g) := by show _ = _; rw [HF.out, hk]; exact Gfm.nowF_step N k f g hkN
          obtain ⟨x, hx⟩ : ∃ x, f k = x := ⟨_, rfl⟩
          obtain ⟨y, hy⟩ : ∃ y, g k = y := ⟨_, rfl⟩
          rw [hx] at hc0 x0 FK
          rw [hy] at hc1 x1 STEP
          clear hx hy
          have hxy : (Gfm.xorB x y).size ≤ 1048576 := by rw [Gfm.xorB_size]; omega
          have hty : (Gfm.timesB (Gfm.xorB x y) (Gfm.pE k)).size ≤ 1048576 := by rw [Gfm.timesB_size]; exact hxy
          have hD : ∀ W, Calls Try.prog 11 #[.string x, .string y, .int .i64 (k : Int)] W fun e w' => e = .returned (.tuple #[.string (Gfm.xorB x y), .string (Gfm.timesB (Gfm.xorB x y) (Gfm.pE k))]) ∧ Below W.heap.size W w' := fun W => Delta_any x y (k : Int) x0 x1 W
          have HP2 : Hid (Gfm.SumsP len0 (Gfm.upd F k y) (Gfm.xorB p (Gfm.xorB x y))) := HP.out.step hk0 FK.out
          have HQ2 : Hid (Gfm.SumsQ len0 (Gfm.upd F k y) (Gfm.xorB q (Gfm.timesB (Gfm.xorB x y) (Gfm.pE k)))) := HQ.out.step hk0 FK.out
          have hpz : (Gfm.xorB p (Gfm.xorB x y)).size ≤ 1048576 := by rw [Gfm.xorB_size]; omega
          have hqz : (Gfm.xorB q (Gfm.timesB (Gfm.xorB x y) (Gfm.pE k))).size ≤ 1048576 := by rw [Gfm.xorB_size]; omega
          obtain ⟨A, hA⟩ : ∃ A, Gfm.xorB x y = A := ⟨_, rfl⟩
          rw [hA] at hD HP2 HQ2 hpz hqz hxy hty
          obtain ⟨B, hB⟩ : ∃ B, Gfm.timesB A (Gfm.pE k) = B := ⟨_, rfl⟩
          rw [hB] at hD HQ2 hqz hty
          have hXp := fun W => refXor_any p A hps hxy W
          have hXq := fun W => refXor_any q B hqs hty W
          have hS0 : wr.cell? ⟨b0, o0 + k, none⟩ = some (.string x) ∧ wr.cell? ⟨b1, o1 + k, none⟩ = some (.string y) ∧ Below wr.heap.size wr wr.drew := ⟨hc0, hc1, (Below.refl _ _).drew⟩
          have PZ : Hid ((Gfm.xorB p A).size ≤ 1048576) := hpz
          have QZ : Hid ((Gfm.xorB q B).size ≤ 1048576) := hqz
          clear hA hB hpz hqz hxy hty
          go_wp2_with fail
          refine region_det (fun W => W.cell? ⟨b0, o0 + k, none⟩ = some (.string x) ∧ W.cell? ⟨b1, o1 + k, none⟩ = some (.string y) ∧ Below wr.heap.size wr W) HMX.out (by kernel_rfl) hS0 ?_
          refine det_read 0 (v := ?vx1) rfl (by kernel_rfl) rfl ?hyx1 ?restx1
          case hyx1 => (intro wS hSw; (try dsimp only at hSw); go_simp; try with_reducible rfl)
          try simp only [Act.put, List.setIfInBounds_toArray, List.set_cons_zero, List.set_cons_succ]
          refine det_read 1 (v := ?vx2) rfl (by kernel_rfl) rfl ?hyx2 ?restx2
          case hyx2 => (intro wS hSw; (try dsimp only at hSw); go_simp; try with_reducible rfl)
          try simp only [Act.put, List.setIfInBounds_toArray, List.set_cons_zero, List.set_cons_succ]
          refine det_read 2 (v := ?vx3) rfl (by kernel_rfl) rfl ?hyx3 ?restx3
          case hyx3 => (intro wS hSw; (try dsimp only at hSw); go_simp; try with_reducible rfl)
          try simp only [Act.put, List.setIfInBounds_toArray, List.set_cons_zero, List.set_cons_succ]
          refine det_read 3 (v := ?vx4) rfl (by kernel_rfl) rfl ?hyx4 ?restx4
          case hyx4 => (intro wS hSw; (try dsimp only at hSw); go_simp; try with_reducible rfl)
          try simp only [Act.put, List.setIfInBounds_toArray, List.set_cons_zero, List.set_cons_succ]
          refine det_read 4 (v := ?vx5) rfl (by kernel_rfl) rfl ?hyx5 ?restx5
          case hyx5 => (intro wS hSw; (try dsimp only at hSw); go_simp; try with_reducible rfl)
          try simp only [Act.put, List.setIfInBounds_toArray, List.set_cons_zero, List.set_cons_succ]
          refine det_read 5 (v := ?vx6) rfl (by kernel_rfl) rfl ?hyx6 ?restx6
          case hyx6 => (intro wS hSw; (try dsimp only at hSw); go_simp; try with_reducible rfl)
          try simp only [Act.put, List.setIfInBounds_toArray, List.set_cons_zero, List.set_cons_succ]
          refine det_read 6 (v := ?vx7) rfl (by kernel_rfl) rfl ?hyx7 ?restx7
          case hyx7 => (intro wS hSw; (try dsimp only at hSw); go_simp; try with_reducible rfl)
          try simp only [Act.put, List.setIfInBounds_toArray, List.set_cons_zero, List.set_cons_succ]
          refine det_read 7 (v := ?vx8) rfl (by kernel_rfl) rfl ?hyx8 ?restx8
          case hyx8 => (intro wS hSw; (try dsimp only at hSw); go_simp; try with_reducible rfl)
          try simp only [Act.put, List.setIfInBounds_toArray, List.set_cons_zero, List.set_cons_succ]
          refine det_read 8 (v := ?vx9) rfl (by kernel_rfl) rfl ?hyx9 ?restx9
          case hyx9 => (intro wS hSw; (try dsimp only at hSw); go_simp; try with_reducible rfl)
          try simp only [Act.put, List.setIfInBounds_toArray, List.set_cons_zero, List.set_cons_succ]
          refine det_call 9 rfl (by kernel_rfl) rfl ?hyx15 (fun W h => (hD W).mono fun _ _ ⟨e, hb⟩ => ⟨e, keep_two hb h⟩) ?restx15
          case hyx15 => (intro wS hSw; go_simp; try with_reducible rfl)
          try simp only [Act.put, List.setIfInBounds_toArray, List.set_cons_zero, List.set_cons_succ]
          refine det_read 10 (v := ?vx10) rfl (by kernel_rfl) rfl ?hyx10 ?restx10
          case hyx10 => (intro wS hSw; (try dsimp only at hSw); go_simp; try with_reducible rfl)
          try simp only [Act.put, List.setIfInBounds_toArray, List.set_cons_zero, List.set_cons_succ]
          refine det_read 11 (v := ?vx11) rfl (by kernel_rfl) rfl ?hyx11 ?restx11
          case hyx11 => (intro wS hSw; (try dsimp only at hSw); go_simp; try with_reducible rfl)
          try simp only [Act.put, List.setIfInBounds_toArray, List.set_cons_zero, List.set_cons_succ]
          refine det_read 12 (v := ?vx12) rfl (by kernel_rfl) rfl ?hyx12 ?restx12
          case hyx12 => (intro wS hSw; (try dsimp only at hSw); go_simp; try with_reducible rfl)
          try simp only [Act.put, List.setIfInBounds_toArray, List.set_cons_zero, List.set_cons_succ]
          refine det_read 13 (v := ?vx13) rfl (by kernel_rfl) rfl ?hyx13 ?restx13
          case hyx13 => (intro wS hSw; (try dsimp only at hSw); go_simp; try with_reducible rfl)
          try simp only [Act.put, List.setIfInBounds_toArray, List.set_cons_zero, List.set_cons_succ]
          refine det_read 14 (v := ?vx14) rfl (by kernel_rfl) rfl ?hyx14 ?restx14
          case hyx14 => (intro wS hSw; (try dsimp only at hSw); go_simp; try with_reducible rfl)
          try simp only [Act.put, List.setIfInBounds_toArray, List.set_cons_zero, List.set_cons_succ]
          refine det_done (by kernel_rfl) ?_
          rintro v1 ⟨_, _, b1'⟩
          go_wp2_with fail
          refine (hXp _).mono ?_
          rintro e v2 ⟨rfl, b2'⟩
          have b2' := below2 b1' b2'
          go_wp2_with fail
          refine (hXq _).mono ?_
          rintro e v3 ⟨rfl, b3'⟩
          have b3' := below2 b2' b3'
          have own3 := ownsRow_below OWN.out b3'
          have hcm : v3.cell? ⟨b1, o1 + k, none⟩ = some (.string y) := keep_one b3' hc1
          have hcn : v3.cell? ⟨gn, k, none⟩ = some (.string (F k)) := by rw [own3.cellAt k (by omega)]; exact textVals_at F hk0
          have hfn : v3.frozen? ⟨gn, k, none⟩ = false := own3.frozenAt k
          have OWN3 : Hid (v3.ownsRow w1.heap.size 9 1 (.slice (some ⟨gn, 0, none⟩) len0 cn) len0 (textVals len0 F)) := own3
          have B3 : Hid (Below w1.heap.size w1 v3) := HB.out.trans (b3'.mono hsz)
          clear b1' b2' b3' own3 hc0 hc1 hS0
          go_wp2
          have own5 := (OWN3.out.stored k (.string y)).1
          rw [textVals_set] at own5
          go_roundg k
          case measure => omega
          case rel => exact ⟨k, _, _, _, by omega, rfl, rfl, rfl, by go_num, STEP.out, HP2.out, HQ2.out, PZ.out, QZ.out, own5, B3.out.setCell (p := ⟨gn, k, none⟩) (owns_low OWN3.out) _⟩
        · have hj' : j = 0 := by omega
          subst hj'
          obtain ⟨an, kn, en, rn, _, _⟩ := RowS.of_owns OWN.out
          cases en
          have FIT : Fits 1048576 len0 F := fun t ht => by
            rw [HF.out]; unfold Gfm.nowF
            by_cases h : 0 ≤ t ∧ t < N
            · rw [if_pos h]; exact F1.out t (by omega)
            · rw [if_neg h]; exact F0.out t ht
          have hPn := fun (W : World) (h : Below wr.heap.size wr W) => P_any len0 F N20 FIT (some ⟨gn, 0, none⟩) cn W (rn.below h)
          have hQn := fun (W : World) (h : Below wr.heap.size wr W) => Q_any len0 F N20 FIT (some ⟨gn, 0, none⟩) cn W (rn.below h)
          have z1 := FIT.add
          have z2 := FIT.qT.add
          have z3 : (Gfm.xorB p (Gfm.addF len0 F)).size ≤ 1048576 := by rw [Gfm.xorB_size]; omega
          have z4 : (Gfm.xorB q (Gfm.addF len0 (Gfm.qT F))).size ≤ 1048576 := by rw [Gfm.xorB_size]; omega
          have hX1 := fun W => refXor_any p (Gfm.addF len0 F) hps z1 W
          have hX2 := fun W => refXor_any q (Gfm.addF len0 (Gfm.qT F)) hqs z2 W
          have hZ1 := fun W => refZero_any (Gfm.xorB p (Gfm.addF len0 F)) z3 W
          have hZ2 := fun W => refZero_any (Gfm.xorB q (Gfm.addF len0 (Gfm.qT F))) z4 W
          rw [HP.out.zero] at hZ1
          rw [HQ.out.zero] at hZ2
          clear z1 z2 z3 z4 rn FIT hps hqs
          go_wp2_with fail
          refine (hPn _ (Below.refl _ _)).mono ?_
          rintro e v1 ⟨rfl, b1⟩
          go_wp2_with fail
          refine (hX1 _).mono ?_
          rintro e v2 ⟨rfl, b2⟩
          have b2 := below2 b1 b2
          go_wp2_with fail
          refine (hZ1 _).mono ?_
          rintro e v3 ⟨rfl, hv3⟩
          subst v3
          go_wp2_with fail
          refine (hQn _ b2).mono ?_
          rintro e v4 ⟨rfl, b4⟩
          have b4 := below2 b2 b4
          go_wp2_with fail
          refine (hX2 _).mono ?_
          rintro e v5 ⟨rfl, b5⟩
          have b5 := below2 b4 b5
          go_wp2_with fail
          refine (hZ2 _).mono ?_
          rintro e v6 ⟨rfl, hv6⟩
          subst v6
          have HB5 : Hid (Below w.heap.size w v5) := HLOW.out.trans (b5.mono HLOW.out.size)
          clear b1 b2 b4 b5
          go_wp2
          go_ret
          exact ⟨rfl, HB5.out⟩

theorem own : ownKnob Try.prog.godebug = none := by kernel_rfl
theorem laidOut : laidOutB Try.prog = true := by kernel_rfl
set_option linter.unusedVariables false in
set_option maxRecDepth 100000 in
theorem lifted (os : Os) (started : os.Started) (H : Type) (enc : TypeId × Value → H) :
    ReturnsInHanded {} Try.checked os 4 .any (Rows.syndromeDeltasSpec.pre6 enc Try.prog Try.f4 Rows.syndromeDeltasRow.domain false) (Rows.syndromeDeltasSpec.post enc Try.prog Try.f4 false true false false) := by
  refine returnsInHanded_of_change (C := Try.checked) own started (by kernel_rfl) Try.func4
    (ChangeSpec.witness6 (enc := enc) (C := Try.checked) false ⟨#[], #[.slice none 0 0, .slice none 0 0], []⟩ 8 (by kernel_rfl) (by kernel_rfl) (by kernel_rfl) (by kernel_rfl)) ?_
  intro W base args ds gs before hval0 hW hcnd _
  have hval : ∀ (j : Nat) t v, Try.f4.params[j]? = some t → args[j]? = some v → Value.okWide Try.prog W .any base t v := hval0
  have hW' := hW
  obtain ⟨p, q, hA0, hV, rfl, hfz, hnd⟩ := hW
  have hA : DataW.TrodAll enc Try.prog W 0 (fun _ => true) true Try.f4.params.toList args.toList ds p := hA0
  rw [Try.params4] at hA hval
  obtain ⟨v0, vs0, d0, ds0, p0, q0, hargs, rfl, rfl, h0, r0⟩ := trodAll_cons hA
  obtain ⟨v1, vs1, d1, ds1, p1, q1, rfl, rfl, rfl, h1, r1⟩ := trodAll_cons r0
  obtain ⟨rfl, rfl, rfl⟩ := trodAll_nil r1
  obtain rfl : args = #[v0, v1] := by cases args; simp_all
  obtain ⟨rfl, rfl⟩ := trodVars_none hV
  obtain ⟨a0, len0, cap0, rfl⟩ := okWide_slice Try.underlying22 (hval 0 22 v0 rfl rfl)
  have k0 := h0
  have lt0 : ∀ x ∈ p0, x.block < W.heap.size := by obtain ⟨m, hm⟩ := k0; exact DataW.trod_lt m _ _ _ hm
  obtain ⟨z0, w0⟩ : ∃ zs, IsStrs W a0 len0 cap0 zs := by
    obtain ⟨fuel, hf⟩ := h0
    rcases open_strings Try.underlying22 Try.underlying9 (by kernel_rfl) hf with ⟨hcs, _⟩ | ⟨x, l, c, zs, hcs, _, hl, hm, hz, _, hcell, hwz⟩
    · simp [Value.cells] at hcs
      obtain ⟨rfl, rfl, rfl⟩ := hcs
      exact ⟨[], .inl ⟨rfl, rfl, rfl, rfl⟩⟩
    · simp [Value.cells] at hcs
      obtain ⟨rfl, rfl, rfl⟩ := hcs
      exact ⟨zs, .inr ⟨_, rfl, hl, hm, by simpa using hz, hcell, hwz⟩⟩
  obtain ⟨a1, len1, cap1, rfl⟩ := okWide_slice Try.underlying22 (hval 1 22 v1 rfl rfl)
  have k1 := h1
  have lt1 : ∀ x ∈ p1, x.block < W.heap.size := by obtain ⟨m, hm⟩ := k1; exact DataW.trod_lt m _ _ _ hm
  obtain ⟨z1, w1⟩ : ∃ zs, IsStrs W a1 len1 cap1 zs := by
    obtain ⟨fuel, hf⟩ := h1
    rcases open_strings Try.underlying22 Try.underlying9 (by kernel_rfl) hf with ⟨hcs, _⟩ | ⟨x, l, c, zs, hcs, _, hl, hm, hz, _, hcell, hwz⟩
    · simp [Value.cells] at hcs
      obtain ⟨rfl, rfl, rfl⟩ := hcs
      exact ⟨[], .inl ⟨rfl, rfl, rfl, rfl⟩⟩
    · simp [Value.cells] at hcs
      obtain ⟨rfl, rfl, rfl⟩ := hcs
      exact ⟨zs, .inr ⟨_, rfl, hl, hm, by simpa using hz, hcell, hwz⟩⟩
  clear hA0 hval0
  simp only [List.append_nil] at hW'
  refine (walk W a0 len0 cap0 z0 w0 a1 len1 cap1 z1 w1).mono fun e W' ⟨he, hg⟩ => ?_
  subst he
  exact ⟨_, rfl, _, _, _, [], _, [], hW', trodAll_mk1 (shut_bool Try.underlying4 _), (trodAll_cons_mk (Below.trod laidOut (by kernel_rfl) (of_decide_eq_true (by kernel_rfl)) k0 hg lt0) (trodAll_cons_mk (Below.trod laidOut (by kernel_rfl) (of_decide_eq_true (by kernel_rfl)) k1 hg lt1) trodAll_mk0)), rfl, hg.frame _, fun h => by cases h⟩
/-- For every input the law returns true, and each argument reads as it did. -/
theorem proved : Rows.SyndromeDeltasSaid :=
  OpenClaim.holds_of_wide 4 Try.f4 rfl rfl rfl rfl rfl rfl rfl ⟨rfl, rfl, rfl, rfl, rfl⟩ rfl rfl rfl rfl rfl (by kernel_rfl) Try.func4 (by kernel_rfl)
    (of_decide_eq_true (by kernel_rfl)) (by unfold Func.isWrapper; first | (rw [if_pos (by decide +kernel)]; kernel_rfl) | (rw [if_neg (by decide +kernel)]; exact ⟨rfl, rfl⟩))
    (fun os started H enc _ => lifted os started H enc)
end Go.Proofs.Ytekpamadimachaa.syndromeDeltas
