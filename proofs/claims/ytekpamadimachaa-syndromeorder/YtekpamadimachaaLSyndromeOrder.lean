/- For all columns the law SyndromeOrder returns true: P hangs on no order of columns, and Q of columns that are turned by one is Q times two, as far as the last one goes round (up to the law's own bound on lengths; beyond it the law says nothing). No condition. -/
import Derived.Test.YtekpamadimachaaSyn05
import Derived.Test.YtekpamadimachaaSynOrd
import Derived.Test.YtekpamadimachaaKitDet
import Derived.ProofKit
import Derived.OpenShut
import Derived.ShutString
import Derived.ChangeOld
import Derived.Below
namespace Go.Proofs.Ytekpamadimachaa.syndromeOrder
open Go.ChangeShapes Go.WideShapes Go.ChangeAt Go.RowKit
open Go.ChangeMaps (open_string shut_string)

set_option maxRecDepth 100000 in
set_option maxHeartbeats 8000000 in
theorem some_walk (w : World) (b0 o0 m n cap0 : Nat) (f : Nat → ByteArray) (hmn : m + 1 = n) (hcap0 : n ≤ cap0) (hr0 : RowS w (some ⟨b0, o0, none⟩) n f)
    (HY0 : Calls Try.prog 9 #[.slice (some ⟨b0, o0, none⟩) n cap0] w fun e w' => w' = w ∧ (e = .returned (.bool true) ∨ e = .returned (.bool false) ∧ Light5 n f)) :
    Calls Try.prog 7 #[.slice (some ⟨b0, o0, none⟩) n cap0] w fun e w' => e = .returned (.bool true) ∧ Below w.heap.size w w' := by
  have hnz : ((n : Int) == 0) = false := by rw [beq_eq_false_iff_ne]; omega
  go_enter Try.func7, Try.ntmps7
  go_wp2_with fail
  refine HY0.mono ?_
  rintro e w' ⟨hw, h⟩
  subst w'
  clear HY0
  rcases h with rfl | ⟨rfl, hL⟩
  · go_wp2_with fail
    refine (shown5_any _).mono ?_
    rintro e w1 ⟨rfl, b1⟩
    go_wp2
    go_ret
    exact ⟨rfl, b1⟩
  · have hn40 := hL.1
    have F0 : Hid (Fits 1048576 n f) := hL.fits
    have R0 : Hid (RowS w (some ⟨b0, o0, none⟩) n f) := hr0
    have HMN : Hid (m + 1 = n) := hmn
    have e1 : (n : Int) - 1 = (m : Int) := by omega
    have e2 : m < n := by omega
    have e3 : 1 + m = n := by omega
    have e4 : IntKind.i64.wrap (m : Int) = (m : Int) := by rw [IntKind.wrap_i64]; omega
    have sl0 := run_slice_to (some ⟨b0, o0, none⟩) n cap0 m (by omega)
    have HMX : Hid (Try.prog.follows .mixedOrders = true) := by show _ = _; kernel_rfl
    have hcl := hr0.at e2
    have hbl := World.block_lt_of_cell? w _ hcl
    obtain ⟨x, hx⟩ : ∃ x, f m = x := ⟨_, rfl⟩
    rw [hx] at hcl
    have HX : Hid (f m = x) := hx
    clear hr0 hL hmn hx
    go_wp2_with fail
    refine (shown5_any _).mono ?_
    rintro e w1 ⟨rfl, b1⟩
    have hcl1 := keep_one b1 hcl
    have B1 : Hid (Below w.heap.size w w1) := b1
    have hc2 : ∀ o, (w1.alloc o).cell? ⟨b0, o0 + m, none⟩ = some (.string x) := fun o => keep_one ((Below.refl _ w1).alloc (Nat.le_refl _) o) hcl1
    have OWN1 : Hid ((w1.alloc (.cells #[] 9)).ownsRow w1.heap.size 9 1 (.slice (some ⟨w1.heap.size, 0, none⟩) 0 0) 0 (textVals 0 (fun _ => x))) := World.ownsRow_made w1 #[] 0 (Nat.le_refl _) (by decide) rfl
    have ONE1 : Hid (RowS ((w1.alloc (.cells #[] 9)).alloc (.cells #[.string x] 9)) (some ⟨w1.heap.size + 1, 0, none⟩) 1 (fun _ => x)) := RowS.one _ _ (by simp) _ _
    have t1 : True := trivial
    have t2 : True := trivial
    clear b1
    go_wp2_with (first | (at_builtin; have _t := t1; refine wpList_append_texts _ rfl _ _ rfl w1.heap.size w1.heap.size 0 0 (fun _ => x) rfl (OWN1.out.alloc _) (some ⟨w1.heap.size + 1, 0, none⟩) 1 1 (fun _ => x) rfl ONE1.out (by decide) (by simp; omega) ?_; intro g1 c1 w2 own2 grow2 lies2; (have hb2 : Below w1.heap.size w1 w2 := (((Below.refl _ w1).alloc (Nat.le_refl _) _).alloc (by simp) _).grown grow2 (by simp; omega) (fun k hk => by cases hk; exact Nat.le_refl _)); (have OWN2 : Hid (w2.ownsRow w1.heap.size 9 1 (.slice (some ⟨g1, 0, none⟩) 1 c1) 1 (textVals 1 (fun _ => x))) := own2); (have B2 : Hid (Below w1.heap.size w1 w2) := hb2); (have R2 : Hid (RowS w2 (some ⟨b0, o0, none⟩) m f) := (R0.out.mono (Nat.le_of_lt e2) fun _ _ => rfl).below (B1.out.trans (hb2.mono B1.out.size))); (have hsz2 := hb2.size); clear own2 grow2 lies2 hb2 t1) | (at_builtin; have _t := t2; refine wpList_append_texts _ rfl _ _ rfl w1.heap.size g1 1 c1 (fun _ => x) rfl OWN2.out (some ⟨b0, o0, none⟩) m cap0 f rfl R2.out (by omega) hsz2 ?_; intro g2 c2 w3 own3 grow3 lies3; rw [e3] at own3; (have OWN3 : Hid (w3.ownsRow w1.heap.size 9 1 (.slice (some ⟨g2, 0, none⟩) n c2) n (textVals n (joinF 1 (fun _ => x) f))) := own3); (have B3 : Hid (Below w1.heap.size w1 w3) := below_joined B2.out hsz2 OWN2.out grow3); clear own3 grow3 lies3 t2))
    have t3 : True := trivial
    go_loopg [5, 6] n (fun gg u i wr => ∃ (k gb cb : Nat), k ≤ n ∧ gg = n - k ∧ u = .slice (some ⟨gb, 0, none⟩) k cb ∧ i = .int .i64 k ∧ wr.ownsRow w3.heap.size 9 1 (.slice (some ⟨gb, 0, none⟩) k cb) k (textVals k (fun j => f (n - 1 - j))) ∧ Below w3.heap.size w3 wr)
    case atStart => exact ⟨0, w3.heap.size, 0, Nat.zero_le _, rfl, rfl, rfl, World.ownsRow_made w3 #[] 0 (Nat.le_refl _) (by decide) rfl, (Below.refl _ _).alloc (Nat.le_refl _) _⟩
    case round =>
      obtain ⟨k, gb, cb, hk, rfl, rfl, rfl, own, hb⟩ := hrel
      have OWN : Hid (wr.ownsRow w3.heap.size 9 1 (.slice (some ⟨gb, 0, none⟩) k cb) k (textVals k (fun j => f (n - 1 - j)))) := own
      have HB : Hid (Below w3.heap.size w3 wr) := hb
      have hsz := hb.size
      have hlow : Below w.heap.size w wr := B1.out.trans ((B3.out.trans (hb.mono B3.out.size)).mono B1.out.size)
      have HLOW : Hid (Below w.heap.size w wr) := hlow
      clear own hb
      by_cases hkn : k < n
      · obtain ⟨q, hq⟩ : ∃ q, q = m - k := ⟨_, rfl⟩
        have e5 : (m : Int) - (k : Int) = (q : Int) := by have := HMN.out; omega
        have e6 : q < n := by omega
        have hc := R0.out.at e6
        have hc := (hlow.cell (p := ⟨b0, o0 + q, none⟩) (World.block_lt_of_cell? w _ hc)).trans hc
        obtain ⟨y, hy⟩ : ∃ y, f q = y := ⟨_, rfl⟩
        rw [hy] at hc
        have HY : Hid (f (n - 1 - k) = y) := by show _ = _; rw [← hy, hq]; congr 1; have := HMN.out; omega
        have ONE3 : Hid (RowS (wr.alloc (.cells #[.string y] 9)) (some ⟨wr.heap.size, 0, none⟩) 1 (fun _ => y)) := RowS.one _ _ rfl _ _
        clear hq hy hlow hcl hcl1 hc2
        go_wp2_with (at_builtin; have _t := t3; refine wpList_append_texts _ rfl _ _ rfl w3.heap.size gb k cb (fun j => f (n - 1 - j)) rfl (OWN.out.alloc _) (some ⟨wr.heap.size, 0, none⟩) 1 1 (fun _ => y) rfl ONE3.out (by omega) (by simp; omega) ?_; intro g3 c3 w4 own4 grow4 lies4; rw [textVals_joinOne k (fun j => f (n - 1 - j)) y HY.out] at own4; (have OWN4 : Hid (w4.ownsRow w3.heap.size 9 1 (.slice (some ⟨g3, 0, none⟩) (k + 1) c3) (k + 1) (textVals (k + 1) (fun j => f (n - 1 - j)))) := own4); (have B4 : Hid (Below w3.heap.size w3 w4) := below_joined (HB.out.alloc hsz _) (by simp; omega) (OWN.out.alloc _) grow4); clear own4 grow4 lies4 t3)
        go_roundg (n - (k + 1))
        case measure => omega
        case rel => exact ⟨k + 1, g3, c3, by omega, rfl, rfl, by go_num, OWN4.out, B4.out⟩
      · have hkk : k = n := by omega
        subst hkk
        obtain ⟨ab, kb, eb, rb, _, _⟩ := RowS.of_owns OWN.out
        cases eb
        obtain ⟨at_, kt, et, rt, _, _⟩ := RowS.of_owns OWN3.out
        cases et
        have hxr : wr.cell? ⟨b0, o0 + m, none⟩ = some (.string x) := (HLOW.out.cell (p := ⟨b0, o0 + m, none⟩) hbl).trans hcl
        have N20 : k ≤ 1048576 := by omega
        have hPt := fun (W : World) (h : Below wr.heap.size wr W) => P_any k (joinF 1 (fun _ => x) f) N20 (by rw [← HX.out, ← HMN.out]; exact Fits.join (by rw [HMN.out]; exact F0.out)) (some ⟨g2, 0, none⟩) c2 W ((rt.below HB.out).below h)
        have hQt := fun (W : World) (h : Below wr.heap.size wr W) => Q_any k (joinF 1 (fun _ => x) f) N20 (by rw [← HX.out, ← HMN.out]; exact Fits.join (by rw [HMN.out]; exact F0.out)) (some ⟨g2, 0, none⟩) c2 W ((rt.below HB.out).below h)
        have hPl := fun (W : World) (h : Below wr.heap.size wr W) => P_any k f N20 F0.out (some ⟨b0, o0, none⟩) cap0 W ((R0.out.below HLOW.out).below h)
        have hPb := fun (W : World) (h : Below wr.heap.size wr W) => P_any k (fun j => f (k - 1 - j)) N20 F0.out.back (some ⟨gb, 0, none⟩) cb W (rb.below h)
        have hQl := fun (W : World) (h : Below wr.heap.size wr W) => Q_any m f (by omega) (F0.out.mono (Nat.le_of_lt e2)) (some ⟨b0, o0, none⟩) cap0 W (((R0.out.below HLOW.out).mono (Nat.le_of_lt e2) fun _ _ => rfl).below h)
        have p1 := (F0.out).add
        have q1 := (F0.out.mono (Nat.le_of_lt e2)).qT.add
        have x1 := F0.out m e2
        have t1 : (Gfm.addF k (Gfm.qT (joinF 1 (fun _ => x) f))).size ≤ 1048576 := by
          rw [← HX.out, ← HMN.out]; exact (Fits.join (by rw [HMN.out]; exact F0.out)).qT.add
        have ZERO : Hid (Gfm.zeroS (Gfm.xorB (Gfm.addF k (Gfm.qT (joinF 1 (fun _ => x) f))) (Gfm.xorB x (Gfm.timesB (Gfm.addF m (Gfm.qT f)) 2))) = true) := by
          show _ = _; rw [← HX.out, ← HMN.out]; exact Gfm.addQ_turn m f
        have hPte : Gfm.addF k (joinF 1 (fun _ => x) f) = Gfm.addF k f := by rw [← HX.out, ← HMN.out]; exact Gfm.addF_turn m f
        rw [hPte] at hPt
        rw [Gfm.addF_back] at hPb
        rw [HX.out] at x1
        obtain ⟨P0, hP0⟩ : ∃ y, Gfm.addF k f = y := ⟨_, rfl⟩
        obtain ⟨QT, hQT⟩ : ∃ y, Gfm.addF k (Gfm.qT (joinF 1 (fun _ => x) f)) = y := ⟨_, rfl⟩
        obtain ⟨Q0, hQ0⟩ : ∃ y, Gfm.addF m (Gfm.qT f) = y := ⟨_, rfl⟩
        rw [hP0] at hPt hPl hPb
        rw [hQT] at hQt ZERO t1
        rw [hQ0] at hQl q1 ZERO
        have q2 : (Gfm.timesB Q0 2).size ≤ 1048576 := by rw [Gfm.timesB_size]; exact q1
        have q3 : (Gfm.xorB x (Gfm.timesB Q0 2)).size ≤ 1048576 := by rw [Gfm.xorB_size]; omega
        have q4 : (Gfm.xorB QT (Gfm.xorB x (Gfm.timesB Q0 2))).size ≤ 1048576 := by rw [Gfm.xorB_size]; omega
        have hT : ∀ W, Calls Try.prog 23 #[.string Q0, .int .u8 2] W fun e w' => e = .returned (.string (Gfm.timesB Q0 2)) ∧ Below W.heap.size W w' := fun W => refTimes_any Q0 2 q1 (by decide) W
        have hX1 := fun W => refXor_any x (Gfm.timesB Q0 2) x1 q2 W
        obtain ⟨T0, hT0⟩ : ∃ y, Gfm.timesB Q0 2 = y := ⟨_, rfl⟩
        rw [hT0] at hT hX1 ZERO q2 q3 q4
        obtain ⟨V0, hV0⟩ : ∃ y, Gfm.xorB x T0 = y := ⟨_, rfl⟩
        rw [hV0] at hX1 ZERO q3 q4
        have hX2 := fun W => refXor_any QT V0 t1 q3 W
        have hZ := fun W => refZero_any (Gfm.xorB QT V0) q4 W
        rw [ZERO.out] at hZ
        have hS0 : wr.cell? ⟨b0, o0 + m, none⟩ = some (.string x) ∧ Below wr.heap.size wr wr.drew := ⟨hxr, (Below.refl _ _).drew⟩
        clear hxr hP0 hQT hQ0 hT0 hV0 hPte p1 q1 x1 t1 q2 q3 q4 rb rt hlow hcl hcl1 hc2 ZERO
        go_wp2_with fail
        refine region_det (fun W => W.cell? ⟨b0, o0 + m, none⟩ = some (.string x) ∧ Below wr.heap.size wr W) HMX.out (by kernel_rfl) hS0 ?_
        refine det_read 0 (v := ?vx1) rfl (by kernel_rfl) rfl ?hyx1 ?restx1
        case hyx1 => (intro wS hSw; (try dsimp only at hSw); go_simp; try with_reducible rfl)
        try simp only [Act.put, List.setIfInBounds_toArray, List.set_cons_zero, List.set_cons_succ]
        refine det_read 1 (v := ?vx2) rfl (by kernel_rfl) rfl ?hyx2 ?restx2
        case hyx2 => (intro wS hSw; (try dsimp only at hSw); go_simp; try with_reducible rfl)
        try simp only [Act.put, List.setIfInBounds_toArray, List.set_cons_zero, List.set_cons_succ]
        refine det_read 2 (v := ?vx3) rfl (by kernel_rfl) rfl ?hyx3 ?restx3
        case hyx3 => (intro wS hSw; (try dsimp only at hSw); go_simp; try with_reducible rfl)
        try simp only [Act.put, List.setIfInBounds_toArray, List.set_cons_zero, List.set_cons_succ]
        refine det_read 3 (v := ?vx4) rfl (by kernel_rfl) rfl ?hyx4 ?restx4
        case hyx4 => (intro wS hSw; (try dsimp only at hSw); go_simp; try with_reducible rfl)
        try simp only [Act.put, List.setIfInBounds_toArray, List.set_cons_zero, List.set_cons_succ]
        refine det_read 4 (v := ?vx5) rfl (by kernel_rfl) rfl ?hyx5 ?restx5
        case hyx5 => (intro wS hSw; (try dsimp only at hSw); go_simp; try with_reducible rfl)
        try simp only [Act.put, List.setIfInBounds_toArray, List.set_cons_zero, List.set_cons_succ]
        refine det_read 5 (v := ?vx6) rfl (by kernel_rfl) rfl ?hyx6 ?restx6
        case hyx6 => (intro wS hSw; (try dsimp only at hSw); go_simp; try with_reducible rfl)
        try simp only [Act.put, List.setIfInBounds_toArray, List.set_cons_zero, List.set_cons_succ]
        refine det_read 6 (v := ?vx7) rfl (by kernel_rfl) rfl ?hyx7 ?restx7
        case hyx7 => (intro wS hSw; (try dsimp only at hSw); go_simp; try with_reducible rfl)
        try simp only [Act.put, List.setIfInBounds_toArray, List.set_cons_zero, List.set_cons_succ]
        refine det_read 7 (v := ?vx8) rfl (by kernel_rfl) rfl ?hyx8 ?restx8
        case hyx8 => (intro wS hSw; (try dsimp only at hSw); go_simp; try with_reducible rfl)
        try simp only [Act.put, List.setIfInBounds_toArray, List.set_cons_zero, List.set_cons_succ]
        refine det_read 8 (v := ?vx9) rfl (by kernel_rfl) rfl ?hyx9 ?restx9
        case hyx9 => (intro wS hSw; (try dsimp only at hSw); go_simp; try with_reducible rfl)
        try simp only [Act.put, List.setIfInBounds_toArray, List.set_cons_zero, List.set_cons_succ]
        refine det_call 9 rfl (by kernel_rfl) rfl ?hyx11 (fun W h => det_sees (hQl W h.2) h) ?restx11
        case hyx11 => (intro wS hSw; go_simp; try with_reducible rfl)
        try simp only [Act.put, List.setIfInBounds_toArray, List.set_cons_zero, List.set_cons_succ]
        refine det_call 10 rfl (by kernel_rfl) rfl ?hyx12 (fun W h => det_sees (hT W) h) ?restx12
        case hyx12 => (intro wS hSw; go_simp; try with_reducible rfl)
        try simp only [Act.put, List.setIfInBounds_toArray, List.set_cons_zero, List.set_cons_succ]
        refine det_call 11 rfl (by kernel_rfl) rfl ?hyx13 (fun W h => det_sees (hX1 W) h) ?restx13
        case hyx13 => (intro wS hSw; go_simp; try with_reducible rfl)
        try simp only [Act.put, List.setIfInBounds_toArray, List.set_cons_zero, List.set_cons_succ]
        refine det_read 12 (v := ?vx10) rfl (by kernel_rfl) rfl ?hyx10 ?restx10
        case hyx10 => (intro wS hSw; (try dsimp only at hSw); go_simp; try with_reducible rfl)
        try simp only [Act.put, List.setIfInBounds_toArray, List.set_cons_zero, List.set_cons_succ]
        refine det_done (by kernel_rfl) ?_
        rintro v1 ⟨_, b1⟩
        go_wp2_with fail
        refine (hPt _ b1).mono ?_
        rintro e v2 ⟨rfl, b2⟩
        have b2 := below2 b1 b2
        go_wp2_with fail
        refine (hPl _ b2).mono ?_
        rintro e v3 ⟨rfl, b3⟩
        have b3 := below2 b2 b3
        go_wp2_with fail
        refine (hPb _ b3).mono ?_
        rintro e v4 ⟨rfl, b4⟩
        have b4 := below2 b3 b4
        go_wp2_with fail
        refine (hPl _ b4).mono ?_
        rintro e v5 ⟨rfl, b5⟩
        have b5 := below2 b4 b5
        go_wp2_with fail
        refine (hQt _ b5).mono ?_
        rintro e v6 ⟨rfl, b6⟩
        have b6 := below2 b5 b6
        go_wp2_with fail
        refine (hX2 _).mono ?_
        rintro e v7 ⟨rfl, b7⟩
        have b7 := below2 b6 b7
        go_wp2_with fail
        refine (hZ _).mono ?_
        rintro e v8 ⟨rfl, hv8⟩
        subst v8
        have HB7 : Hid (Below w.heap.size w v7) := HLOW.out.trans (b7.mono HLOW.out.size)
        clear b1 b2 b3 b4 b5 b6 b7
        go_wp2
        go_ret
        exact ⟨rfl, HB7.out⟩

theorem none_walk (w : World) (a0 : Option Addr) (cap0 : Nat) :
    Calls Try.prog 7 #[.slice a0 0 cap0] w fun e w' => e = .returned (.bool true) ∧ Below w.heap.size w w' := by
  have HY0 := heavy5_none w a0 cap0
  go_enter Try.func7, Try.ntmps7
  go_wp2_with fail
  refine HY0.mono ?_
  rintro e w' ⟨hw, rfl⟩
  subst w'
  clear HY0
  go_wp2_with fail
  refine (shown5_any _).mono ?_
  rintro e w1 ⟨rfl, b1⟩
  go_wp2
  go_ret
  exact ⟨rfl, b1⟩

theorem walk (w : World) (a0 : Option Addr) (len0 cap0 : Nat) (z0 : List ByteArray) (w0 : IsStrs w a0 len0 cap0 z0) :
    Calls Try.prog 7 #[.slice a0 len0 cap0] w fun e w' => e = .returned (.bool true) ∧ Below w.heap.size w w' := by
  obtain ⟨f, hm0, hcap0, hsz0, hr0⟩ := w0.open5
  rcases hr0.place with rfl | ⟨b, o, rfl⟩
  · exact none_walk w a0 cap0
  · by_cases h : len0 = 0
    · subst h; exact none_walk w _ cap0
    · exact some_walk w b o (len0 - 1) len0 cap0 f (by omega) hcap0 hr0 (heavy5_any w _ len0 cap0 f hr0 hsz0 hm0)

theorem own : ownKnob Try.prog.godebug = none := by kernel_rfl
theorem laidOut : laidOutB Try.prog = true := by kernel_rfl
set_option linter.unusedVariables false in
set_option maxRecDepth 100000 in
theorem lifted (os : Os) (started : os.Started) (H : Type) (enc : TypeId × Value → H) :
    ReturnsInHanded {} Try.checked os 7 .any (Rows.syndromeOrderSpec.pre6 enc Try.prog Try.f7 Rows.syndromeOrderRow.domain false) (Rows.syndromeOrderSpec.post enc Try.prog Try.f7 false true false false) := by
  refine returnsInHanded_of_change (C := Try.checked) own started (by kernel_rfl) Try.func7
    (ChangeSpec.witness6 (enc := enc) (C := Try.checked) false ⟨#[], #[.slice none 0 0], []⟩ 8 (by kernel_rfl) (by kernel_rfl) (by kernel_rfl) (by kernel_rfl)) ?_
  intro W base args ds gs before hval0 hW hcnd _
  have hval : ∀ (j : Nat) t v, Try.f7.params[j]? = some t → args[j]? = some v → Value.okWide Try.prog W .any base t v := hval0
  have hW' := hW
  obtain ⟨p, q, hA0, hV, rfl, hfz, hnd⟩ := hW
  have hA : DataW.TrodAll enc Try.prog W 0 (fun _ => true) true Try.f7.params.toList args.toList ds p := hA0
  rw [Try.params7] at hA hval
  obtain ⟨v0, vs0, d0, ds0, p0, q0, hargs, rfl, rfl, h0, r0⟩ := trodAll_cons hA
  obtain ⟨rfl, rfl, rfl⟩ := trodAll_nil r0
  obtain rfl : args = #[v0] := by cases args; simp_all
  obtain ⟨rfl, rfl⟩ := trodVars_none hV
  obtain ⟨a0, len0, cap0, rfl⟩ := okWide_slice Try.underlying22 (hval 0 22 v0 rfl rfl)
  have k0 := h0
  have lt0 : ∀ x ∈ p0, x.block < W.heap.size := by obtain ⟨m, hm⟩ := k0; exact DataW.trod_lt m _ _ _ hm
  obtain ⟨z0, w0⟩ : ∃ zs, IsStrs W a0 len0 cap0 zs := by
    obtain ⟨fuel, hf⟩ := h0
    rcases open_strings Try.underlying22 Try.underlying9 (by kernel_rfl) hf with ⟨hcs, _⟩ | ⟨x, l, c, zs, hcs, _, hl, hm, hz, _, hcell, hwz⟩
    · simp [Value.cells] at hcs
      obtain ⟨rfl, rfl, rfl⟩ := hcs
      exact ⟨[], .inl ⟨rfl, rfl, rfl, rfl⟩⟩
    · simp [Value.cells] at hcs
      obtain ⟨rfl, rfl, rfl⟩ := hcs
      exact ⟨zs, .inr ⟨_, rfl, hl, hm, by simpa using hz, hcell, hwz⟩⟩
  clear hA0 hval0
  simp only [List.append_nil] at hW'
  refine (walk W a0 len0 cap0 z0 w0).mono fun e W' ⟨he, hg⟩ => ?_
  subst he
  exact ⟨_, rfl, _, _, _, [], _, [], hW', trodAll_mk1 (shut_bool Try.underlying4 _), (trodAll_cons_mk (Below.trod laidOut (by kernel_rfl) (of_decide_eq_true (by kernel_rfl)) k0 hg lt0) trodAll_mk0), rfl, hg.frame _, fun h => by cases h⟩
/-- For every input the law returns true, and each argument reads as it did. -/
theorem proved : Rows.SyndromeOrderSaid :=
  OpenClaim.holds_of_wide 7 Try.f7 rfl rfl rfl rfl rfl rfl rfl ⟨rfl, rfl, rfl, rfl, rfl⟩ rfl rfl rfl rfl rfl (by kernel_rfl) Try.func7 (by kernel_rfl)
    (of_decide_eq_true (by kernel_rfl)) (by unfold Func.isWrapper; first | (rw [if_pos (by decide +kernel)]; kernel_rfl) | (rw [if_neg (by decide +kernel)]; exact ⟨rfl, rfl⟩))
    (fun os started H enc _ => lifted os started H enc)
end Go.Proofs.Ytekpamadimachaa.syndromeOrder
