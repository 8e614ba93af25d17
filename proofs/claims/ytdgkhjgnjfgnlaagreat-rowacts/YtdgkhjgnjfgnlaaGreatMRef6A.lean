import Derived.Test.YtdgkhjgnjfgnlaaGreatMGfA
import Derived.Test.YtdgkhjgnjfgnlaaGreatMSynA
import Derived.Test.YtdgkhjgnjfgnlaaGreatMKitD
import Derived.Test.YtdgkhjgnjfgnlaaGreatMKitA
import Derived.Deep.LoopGhost
namespace Go.Proofs.YtdgkhjgnjfgnlaaGreat
open Go.RowKit
set_option maxRecDepth 100000 in
set_option maxHeartbeats 1000000 in
theorem has06_any (n : Nat) (L : Nat → Int) (hn : n ≤ 1000000) (a : Option Addr) (cap : Nat) (x : Int) (w : World) (hr : RowI .i64 w a n L) :
  Calls Tryz.prog 122 #[.slice a n cap, .int .i64 x] w fun e w' => e = .returned (.bool (Rf.hasF n L x)) ∧ w' = w := by
 go_enter Tryz.func122, Tryz.ntmps122
 go_wp2
 go_loopg [5] n (fun gg i wr => ∃ k : Nat, k ≤ n ∧ gg = n - k ∧ i = .int .i64 k ∧ wr = w ∧ Rf.hasF k L x = false)
 case atStart => exact ⟨0, Nat.zero_le _, rfl, rfl, rfl, rfl⟩
 case round =>
  obtain ⟨k, hk, rfl, rfl, rfl, hh⟩ := hrel
  have HH : Hid (Rf.hasF k L x = false) := hh
  clear hh
  by_cases hkn : k < n
  ·obtain ⟨b, o, rfl, hc⟩ := hr k hkn
   obtain ⟨y, hy⟩ : ∃ y, L k = y := ⟨_, rfl⟩
   rw [hy] at hc
   have HY : Hid (L k = y) := hy
   clear hy
   by_cases he : y = x
   ·have he' : (y == x) = true := by rw [beq_iff_eq]; exact he
    have E : Hid (Rf.hasF n L x = true) := Rf.hasF_yes hkn (by rw [HY.out]; exact he)
    clear he
    go_wp2
    go_ret
    exact ⟨ret_bool E.out.symm, rfl⟩
   ·have he' : (y == x) = false := by rw [beq_eq_false_iff_ne]; exact he
    have E : Hid (Rf.hasF (k + 1) L x = false) := by show _ = _; rw [Rf.hasF_succ, HH.out, HY.out, he']; rfl
    clear he
    go_wp2
    go_roundg (n - (k + 1))
    case measure => omega
    case rel => exact ⟨k + 1, by omega, rfl, by go_num, rfl, E.out⟩
  ·have hkk : k = n := by omega
   subst hkk
   go_wp2
   go_ret
   exact ⟨ret_bool HH.out.symm, rfl⟩
set_option maxRecDepth 100000 in
set_option maxHeartbeats 2000000 in
theorem size_any (n : Nat) (f : Nat → ByteArray) (hn : n ≤ 1000000) (hf : Fits 1048576 n f) (a : Option Addr) (cap : Nat) (ln : Nat) (L : Nat → Int) (hln : ln ≤ 1000000) (b : Option Addr) (capb : Nat) (w : World) (hr : RowS w a n f) (hl : RowI .i64 w b ln L) :
    Calls Tryz.prog 83 #[.slice a n cap, .slice b ln capb] w fun e w' => e = .returned (.int .i64 (Rf.szF f ln L n)) ∧ w' = w := by
  have hH := fun x => has06_any ln L hln b capb x w hl
  go_enter Tryz.func83, Tryz.ntmps83
  go_wp2
  go_loopg [5, 6] n (fun gg u i wr => ∃ (k : Nat) (s : Int), k ≤ n ∧ gg = n - k ∧ u = .int .i64 s ∧ i = .int .i64 k ∧ wr = w ∧ Rf.szO f ln L k = some s)
  case atStart => exact ⟨0, -1, Nat.zero_le _, rfl, rfl, rfl, rfl, rfl⟩
  case round =>
    obtain ⟨k, s, hk, rfl, rfl, rfl, rfl, hs⟩ := hrel
    have HS : Hid (Rf.szO f ln L k = some s) := hs
    have hsg := Rf.szO_ge hs
    clear hs
    by_cases hkn : k < n
    · obtain ⟨b0, o0, rfl, hc⟩ := hr k hkn
      have hx := hf k hkn
      cases hh : Rf.hasF ln L (k : Int) with
      | true =>
        have E : Hid (Rf.szO f ln L (k + 1) = some s) := Rf.szO_lost HS.out hh
        have hHk := hH (k : Int)
        rw [hh] at hHk
        clear hh
        go_wp2_with fail
        refine hHk.mono ?_
        rintro e w' ⟨rfl, hw⟩
        subst w'
        go_wp2
        go_roundg (n - (k + 1))
        case measure => omega
        case rel => exact ⟨k + 1, s, by omega, rfl, rfl, by go_num, rfl, E.out⟩
      | false =>
        have hHk := hH (k : Int)
        rw [hh] at hHk
        have HN : Hid (Rf.hasF ln L (k : Int) = false) := hh
        clear hh
        obtain ⟨t, ht⟩ : ∃ t, f k = t := ⟨_, rfl⟩
        have HT : Hid (f k = t) := ht
        rw [ht] at hc hx
        clear ht
        by_cases h0 : 0 ≤ s
        · by_cases h1 : (t.size : Int) = s
          · have h1' : ((t.size : Int) != s) = false := by rw [bne_eq_false_iff_eq]; exact h1
            have E : Hid (Rf.szO f ln L (k + 1) = some ((t.size : Int))) := by
              show _ = _; rw [← HT.out]; exact Rf.szO_next HS.out HN.out (by rw [HT.out]; exact fun h => h.2 h1)
            clear h1
            go_wp2_with fail
            refine hHk.mono ?_
            rintro e w' ⟨rfl, hw⟩
            subst w'
            go_wp2
            go_roundg (n - (k + 1))
            case measure => omega
            case rel => exact ⟨k + 1, _, by omega, rfl, rfl, by go_num, rfl, E.out⟩
          · have h1' : ((t.size : Int) != s) = true := by rw [bne_iff_ne]; exact h1
            have E : Hid (Rf.szF f ln L n = -1) := by
              have e := Rf.szO_two HS.out HN.out h0 (by rw [HT.out]; exact h1)
              have e2 := Rf.szO_stays e (n - (k + 1))
              rw [show k + 1 + (n - (k + 1)) = n from by omega] at e2
              show _ = _; unfold Rf.szF; rw [e2]; rfl
            clear h1
            go_wp2_with fail
            refine hHk.mono ?_
            rintro e w' ⟨rfl, hw⟩
            subst w'
            go_wp2
            go_ret
            exact ⟨ret_int E.out.symm, rfl⟩
        · have E : Hid (Rf.szO f ln L (k + 1) = some ((t.size : Int))) := by
            show _ = _; rw [← HT.out]; exact Rf.szO_next HS.out HN.out (fun h => h0 h.1)
          go_wp2_with fail
          refine hHk.mono ?_
          rintro e w' ⟨rfl, hw⟩
          subst w'
          go_wp2
          go_roundg (n - (k + 1))
          case measure => omega
          case rel => exact ⟨k + 1, _, by omega, rfl, rfl, by go_num, rfl, E.out⟩
    · have hkk : k = n := by omega
      subst hkk
      have E : Hid (Rf.szF f ln L k = s) := by show _ = _; unfold Rf.szF; rw [HS.out]; rfl
      go_wp2
      go_ret
      exact ⟨ret_int E.out.symm, rfl⟩
end Go.Proofs.YtdgkhjgnjfgnlaaGreat
namespace Go.Proofs.YtdgkhjgnjfgnlaaGreat
open Go.RowKit
theorem run_slice_ints (a : Option Addr) (len cap N : Nat) (h : N ≤ cap) (W : World) :
  (Instr.slice 28 (.slice a len cap) none (some (.int .i64 (N : Nat))) none).run Tryz.prog W = .ok (.slice a N cap) W := by
 rw [run_slice_h W 28 a len cap (by kernel_rfl) .i64 (N : Int) (by omega) (by omega)]
 simp [sliced_to]
 go_simp
set_option maxRecDepth 100000 in
set_option maxHeartbeats 8000000 in
theorem May_any (n : Nat) (f : Nat → ByteArray) (hn : n ≤ 1000000) (hf : Fits 1048576 n f) (a : Option Addr) (cap : Nat) (ln : Nat) (L : Nat → Int) (hln : ln ≤ 1000000) (b : Option Addr) (capb : Nat) (hcapb : ln ≤ capb) (w : World) (hr : RowS w a n f) (hl : RowI .i64 w b ln L) :
  Calls Tryz.prog 82 #[.slice a n cap, .slice b ln capb] w fun e w' => e = .returned (.int .i64 (Rf.mayF n f ln L)) ∧ Below w.heap.size w w' := by
 by_cases hN : n < 4 ∨ 10 < n
 ·have E : Hid (Rf.mayF n f ln L = 1) := Rf.mayF_cols hN
  by_cases h4 : (n : Int) < 4
  ·clear hN
   go_enter Tryz.func82, Tryz.ntmps82
   go_wp2
   go_ret
   exact ⟨ret_int E.out.symm, Below.refl _ _⟩
  ·have h10 : (10 : Int) < (n : Int) := by omega
   clear hN
   go_enter Tryz.func82, Tryz.ntmps82
   go_wp2
   go_ret
   exact ⟨ret_int E.out.symm, Below.refl _ _⟩
 ·have h4 : ¬ (n : Int) < 4 := by omega
  have h10 : ¬ (10 : Int) < (n : Int) := by omega
  have HN : Hid (¬ (n < 4 ∨ 10 < n)) := hN
  have HMX : Hid (Tryz.prog.follows .mixedOrders = true) := by show _ = _; kernel_rfl
  have hSZ := fun (W : World) (h : Below w.heap.size w W) => size_any n f hn hf a cap ln L hln b capb W (hr.below h) (hl.below h)
  clear hN
  go_enter Tryz.func82, Tryz.ntmps82
  go_wp2
  go_loopg [5] ln (fun gg i wr => ∃ k : Nat, k ≤ ln ∧ gg = ln - k ∧ i = .int .i64 k ∧ Below w.heap.size w wr ∧ ∀ j, j < k → 0 ≤ L j ∧ L j < (n : Int) ∧ Rf.hasF j L (L j) = false)
  case atStart => exact ⟨0, Nat.zero_le _, rfl, rfl, Below.refl _ _, fun j hj => absurd hj (Nat.not_lt_zero _)⟩
  case round =>
   obtain ⟨k, hk, rfl, rfl, hb, hv⟩ := hrel
   have HV : Hid (∀ j, j < k → 0 ≤ L j ∧ L j < (n : Int) ∧ Rf.hasF j L (L j) = false) := hv
   have HB : Hid (Below w.heap.size w wr) := hb
   have hsz := hb.size
   clear hv hb
   by_cases hkn : k < ln
   ·obtain ⟨b0, o0, rfl, hc⟩ := hl k hkn
    have hc := (HB.out.cell (p := ⟨b0, o0 + k, none⟩) (World.block_lt_of_cell? w _ hc)).trans hc
    have hsl := run_slice_ints (some ⟨b0, o0, none⟩) ln capb k (by omega)
    have hHas := fun (W : World) (h : Below w.heap.size w W) => has06_any k L (by omega) (some ⟨b0, o0, none⟩) capb (L k) W ((hl.mono (Nat.le_of_lt hkn) fun _ _ => rfl).below h)
    obtain ⟨y, hy⟩ : ∃ y, L k = y := ⟨_, rfl⟩
    have HY : Hid (L k = y) := hy
    rw [hy] at hc hHas
    clear hy
    have hS0 : wr.cell? ⟨b0, o0 + k, none⟩ = some (.int .i64 y) ∧ Below wr.heap.size wr wr.drew := ⟨hc, (Below.refl _ _).drew⟩
    by_cases y0 : y < 0
    ·have E : Hid (Rf.mayF n f ln L = 1) := Rf.mayF_lost HN.out (Rf.okL_no hkn (by rw [HY.out]; omega))
     go_wp2_with fail
     refine region_det (fun W => W.cell? ⟨b0, o0 + k, none⟩ = some (.int .i64 y) ∧ Below wr.heap.size wr W) HMX.out (by kernel_rfl) hS0 ?_
     refine det_read 0 (v := ?vx1) rfl (by kernel_rfl) rfl ?hyx1 ?restx1
     case hyx1 => (intro wS hSw; (try dsimp only at hSw); go_simp; try with_reducible rfl)
     try simp only [Act.put, List.setIfInBounds_toArray, List.set_cons_zero, List.set_cons_succ]
     refine det_read 1 (v := ?vx2) rfl (by kernel_rfl) rfl ?hyx2 ?restx2
     case hyx2 => (intro wS hSw; (try dsimp only at hSw); go_simp; try with_reducible rfl)
     try simp only [Act.put, List.setIfInBounds_toArray, List.set_cons_zero, List.set_cons_succ]
     refine det_read 2 (v := ?vx3) rfl (by kernel_rfl) rfl ?hyx3 ?restx3
     case hyx3 => (intro wS hSw; (try dsimp only at hSw); go_simp; try with_reducible rfl)
     try simp only [Act.put, List.setIfInBounds_toArray, List.set_cons_zero, List.set_cons_succ]
     refine det_read 3 (v := ?vx4) rfl (by kernel_rfl) rfl ?hyx4 ?restx4
     case hyx4 => (intro wS hSw; (try dsimp only at hSw); go_simp; try with_reducible rfl)
     try simp only [Act.put, List.setIfInBounds_toArray, List.set_cons_zero, List.set_cons_succ]
     refine det_read 4 (v := ?vx5) rfl (by kernel_rfl) rfl ?hyx5 ?restx5
     case hyx5 => (intro wS hSw; (try dsimp only at hSw); go_simp; try with_reducible rfl)
     try simp only [Act.put, List.setIfInBounds_toArray, List.set_cons_zero, List.set_cons_succ]
     refine det_read 5 (v := ?vx6) rfl (by kernel_rfl) rfl ?hyx6 ?restx6
     case hyx6 => (intro wS hSw; (try dsimp only at hSw); go_simp; try with_reducible rfl)
     try simp only [Act.put, List.setIfInBounds_toArray, List.set_cons_zero, List.set_cons_succ]
     refine det_skip 6 rfl (by kernel_rfl) rfl ?restx72
     try simp only [Act.put, List.setIfInBounds_toArray, List.set_cons_zero, List.set_cons_succ]
     refine det_skip 7 rfl (by kernel_rfl) rfl ?restx73
     try simp only [Act.put, List.setIfInBounds_toArray, List.set_cons_zero, List.set_cons_succ]
     refine det_skip 8 rfl (by kernel_rfl) rfl ?restx74
     try simp only [Act.put, List.setIfInBounds_toArray, List.set_cons_zero, List.set_cons_succ]
     refine det_skip 9 rfl (by kernel_rfl) rfl ?restx75
     try simp only [Act.put, List.setIfInBounds_toArray, List.set_cons_zero, List.set_cons_succ]
     refine det_skip 10 rfl (by kernel_rfl) rfl ?restx76
     try simp only [Act.put, List.setIfInBounds_toArray, List.set_cons_zero, List.set_cons_succ]
     refine det_skip 11 rfl (by kernel_rfl) rfl ?restx77
     try simp only [Act.put, List.setIfInBounds_toArray, List.set_cons_zero, List.set_cons_succ]
     refine det_skip 12 rfl (by kernel_rfl) rfl ?restx78
     try simp only [Act.put, List.setIfInBounds_toArray, List.set_cons_zero, List.set_cons_succ]
     refine det_read 13 (v := ?vx7) rfl (by kernel_rfl) rfl ?hyx7 ?restx7
     case hyx7 => (intro wS hSw; (try dsimp only at hSw); go_simp; try with_reducible rfl)
     try simp only [Act.put, List.setIfInBounds_toArray, List.set_cons_zero, List.set_cons_succ]
     refine det_read 14 (v := ?vx8) rfl (by kernel_rfl) rfl ?hyx8 ?restx8
     case hyx8 => (intro wS hSw; (try dsimp only at hSw); go_simp; try with_reducible rfl)
     try simp only [Act.put, List.setIfInBounds_toArray, List.set_cons_zero, List.set_cons_succ]
     refine det_skip 15 rfl (by kernel_rfl) rfl ?restx79
     try simp only [Act.put, List.setIfInBounds_toArray, List.set_cons_zero, List.set_cons_succ]
     refine det_skip 16 rfl (by kernel_rfl) rfl ?restx80
     try simp only [Act.put, List.setIfInBounds_toArray, List.set_cons_zero, List.set_cons_succ]
     refine det_skip 17 rfl (by kernel_rfl) rfl ?restx81
     try simp only [Act.put, List.setIfInBounds_toArray, List.set_cons_zero, List.set_cons_succ]
     refine det_skip 18 rfl (by kernel_rfl) rfl ?restx82
     try simp only [Act.put, List.setIfInBounds_toArray, List.set_cons_zero, List.set_cons_succ]
     refine det_skip 19 rfl (by kernel_rfl) rfl ?restx83
     try simp only [Act.put, List.setIfInBounds_toArray, List.set_cons_zero, List.set_cons_succ]
     refine det_skip 20 rfl (by kernel_rfl) rfl ?restx84
     try simp only [Act.put, List.setIfInBounds_toArray, List.set_cons_zero, List.set_cons_succ]
     refine det_skip 21 rfl (by kernel_rfl) rfl ?restx85
     try simp only [Act.put, List.setIfInBounds_toArray, List.set_cons_zero, List.set_cons_succ]
     refine det_skip 22 rfl (by kernel_rfl) rfl ?restx86
     try simp only [Act.put, List.setIfInBounds_toArray, List.set_cons_zero, List.set_cons_succ]
     refine det_read 23 (v := ?vx9) rfl (by kernel_rfl) rfl ?hyx9 ?restx9
     case hyx9 => (intro wS hSw; (try dsimp only at hSw); go_simp; try with_reducible rfl)
     try simp only [Act.put, List.setIfInBounds_toArray, List.set_cons_zero, List.set_cons_succ]
     refine det_done (by kernel_rfl) ?_
     rintro W ⟨_, hW⟩
     go_wp2
     go_ret
     exact ⟨ret_int E.out.symm, HB.out.trans (hW.mono hsz)⟩
    ·have d0 : decide (y < 0) = false := decide_eq_false y0
     by_cases yn : (n : Int) ≤ y
     ·have E : Hid (Rf.mayF n f ln L = 1) := Rf.mayF_lost HN.out (Rf.okL_no hkn (by rw [HY.out]; omega))
      go_wp2_with fail
      refine region_det (fun W => W.cell? ⟨b0, o0 + k, none⟩ = some (.int .i64 y) ∧ Below wr.heap.size wr W) HMX.out (by kernel_rfl) hS0 ?_
      refine det_read 0 (v := ?vx10) rfl (by kernel_rfl) rfl ?hyx10 ?restx10
      case hyx10 => (intro wS hSw; (try dsimp only at hSw); go_simp; try with_reducible rfl)
      try simp only [Act.put, List.setIfInBounds_toArray, List.set_cons_zero, List.set_cons_succ]
      refine det_read 1 (v := ?vx11) rfl (by kernel_rfl) rfl ?hyx11 ?restx11
      case hyx11 => (intro wS hSw; (try dsimp only at hSw); go_simp; try with_reducible rfl)
      try simp only [Act.put, List.setIfInBounds_toArray, List.set_cons_zero, List.set_cons_succ]
      refine det_read 2 (v := ?vx12) rfl (by kernel_rfl) rfl ?hyx12 ?restx12
      case hyx12 => (intro wS hSw; (try dsimp only at hSw); go_simp; try with_reducible rfl)
      try simp only [Act.put, List.setIfInBounds_toArray, List.set_cons_zero, List.set_cons_succ]
      refine det_read 3 (v := ?vx13) rfl (by kernel_rfl) rfl ?hyx13 ?restx13
      case hyx13 => (intro wS hSw; (try dsimp only at hSw); go_simp; try with_reducible rfl)
      try simp only [Act.put, List.setIfInBounds_toArray, List.set_cons_zero, List.set_cons_succ]
      refine det_read 4 (v := ?vx14) rfl (by kernel_rfl) rfl ?hyx14 ?restx14
      case hyx14 => (intro wS hSw; (try dsimp only at hSw); go_simp; try with_reducible rfl)
      try simp only [Act.put, List.setIfInBounds_toArray, List.set_cons_zero, List.set_cons_succ]
      refine det_read 5 (v := ?vx15) rfl (by kernel_rfl) rfl ?hyx15 ?restx15
      case hyx15 => (intro wS hSw; (try dsimp only at hSw); go_simp; try with_reducible rfl)
      try simp only [Act.put, List.setIfInBounds_toArray, List.set_cons_zero, List.set_cons_succ]
      refine det_read 6 (v := ?vx16) rfl (by kernel_rfl) rfl ?hyx16 ?restx16
      case hyx16 => (intro wS hSw; (try dsimp only at hSw); go_simp; try with_reducible rfl)
      try simp only [Act.put, List.setIfInBounds_toArray, List.set_cons_zero, List.set_cons_succ]
      refine det_read 7 (v := ?vx17) rfl (by kernel_rfl) rfl ?hyx17 ?restx17
      case hyx17 => (intro wS hSw; (try dsimp only at hSw); go_simp; try with_reducible rfl)
      try simp only [Act.put, List.setIfInBounds_toArray, List.set_cons_zero, List.set_cons_succ]
      refine det_read 8 (v := ?vx18) rfl (by kernel_rfl) rfl ?hyx18 ?restx18
      case hyx18 => (intro wS hSw; (try dsimp only at hSw); go_simp; try with_reducible rfl)
      try simp only [Act.put, List.setIfInBounds_toArray, List.set_cons_zero, List.set_cons_succ]
      refine det_read 9 (v := ?vx19) rfl (by kernel_rfl) rfl ?hyx19 ?restx19
      case hyx19 => (intro wS hSw; (try dsimp only at hSw); go_simp; try with_reducible rfl)
      try simp only [Act.put, List.setIfInBounds_toArray, List.set_cons_zero, List.set_cons_succ]
      refine det_read 10 (v := ?vx20) rfl (by kernel_rfl) rfl ?hyx20 ?restx20
      case hyx20 => (intro wS hSw; (try dsimp only at hSw); go_simp; try with_reducible rfl)
      try simp only [Act.put, List.setIfInBounds_toArray, List.set_cons_zero, List.set_cons_succ]
      refine det_read 11 (v := ?vx21) rfl (by kernel_rfl) rfl ?hyx21 ?restx21
      case hyx21 => (intro wS hSw; (try dsimp only at hSw); go_simp; try with_reducible rfl)
      try simp only [Act.put, List.setIfInBounds_toArray, List.set_cons_zero, List.set_cons_succ]
      refine det_read 12 (v := ?vx22) rfl (by kernel_rfl) rfl ?hyx22 ?restx22
      case hyx22 => (intro wS hSw; (try dsimp only at hSw); go_simp; try with_reducible rfl)
      try simp only [Act.put, List.setIfInBounds_toArray, List.set_cons_zero, List.set_cons_succ]
      refine det_read 13 (v := ?vx23) rfl (by kernel_rfl) rfl ?hyx23 ?restx23
      case hyx23 => (intro wS hSw; (try dsimp only at hSw); go_simp; try with_reducible rfl)
      try simp only [Act.put, List.setIfInBounds_toArray, List.set_cons_zero, List.set_cons_succ]
      refine det_read 14 (v := ?vx24) rfl (by kernel_rfl) rfl ?hyx24 ?restx24
      case hyx24 => (intro wS hSw; (try dsimp only at hSw); go_simp; try with_reducible rfl)
      try simp only [Act.put, List.setIfInBounds_toArray, List.set_cons_zero, List.set_cons_succ]
      refine det_skip 15 rfl (by kernel_rfl) rfl ?restx87
      try simp only [Act.put, List.setIfInBounds_toArray, List.set_cons_zero, List.set_cons_succ]
      refine det_skip 16 rfl (by kernel_rfl) rfl ?restx88
      try simp only [Act.put, List.setIfInBounds_toArray, List.set_cons_zero, List.set_cons_succ]
      refine det_skip 17 rfl (by kernel_rfl) rfl ?restx89
      try simp only [Act.put, List.setIfInBounds_toArray, List.set_cons_zero, List.set_cons_succ]
      refine det_skip 18 rfl (by kernel_rfl) rfl ?restx90
      try simp only [Act.put, List.setIfInBounds_toArray, List.set_cons_zero, List.set_cons_succ]
      refine det_skip 19 rfl (by kernel_rfl) rfl ?restx91
      try simp only [Act.put, List.setIfInBounds_toArray, List.set_cons_zero, List.set_cons_succ]
      refine det_skip 20 rfl (by kernel_rfl) rfl ?restx92
      try simp only [Act.put, List.setIfInBounds_toArray, List.set_cons_zero, List.set_cons_succ]
      refine det_skip 21 rfl (by kernel_rfl) rfl ?restx93
      try simp only [Act.put, List.setIfInBounds_toArray, List.set_cons_zero, List.set_cons_succ]
      refine det_skip 22 rfl (by kernel_rfl) rfl ?restx94
      try simp only [Act.put, List.setIfInBounds_toArray, List.set_cons_zero, List.set_cons_succ]
      refine det_read 23 (v := ?vx25) rfl (by kernel_rfl) rfl ?hyx25 ?restx25
      case hyx25 => (intro wS hSw; (try dsimp only at hSw); go_simp; try with_reducible rfl)
      try simp only [Act.put, List.setIfInBounds_toArray, List.set_cons_zero, List.set_cons_succ]
      refine det_done (by kernel_rfl) ?_
      rintro W ⟨_, hW⟩
      go_wp2
      go_ret
      exact ⟨ret_int E.out.symm, HB.out.trans (hW.mono hsz)⟩
     ·have d1 : decide ((n : Int) ≤ y) = false := decide_eq_false yn
      have hH2 : ∀ W, (W.cell? ⟨b0, o0 + k, none⟩ = some (.int .i64 y) ∧ Below wr.heap.size wr W) → Calls Tryz.prog 122 #[.slice (some ⟨b0, o0, none⟩) k capb, .int .i64 y] W fun e w' => e = .returned (.bool (Rf.hasF k L y)) ∧ (w'.cell? ⟨b0, o0 + k, none⟩ = some (.int .i64 y) ∧ Below wr.heap.size wr w') := fun W h =>
       (hHas W (HB.out.trans (h.2.mono hsz))).mono fun _ _ ⟨e, hw⟩ => ⟨e, by rw [hw]; exact h⟩
      clear hHas
      cases hh : Rf.hasF k L y with
      | true =>
       have E : Hid (Rf.mayF n f ln L = 1) := Rf.mayF_lost HN.out (Rf.okL_no hkn (by rw [HY.out, hh]; simp))
       rw [hh] at hH2
       clear hh
       go_wp2_with fail
       refine region_det (fun W => W.cell? ⟨b0, o0 + k, none⟩ = some (.int .i64 y) ∧ Below wr.heap.size wr W) HMX.out (by kernel_rfl) hS0 ?_
       refine det_read 0 (v := ?vx26) rfl (by kernel_rfl) rfl ?hyx26 ?restx26
       case hyx26 => (intro wS hSw; (try dsimp only at hSw); go_simp; try with_reducible rfl)
       try simp only [Act.put, List.setIfInBounds_toArray, List.set_cons_zero, List.set_cons_succ]
       refine det_read 1 (v := ?vx27) rfl (by kernel_rfl) rfl ?hyx27 ?restx27
       case hyx27 => (intro wS hSw; (try dsimp only at hSw); go_simp; try with_reducible rfl)
       try simp only [Act.put, List.setIfInBounds_toArray, List.set_cons_zero, List.set_cons_succ]
       refine det_read 2 (v := ?vx28) rfl (by kernel_rfl) rfl ?hyx28 ?restx28
       case hyx28 => (intro wS hSw; (try dsimp only at hSw); go_simp; try with_reducible rfl)
       try simp only [Act.put, List.setIfInBounds_toArray, List.set_cons_zero, List.set_cons_succ]
       refine det_read 3 (v := ?vx29) rfl (by kernel_rfl) rfl ?hyx29 ?restx29
       case hyx29 => (intro wS hSw; (try dsimp only at hSw); go_simp; try with_reducible rfl)
       try simp only [Act.put, List.setIfInBounds_toArray, List.set_cons_zero, List.set_cons_succ]
       refine det_read 4 (v := ?vx30) rfl (by kernel_rfl) rfl ?hyx30 ?restx30
       case hyx30 => (intro wS hSw; (try dsimp only at hSw); go_simp; try with_reducible rfl)
       try simp only [Act.put, List.setIfInBounds_toArray, List.set_cons_zero, List.set_cons_succ]
       refine det_read 5 (v := ?vx31) rfl (by kernel_rfl) rfl ?hyx31 ?restx31
       case hyx31 => (intro wS hSw; (try dsimp only at hSw); go_simp; try with_reducible rfl)
       try simp only [Act.put, List.setIfInBounds_toArray, List.set_cons_zero, List.set_cons_succ]
       refine det_read 6 (v := ?vx32) rfl (by kernel_rfl) rfl ?hyx32 ?restx32
       case hyx32 => (intro wS hSw; (try dsimp only at hSw); go_simp; try with_reducible rfl)
       try simp only [Act.put, List.setIfInBounds_toArray, List.set_cons_zero, List.set_cons_succ]
       refine det_read 7 (v := ?vx33) rfl (by kernel_rfl) rfl ?hyx33 ?restx33
       case hyx33 => (intro wS hSw; (try dsimp only at hSw); go_simp; try with_reducible rfl)
       try simp only [Act.put, List.setIfInBounds_toArray, List.set_cons_zero, List.set_cons_succ]
       refine det_read 8 (v := ?vx34) rfl (by kernel_rfl) rfl ?hyx34 ?restx34
       case hyx34 => (intro wS hSw; (try dsimp only at hSw); go_simp; try with_reducible rfl)
       try simp only [Act.put, List.setIfInBounds_toArray, List.set_cons_zero, List.set_cons_succ]
       refine det_read 9 (v := ?vx35) rfl (by kernel_rfl) rfl ?hyx35 ?restx35
       case hyx35 => (intro wS hSw; (try dsimp only at hSw); go_simp; try with_reducible rfl)
       try simp only [Act.put, List.setIfInBounds_toArray, List.set_cons_zero, List.set_cons_succ]
       refine det_read 10 (v := ?vx36) rfl (by kernel_rfl) rfl ?hyx36 ?restx36
       case hyx36 => (intro wS hSw; (try dsimp only at hSw); go_simp; try with_reducible rfl)
       try simp only [Act.put, List.setIfInBounds_toArray, List.set_cons_zero, List.set_cons_succ]
       refine det_read 11 (v := ?vx37) rfl (by kernel_rfl) rfl ?hyx37 ?restx37
       case hyx37 => (intro wS hSw; (try dsimp only at hSw); go_simp; try with_reducible rfl)
       try simp only [Act.put, List.setIfInBounds_toArray, List.set_cons_zero, List.set_cons_succ]
       refine det_read 12 (v := ?vx38) rfl (by kernel_rfl) rfl ?hyx38 ?restx38
       case hyx38 => (intro wS hSw; (try dsimp only at hSw); go_simp; try with_reducible rfl)
       try simp only [Act.put, List.setIfInBounds_toArray, List.set_cons_zero, List.set_cons_succ]
       refine det_read 13 (v := ?vx39) rfl (by kernel_rfl) rfl ?hyx39 ?restx39
       case hyx39 => (intro wS hSw; (try dsimp only at hSw); go_simp; try with_reducible rfl)
       try simp only [Act.put, List.setIfInBounds_toArray, List.set_cons_zero, List.set_cons_succ]
       refine det_read 14 (v := ?vx40) rfl (by kernel_rfl) rfl ?hyx40 ?restx40
       case hyx40 => (intro wS hSw; (try dsimp only at hSw); go_simp; try with_reducible rfl)
       try simp only [Act.put, List.setIfInBounds_toArray, List.set_cons_zero, List.set_cons_succ]
       refine det_read 15 (v := ?vx41) rfl (by kernel_rfl) rfl ?hyx41 ?restx41
       case hyx41 => (intro wS hSw; (try dsimp only at hSw); go_simp; try with_reducible rfl)
       try simp only [Act.put, List.setIfInBounds_toArray, List.set_cons_zero, List.set_cons_succ]
       refine det_read 16 (v := ?vx42) rfl (by kernel_rfl) rfl ?hyx42 ?restx42
       case hyx42 => (intro wS hSw; (try dsimp only at hSw); go_simp; try with_reducible rfl)
       try simp only [Act.put, List.setIfInBounds_toArray, List.set_cons_zero, List.set_cons_succ]
       refine det_read 17 (v := ?vx43) rfl (by kernel_rfl) rfl ?hyx43 ?restx43
       case hyx43 => (intro wS hSw; (try dsimp only at hSw); go_simp; try with_reducible rfl)
       try simp only [Act.put, List.setIfInBounds_toArray, List.set_cons_zero, List.set_cons_succ]
       refine det_read 18 (v := ?vx44) rfl (by kernel_rfl) rfl ?hyx44 ?restx44
       case hyx44 => (intro wS hSw; (try dsimp only at hSw); go_simp; try with_reducible rfl)
       try simp only [Act.put, List.setIfInBounds_toArray, List.set_cons_zero, List.set_cons_succ]
       refine det_read 19 (v := ?vx45) rfl (by kernel_rfl) rfl ?hyx45 ?restx45
       case hyx45 => (intro wS hSw; (try dsimp only at hSw); go_simp; try with_reducible rfl)
       try simp only [Act.put, List.setIfInBounds_toArray, List.set_cons_zero, List.set_cons_succ]
       refine det_read 20 (v := ?vx46) rfl (by kernel_rfl) rfl ?hyx46 ?restx46
       case hyx46 => (intro wS hSw; (try dsimp only at hSw); go_simp; try with_reducible rfl)
       try simp only [Act.put, List.setIfInBounds_toArray, List.set_cons_zero, List.set_cons_succ]
       refine det_read 21 (v := ?vx47) rfl (by kernel_rfl) rfl ?hyx47 ?restx47
       case hyx47 => (intro wS hSw; (try dsimp only at hSw); go_simp; try with_reducible rfl)
       try simp only [Act.put, List.setIfInBounds_toArray, List.set_cons_zero, List.set_cons_succ]
       refine det_call 22 rfl (by kernel_rfl) rfl ?hyx95 (hH2) ?restx95
       case hyx95 => (intro wS hSw; go_simp; try with_reducible rfl)
       try simp only [Act.put, List.setIfInBounds_toArray, List.set_cons_zero, List.set_cons_succ]
       refine det_read 23 (v := ?vx48) rfl (by kernel_rfl) rfl ?hyx48 ?restx48
       case hyx48 => (intro wS hSw; (try dsimp only at hSw); go_simp; try with_reducible rfl)
       try simp only [Act.put, List.setIfInBounds_toArray, List.set_cons_zero, List.set_cons_succ]
       refine det_done (by kernel_rfl) ?_
       rintro W ⟨_, hW⟩
       go_wp2
       go_ret
       exact ⟨ret_int E.out.symm, HB.out.trans (hW.mono hsz)⟩
      | false =>
       have HV2 : Hid (∀ j, j < k + 1 → 0 ≤ L j ∧ L j < (n : Int) ∧ Rf.hasF j L (L j) = false) := fun j hj => by
        by_cases e : j = k
        ·subst e; rw [HY.out]; exact ⟨by omega, by omega, hh⟩
        ·exact HV.out j (by omega)
       rw [hh] at hH2
       clear hh
       go_wp2_with fail
       refine region_det (fun W => W.cell? ⟨b0, o0 + k, none⟩ = some (.int .i64 y) ∧ Below wr.heap.size wr W) HMX.out (by kernel_rfl) hS0 ?_
       refine det_read 0 (v := ?vx49) rfl (by kernel_rfl) rfl ?hyx49 ?restx49
       case hyx49 => (intro wS hSw; (try dsimp only at hSw); go_simp; try with_reducible rfl)
       try simp only [Act.put, List.setIfInBounds_toArray, List.set_cons_zero, List.set_cons_succ]
       refine det_read 1 (v := ?vx50) rfl (by kernel_rfl) rfl ?hyx50 ?restx50
       case hyx50 => (intro wS hSw; (try dsimp only at hSw); go_simp; try with_reducible rfl)
       try simp only [Act.put, List.setIfInBounds_toArray, List.set_cons_zero, List.set_cons_succ]
       refine det_read 2 (v := ?vx51) rfl (by kernel_rfl) rfl ?hyx51 ?restx51
       case hyx51 => (intro wS hSw; (try dsimp only at hSw); go_simp; try with_reducible rfl)
       try simp only [Act.put, List.setIfInBounds_toArray, List.set_cons_zero, List.set_cons_succ]
       refine det_read 3 (v := ?vx52) rfl (by kernel_rfl) rfl ?hyx52 ?restx52
       case hyx52 => (intro wS hSw; (try dsimp only at hSw); go_simp; try with_reducible rfl)
       try simp only [Act.put, List.setIfInBounds_toArray, List.set_cons_zero, List.set_cons_succ]
       refine det_read 4 (v := ?vx53) rfl (by kernel_rfl) rfl ?hyx53 ?restx53
       case hyx53 => (intro wS hSw; (try dsimp only at hSw); go_simp; try with_reducible rfl)
       try simp only [Act.put, List.setIfInBounds_toArray, List.set_cons_zero, List.set_cons_succ]
       refine det_read 5 (v := ?vx54) rfl (by kernel_rfl) rfl ?hyx54 ?restx54
       case hyx54 => (intro wS hSw; (try dsimp only at hSw); go_simp; try with_reducible rfl)
       try simp only [Act.put, List.setIfInBounds_toArray, List.set_cons_zero, List.set_cons_succ]
       refine det_read 6 (v := ?vx55) rfl (by kernel_rfl) rfl ?hyx55 ?restx55
       case hyx55 => (intro wS hSw; (try dsimp only at hSw); go_simp; try with_reducible rfl)
       try simp only [Act.put, List.setIfInBounds_toArray, List.set_cons_zero, List.set_cons_succ]
       refine det_read 7 (v := ?vx56) rfl (by kernel_rfl) rfl ?hyx56 ?restx56
       case hyx56 => (intro wS hSw; (try dsimp only at hSw); go_simp; try with_reducible rfl)
       try simp only [Act.put, List.setIfInBounds_toArray, List.set_cons_zero, List.set_cons_succ]
       refine det_read 8 (v := ?vx57) rfl (by kernel_rfl) rfl ?hyx57 ?restx57
       case hyx57 => (intro wS hSw; (try dsimp only at hSw); go_simp; try with_reducible rfl)
       try simp only [Act.put, List.setIfInBounds_toArray, List.set_cons_zero, List.set_cons_succ]
       refine det_read 9 (v := ?vx58) rfl (by kernel_rfl) rfl ?hyx58 ?restx58
       case hyx58 => (intro wS hSw; (try dsimp only at hSw); go_simp; try with_reducible rfl)
       try simp only [Act.put, List.setIfInBounds_toArray, List.set_cons_zero, List.set_cons_succ]
       refine det_read 10 (v := ?vx59) rfl (by kernel_rfl) rfl ?hyx59 ?restx59
       case hyx59 => (intro wS hSw; (try dsimp only at hSw); go_simp; try with_reducible rfl)
       try simp only [Act.put, List.setIfInBounds_toArray, List.set_cons_zero, List.set_cons_succ]
       refine det_read 11 (v := ?vx60) rfl (by kernel_rfl) rfl ?hyx60 ?restx60
       case hyx60 => (intro wS hSw; (try dsimp only at hSw); go_simp; try with_reducible rfl)
       try simp only [Act.put, List.setIfInBounds_toArray, List.set_cons_zero, List.set_cons_succ]
       refine det_read 12 (v := ?vx61) rfl (by kernel_rfl) rfl ?hyx61 ?restx61
       case hyx61 => (intro wS hSw; (try dsimp only at hSw); go_simp; try with_reducible rfl)
       try simp only [Act.put, List.setIfInBounds_toArray, List.set_cons_zero, List.set_cons_succ]
       refine det_read 13 (v := ?vx62) rfl (by kernel_rfl) rfl ?hyx62 ?restx62
       case hyx62 => (intro wS hSw; (try dsimp only at hSw); go_simp; try with_reducible rfl)
       try simp only [Act.put, List.setIfInBounds_toArray, List.set_cons_zero, List.set_cons_succ]
       refine det_read 14 (v := ?vx63) rfl (by kernel_rfl) rfl ?hyx63 ?restx63
       case hyx63 => (intro wS hSw; (try dsimp only at hSw); go_simp; try with_reducible rfl)
       try simp only [Act.put, List.setIfInBounds_toArray, List.set_cons_zero, List.set_cons_succ]
       refine det_read 15 (v := ?vx64) rfl (by kernel_rfl) rfl ?hyx64 ?restx64
       case hyx64 => (intro wS hSw; (try dsimp only at hSw); go_simp; try with_reducible rfl)
       try simp only [Act.put, List.setIfInBounds_toArray, List.set_cons_zero, List.set_cons_succ]
       refine det_read 16 (v := ?vx65) rfl (by kernel_rfl) rfl ?hyx65 ?restx65
       case hyx65 => (intro wS hSw; (try dsimp only at hSw); go_simp; try with_reducible rfl)
       try simp only [Act.put, List.setIfInBounds_toArray, List.set_cons_zero, List.set_cons_succ]
       refine det_read 17 (v := ?vx66) rfl (by kernel_rfl) rfl ?hyx66 ?restx66
       case hyx66 => (intro wS hSw; (try dsimp only at hSw); go_simp; try with_reducible rfl)
       try simp only [Act.put, List.setIfInBounds_toArray, List.set_cons_zero, List.set_cons_succ]
       refine det_read 18 (v := ?vx67) rfl (by kernel_rfl) rfl ?hyx67 ?restx67
       case hyx67 => (intro wS hSw; (try dsimp only at hSw); go_simp; try with_reducible rfl)
       try simp only [Act.put, List.setIfInBounds_toArray, List.set_cons_zero, List.set_cons_succ]
       refine det_read 19 (v := ?vx68) rfl (by kernel_rfl) rfl ?hyx68 ?restx68
       case hyx68 => (intro wS hSw; (try dsimp only at hSw); go_simp; try with_reducible rfl)
       try simp only [Act.put, List.setIfInBounds_toArray, List.set_cons_zero, List.set_cons_succ]
       refine det_read 20 (v := ?vx69) rfl (by kernel_rfl) rfl ?hyx69 ?restx69
       case hyx69 => (intro wS hSw; (try dsimp only at hSw); go_simp; try with_reducible rfl)
       try simp only [Act.put, List.setIfInBounds_toArray, List.set_cons_zero, List.set_cons_succ]
       refine det_read 21 (v := ?vx70) rfl (by kernel_rfl) rfl ?hyx70 ?restx70
       case hyx70 => (intro wS hSw; (try dsimp only at hSw); go_simp; try with_reducible rfl)
       try simp only [Act.put, List.setIfInBounds_toArray, List.set_cons_zero, List.set_cons_succ]
       refine det_call 22 rfl (by kernel_rfl) rfl ?hyx96 (hH2) ?restx96
       case hyx96 => (intro wS hSw; go_simp; try with_reducible rfl)
       try simp only [Act.put, List.setIfInBounds_toArray, List.set_cons_zero, List.set_cons_succ]
       refine det_read 23 (v := ?vx71) rfl (by kernel_rfl) rfl ?hyx71 ?restx71
       case hyx71 => (intro wS hSw; (try dsimp only at hSw); go_simp; try with_reducible rfl)
       try simp only [Act.put, List.setIfInBounds_toArray, List.set_cons_zero, List.set_cons_succ]
       refine det_done (by kernel_rfl) ?_
       rintro W ⟨_, hW⟩
       go_wp2
       go_roundg (ln - (k + 1))
       case measure => omega
       case rel => exact ⟨k + 1, by omega, rfl, by go_num, HB.out.trans (hW.mono hsz), HV2.out⟩
   ·have hkk : k = ln := by omega
    subst hkk
    have OK : Hid (Rf.okL n k L = true) := Rf.okL_of HV.out
    have hZ := hSZ wr HB.out
    obtain ⟨s, hs⟩ : ∃ s, Rf.szF f k L n = s := ⟨_, rfl⟩
    rw [hs] at hZ
    have HS : Hid (Rf.szF f k L n = s) := hs
    clear hs hSZ
    go_wp2_with fail
    refine hZ.mono ?_
    rintro e w' ⟨rfl, hw⟩
    subst w'
    by_cases hA : k < n
    ·by_cases s0 : s < 0
     ·have E : Hid (Rf.mayF n f k L = 1) := Rf.mayF_size HN.out OK.out ⟨hA, .inl (by rw [HS.out]; exact s0)⟩
      go_wp2
      go_ret
      exact ⟨ret_int E.out.symm, HB.out⟩
     ·by_cases s1 : 4096 < s
      ·have E : Hid (Rf.mayF n f k L = 1) := Rf.mayF_size HN.out OK.out ⟨hA, .inr (by rw [HS.out]; exact s1)⟩
       go_wp2
       go_ret
       exact ⟨ret_int E.out.symm, HB.out⟩
      ·by_cases h2 : (2 : Int) < (k : Int)
       ·have E : Hid (Rf.mayF n f k L = 60) := Rf.mayF_more HN.out OK.out (by rw [HS.out]; omega) (by omega)
        go_wp2
        go_ret
        exact ⟨ret_int E.out.symm, HB.out⟩
       ·have E : Hid (Rf.mayF n f k L = 0) := Rf.mayF_ok HN.out OK.out (by rw [HS.out]; omega) (by omega)
        go_wp2
        go_ret
        exact ⟨ret_int E.out.symm, HB.out⟩
    ·by_cases h2 : (2 : Int) < (k : Int)
     ·have E : Hid (Rf.mayF n f k L = 60) := Rf.mayF_more HN.out OK.out (by omega) (by omega)
      have hA' : ¬ (k : Int) < (n : Int) := by omega
      go_wp2
      go_ret
      exact ⟨ret_int E.out.symm, HB.out⟩
     ·omega
end Go.Proofs.YtdgkhjgnjfgnlaaGreat
