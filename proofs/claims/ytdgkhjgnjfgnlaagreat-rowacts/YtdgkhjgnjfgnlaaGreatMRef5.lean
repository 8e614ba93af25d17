import Derived.Test.YtdgkhjgnjfgnlaaGreatMSynB
import Derived.Test.YtdgkhjgnjfgnlaaGreatMRef1
import Derived.Deep.RegionHeld3
import Derived.Test.YtdgkhjgnjfgnlaaGreatMRef6A
namespace Go.Proofs.YtdgkhjgnjfgnlaaGreat
open Go.RowKit
end Go.Proofs.YtdgkhjgnjfgnlaaGreat
namespace Go.Proofs.YtdgkhjgnjfgnlaaGreat
open Go.RowKit
namespace Rf
def sameT : Nat → (Nat → ByteArray) → (Nat → ByteArray) → Bool
 | 0, _, _ => true
 | n + 1, f, g => sameT n f g && decide (f n = g n)
def sameB (n : Nat) (f : Nat → ByteArray) (m : Nat) (g : Nat → ByteArray) : Bool := decide (n = m) && sameT n f g
theorem sameT_iff {n : Nat} {f g : Nat → ByteArray} : sameT n f g = true ↔ ∀ i, i < n → f i = g i := by
 induction n with
 | zero => exact ⟨fun _ i hi => absurd hi (Nat.not_lt_zero _), fun _ => rfl⟩
 | succ n ih =>
  show (sameT n f g && decide (f n = g n)) = true ↔ _
  rw [Bool.and_eq_true, ih, decide_eq_true_eq]
  constructor
  ·rintro ⟨h1, h2⟩ i hi
   by_cases e : i = n
   ·subst e; exact h2
   ·exact h1 i (by omega)
  ·intro h; exact ⟨fun i hi => h i (by omega), h n (by omega)⟩
theorem sameT_no {n i : Nat} {f g : Nat → ByteArray} (hi : i < n) (h : f i ≠ g i) : sameT n f g = false := by
 cases e : sameT n f g with
 | false => rfl
 | true => exact absurd (sameT_iff.1 e i hi) h
theorem sameB_iff {n m : Nat} {f g : Nat → ByteArray} : sameB n f m g = true ↔ n = m ∧ ∀ i, i < n → f i = g i := by
 unfold sameB; rw [Bool.and_eq_true, decide_eq_true_eq, sameT_iff]
theorem sameB_yes {n : Nat} {f g : Nat → ByteArray} (h : ∀ i, i < n → f i = g i) : sameB n f n g = true := sameB_iff.2 ⟨rfl, h⟩
end Rf
theorem texts_apart {a b : ByteArray} (h : ¬ a = b) : (a.toList == b.toList) = false := by
 rw [beq_eq_false_iff_ne, ByteArray.toList_eq, ByteArray.toList_eq]
 intro e
 exact h (by cases a; cases b; simp only [ByteArray.mk.injEq]; exact Array.toList_inj.1 e)
set_option maxRecDepth 100000 in
set_option maxHeartbeats 2000000 in
theorem Same_any (n m : Nat) (f g : Nat → ByteArray) (hn : n ≤ 1000000) (hm : m ≤ 1000000) (a b : Option Addr) (ca cb : Nat) (w : World) (ha : RowS w a n f) (hb : RowS w b m g) :
  Calls Tryz.prog 20 #[.slice a n ca, .slice b m cb] w fun e w' => e = .returned (.bool (Rf.sameB n f m g)) ∧ Below w.heap.size w w' := by
 by_cases hnm : n = m
 ·subst hnm
  have hnn : ((n : Int) != (n : Int)) = false := by simp
  have HS : Hid (Rf.sameB n f n g = Rf.sameT n f g) := by show _ = _; unfold Rf.sameB; simp
  have HMX : Hid (Tryz.prog.follows .mixedOrders = true) := by show _ = _; kernel_rfl
  go_enter Tryz.func20, Tryz.ntmps20
  go_wp2
  go_loopg [5] n (fun gg i wr => ∃ k : Nat, k ≤ n ∧ gg = n - k ∧ i = .int .i64 k ∧ Below w.heap.size w wr ∧ ∀ j, j < k → f j = g j)
  case atStart => exact ⟨0, Nat.zero_le _, rfl, rfl, Below.refl _ _, fun j hj => absurd hj (Nat.not_lt_zero _)⟩
  case round =>
   obtain ⟨k, hk, rfl, rfl, hb', hv⟩ := hrel
   have HV : Hid (∀ j, j < k → f j = g j) := hv
   have HB : Hid (Below w.heap.size w wr) := hb'
   have hsz := hb'.size
   clear hv hb'
   by_cases hkn : k < n
   ·obtain ⟨b0, o0, rfl, hc0⟩ := ha k hkn
    obtain ⟨b1, o1, rfl, hc1⟩ := hb k hkn
    have hc0 := (HB.out.cell (p := ⟨b0, o0 + k, none⟩) (World.block_lt_of_cell? w _ hc0)).trans hc0
    have hc1 := (HB.out.cell (p := ⟨b1, o1 + k, none⟩) (World.block_lt_of_cell? w _ hc1)).trans hc1
    obtain ⟨x, hx⟩ : ∃ x, f k = x := ⟨_, rfl⟩
    obtain ⟨y, hy⟩ : ∃ y, g k = y := ⟨_, rfl⟩
    have HX : Hid (f k = x) := hx
    have HY : Hid (g k = y) := hy
    rw [hx] at hc0
    rw [hy] at hc1
    clear hx hy
    have hS0 : wr.cell? ⟨b0, o0 + k, none⟩ = some (.string x) ∧ wr.cell? ⟨b1, o1 + k, none⟩ = some (.string y) ∧ Below wr.heap.size wr wr.drew := ⟨hc0, hc1, (Below.refl _ _).drew⟩
    by_cases hxy : x = y
    ·subst hxy
     have HV2 : Hid (∀ j, j < k + 1 → f j = g j) := fun j hj => by
      by_cases e : j = k
      ·subst e; rw [HX.out, HY.out]
      ·exact HV.out j (by omega)
     go_wp2_with fail
     refine region_det (fun W => W.cell? ⟨b0, o0 + k, none⟩ = some (.string x) ∧ W.cell? ⟨b1, o1 + k, none⟩ = some (.string x) ∧ Below wr.heap.size wr W) HMX.out (by kernel_rfl) hS0 ?_
     refine det_read 0 (v := ?vx1) rfl (by kernel_rfl) rfl ?hyx1 ?restx1
     case hyx1 => (intro wS hSw; (try dsimp only at hSw); go_simp; try with_reducible rfl)
     try simp only [Act.put, List.setIfInBounds_toArray, List.set_cons_zero, List.set_cons_succ]
     refine det_read 1 (v := ?vx2) rfl (by kernel_rfl) rfl ?hyx2 ?restx2
     case hyx2 => (intro wS hSw; (try dsimp only at hSw); go_simp; try with_reducible rfl)
     try simp only [Act.put, List.setIfInBounds_toArray, List.set_cons_zero, List.set_cons_succ]
     refine det_read 2 (v := ?vx3) rfl (by kernel_rfl) rfl ?hyx3 ?restx3
     case hyx3 => (intro wS hSw; (try dsimp only at hSw); go_simp; try with_reducible rfl)
     try simp only [Act.put, List.setIfInBounds_toArray, List.set_cons_zero, List.set_cons_succ]
     refine det_read 3 (v := ?vx4) rfl (by kernel_rfl) rfl ?hyx4 ?restx4
     case hyx4 => (intro wS hSw; (try dsimp only at hSw); go_simp; try with_reducible rfl)
     try simp only [Act.put, List.setIfInBounds_toArray, List.set_cons_zero, List.set_cons_succ]
     refine det_read 4 (v := ?vx5) rfl (by kernel_rfl) rfl ?hyx5 ?restx5
     case hyx5 => (intro wS hSw; (try dsimp only at hSw); go_simp; try with_reducible rfl)
     try simp only [Act.put, List.setIfInBounds_toArray, List.set_cons_zero, List.set_cons_succ]
     refine det_read 5 (v := ?vx6) rfl (by kernel_rfl) rfl ?hyx6 ?restx6
     case hyx6 => (intro wS hSw; (try dsimp only at hSw); go_simp; try with_reducible rfl)
     try simp only [Act.put, List.setIfInBounds_toArray, List.set_cons_zero, List.set_cons_succ]
     refine det_read 6 (v := ?vx7) rfl (by kernel_rfl) rfl ?hyx7 ?restx7
     case hyx7 => (intro wS hSw; (try dsimp only at hSw); go_simp; try with_reducible rfl)
     try simp only [Act.put, List.setIfInBounds_toArray, List.set_cons_zero, List.set_cons_succ]
     refine det_read 7 (v := ?vx8) rfl (by kernel_rfl) rfl ?hyx8 ?restx8
     case hyx8 => (intro wS hSw; (try dsimp only at hSw); go_simp; try with_reducible rfl)
     try simp only [Act.put, List.setIfInBounds_toArray, List.set_cons_zero, List.set_cons_succ]
     refine det_read 8 (v := ?vx9) rfl (by kernel_rfl) rfl ?hyx9 ?restx9
     case hyx9 => (intro wS hSw; (try dsimp only at hSw); go_simp; try with_reducible rfl)
     try simp only [Act.put, List.setIfInBounds_toArray, List.set_cons_zero, List.set_cons_succ]
     refine det_done (by kernel_rfl) ?_
     rintro W ⟨_, _, hW⟩
     go_wp2
     go_roundg (n - (k + 1))
     case measure => omega
     case rel => exact ⟨k + 1, by omega, rfl, by go_num, HB.out.trans (hW.mono hsz), HV2.out⟩
    ·have hap := texts_apart hxy
     have E : Hid (Rf.sameB n f n g = false) := by
      show _ = _; rw [HS.out]; exact Rf.sameT_no hkn (by rw [HX.out, HY.out]; exact hxy)
     have hne : (x.toList != y.toList) = true := by unfold bne; rw [hap]; rfl
     clear hxy
     go_wp2_with fail
     refine region_det (fun W => W.cell? ⟨b0, o0 + k, none⟩ = some (.string x) ∧ W.cell? ⟨b1, o1 + k, none⟩ = some (.string y) ∧ Below wr.heap.size wr W) HMX.out (by kernel_rfl) hS0 ?_
     refine det_read 0 (v := ?vx10) rfl (by kernel_rfl) rfl ?hyx10 ?restx10
     case hyx10 => (intro wS hSw; (try dsimp only at hSw); go_simp; try with_reducible rfl)
     try simp only [Act.put, List.setIfInBounds_toArray, List.set_cons_zero, List.set_cons_succ]
     refine det_read 1 (v := ?vx11) rfl (by kernel_rfl) rfl ?hyx11 ?restx11
     case hyx11 => (intro wS hSw; (try dsimp only at hSw); go_simp; try with_reducible rfl)
     try simp only [Act.put, List.setIfInBounds_toArray, List.set_cons_zero, List.set_cons_succ]
     refine det_read 2 (v := ?vx12) rfl (by kernel_rfl) rfl ?hyx12 ?restx12
     case hyx12 => (intro wS hSw; (try dsimp only at hSw); go_simp; try with_reducible rfl)
     try simp only [Act.put, List.setIfInBounds_toArray, List.set_cons_zero, List.set_cons_succ]
     refine det_read 3 (v := ?vx13) rfl (by kernel_rfl) rfl ?hyx13 ?restx13
     case hyx13 => (intro wS hSw; (try dsimp only at hSw); go_simp; try with_reducible rfl)
     try simp only [Act.put, List.setIfInBounds_toArray, List.set_cons_zero, List.set_cons_succ]
     refine det_read 4 (v := ?vx14) rfl (by kernel_rfl) rfl ?hyx14 ?restx14
     case hyx14 => (intro wS hSw; (try dsimp only at hSw); go_simp; try with_reducible rfl)
     try simp only [Act.put, List.setIfInBounds_toArray, List.set_cons_zero, List.set_cons_succ]
     refine det_read 5 (v := ?vx15) rfl (by kernel_rfl) rfl ?hyx15 ?restx15
     case hyx15 => (intro wS hSw; (try dsimp only at hSw); go_simp; try with_reducible rfl)
     try simp only [Act.put, List.setIfInBounds_toArray, List.set_cons_zero, List.set_cons_succ]
     refine det_read 6 (v := ?vx16) rfl (by kernel_rfl) rfl ?hyx16 ?restx16
     case hyx16 => (intro wS hSw; (try dsimp only at hSw); go_simp; try with_reducible rfl)
     try simp only [Act.put, List.setIfInBounds_toArray, List.set_cons_zero, List.set_cons_succ]
     refine det_read 7 (v := ?vx17) rfl (by kernel_rfl) rfl ?hyx17 ?restx17
     case hyx17 => (intro wS hSw; (try dsimp only at hSw); go_simp; try with_reducible rfl)
     try simp only [Act.put, List.setIfInBounds_toArray, List.set_cons_zero, List.set_cons_succ]
     refine det_read 8 (v := ?vx18) rfl (by kernel_rfl) rfl ?hyx18 ?restx18
     case hyx18 => (intro wS hSw; (try dsimp only at hSw); go_simp; try with_reducible rfl)
     try simp only [Act.put, List.setIfInBounds_toArray, List.set_cons_zero, List.set_cons_succ]
     refine det_done (by kernel_rfl) ?_
     rintro W ⟨_, _, hW⟩
     go_wp2
     go_ret
     exact ⟨ret_bool E.out.symm, HB.out.trans (hW.mono hsz)⟩
   ·have hkk : k = n := by omega
    subst hkk
    have E : Hid (Rf.sameB k f k g = true) := Rf.sameB_yes HV.out
    go_wp2
    go_ret
    exact ⟨ret_bool E.out.symm, HB.out⟩
 ·have hne : ((n : Int) != (m : Int)) = true := by rw [bne_iff_ne]; omega
  have E : Hid (Rf.sameB n f m g = false) := by show _ = _; unfold Rf.sameB; rw [decide_eq_false hnm]; rfl
  clear hnm
  go_enter Tryz.func20, Tryz.ntmps20
  go_wp2
  go_ret
  exact ⟨ret_bool E.out.symm, Below.refl _ _⟩
end Go.Proofs.YtdgkhjgnjfgnlaaGreat
