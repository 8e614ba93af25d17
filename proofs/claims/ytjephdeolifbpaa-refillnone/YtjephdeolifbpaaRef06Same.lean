/- The walks of the document's own Same and Make. -/
import Derived.Test.YtjephdeolifbpaaRef06May2
import Derived.Test.YtjephdeolifbpaaRef05
import Derived.Test.YtjephdeolifbpaaSynOne
namespace Go.Proofs.Ytjephdeolifbpaa
open Go.RowKit

namespace Rf
def sameT : Nat → (Nat → ByteArray) → (Nat → ByteArray) → Bool
  | 0, _, _ => true
  | n + 1, f, g => sameT n f g && decide (f n = g n)
def sameB (n : Nat) (f : Nat → ByteArray) (m : Nat) (g : Nat → ByteArray) : Bool := decide (n = m) && sameT n f g
theorem sameT_iff {n : Nat} {f g : Nat → ByteArray} : sameT n f g = true ↔ ∀ i, i < n → f i = g i := by
  induction n with
  | zero => exact ⟨fun _ i hi => absurd hi (Nat.not_lt_zero _), fun _ => rfl⟩
  | succ n ih =>
    show (sameT n f g && decide (f n = g n)) = true ↔ _
    rw [Bool.and_eq_true, ih, decide_eq_true_eq]
    constructor
    · rintro ⟨h1, h2⟩ i hi
      by_cases e : i = n
      · subst e; exact h2
      · exact h1 i (by omega)
    · intro h; exact ⟨fun i hi => h i (by omega), h n (by omega)⟩
theorem sameT_no {n i : Nat} {f g : Nat → ByteArray} (hi : i < n) (h : f i ≠ g i) : sameT n f g = false := by
  cases e : sameT n f g with
  | false => rfl
  | true => exact absurd (sameT_iff.1 e i hi) h
theorem sameB_iff {n m : Nat} {f g : Nat → ByteArray} : sameB n f m g = true ↔ n = m ∧ ∀ i, i < n → f i = g i := by
  unfold sameB; rw [Bool.and_eq_true, decide_eq_true_eq, sameT_iff]
theorem sameB_yes {n : Nat} {f g : Nat → ByteArray} (h : ∀ i, i < n → f i = g i) : sameB n f n g = true := sameB_iff.2 ⟨rfl, h⟩
end Rf

theorem texts_apart {a b : ByteArray} (h : ¬ a = b) : (a.toList == b.toList) = false := by
  rw [beq_eq_false_iff_ne, ByteArray.toList_eq, ByteArray.toList_eq]
  intro e
  exact h (by cases a; cases b; simp only [ByteArray.mk.injEq]; exact Array.toList_inj.1 e)

set_option maxRecDepth 100000 in
set_option maxHeartbeats 2000000 in
theorem Same_any (n m : Nat) (f g : Nat → ByteArray) (hn : n ≤ 1000000) (hm : m ≤ 1000000) (a b : Option Addr) (ca cb : Nat) (w : World) (ha : RowS w a n f) (hb : RowS w b m g) :
    Calls Try.prog 15 #[.slice a n ca, .slice b m cb] w fun e w' => e = .returned (.bool (Rf.sameB n f m g)) ∧ Below w.heap.size w w' := by
  by_cases hnm : n = m
  · subst hnm
    have hnn : ((n : Int) != (n : Int)) = false := by simp
    have HS : Hid (Rf.sameB n f n g = Rf.sameT n f g) := by show _ = _; unfold Rf.sameB; simp
    have HMX : Hid (Try.prog.follows .mixedOrders = true) := by show _ = _; kernel_rfl
    go_enter Try.func15, Try.ntmps15
    go_wp2
    go_loopg [5] n (fun gg i wr => ∃ k : Nat, k ≤ n ∧ gg = n - k ∧ i = .int .i64 k ∧ Below w.heap.size w wr ∧ ∀ j, j < k → f j = g j)
    case atStart => exact ⟨0, Nat.zero_le _, rfl, rfl, Below.refl _ _, fun j hj => absurd hj (Nat.not_lt_zero _)⟩
    case round =>
      obtain ⟨k, hk, rfl, rfl, hb', hv⟩ := hrel
      have HV : Hid (∀ j, j < k → f j = g j) := hv
      have HB : Hid (Below w.heap.size w wr) := hb'
      have hsz := hb'.size
      clear hv hb'
      by_cases hkn : k < n
      · obtain ⟨b0, o0, rfl, hc0⟩ := ha k hkn
        obtain ⟨b1, o1, rfl, hc1⟩ := hb k hkn
        have hc0 := (HB.out.cell (p := ⟨b0, o0 + k, none⟩) (World.block_lt_of_cell? w _ hc0)).trans hc0
        have hc1 := (HB.out.cell (p := ⟨b1, o1 + k, none⟩) (World.block_lt_of_cell? w _ hc1)).trans hc1
        obtain ⟨x, hx⟩ : ∃ x, f k = x := ⟨_, rfl⟩
        obtain ⟨y, hy⟩ : ∃ y, g k = y := ⟨_, rfl⟩
        have HX : Hid (f k = x) := hx
        have HY : Hid (g k = y) := hy
        rw [hx] at hc0
        rw [hy] at hc1
        clear hx hy
        have hS0 : wr.cell? ⟨b0, o0 + k, none⟩ = some (.string x) ∧ wr.cell? ⟨b1, o1 + k, none⟩ = some (.string y) ∧ Below wr.heap.size wr wr.drew := ⟨hc0, hc1, (Below.refl _ _).drew⟩
        by_cases hxy : x = y
        · subst hxy
          have HV2 : Hid (∀ j, j < k + 1 → f j = g j) := fun j hj => by
            by_cases e : j = k
            · subst e; rw [HX.out, HY.out]
            · exact HV.out j (by omega)
          go_wp2_with fail
          refine region_det (fun W => W.cell? ⟨b0, o0 + k, none⟩ = some (.string x) ∧ W.cell? ⟨b1, o1 + k, none⟩ = some (.string x) ∧ Below wr.heap.size wr W) HMX.out (by kernel_rfl) hS0 ?_
          refine det_read 0 (v := ?vx1) rfl (by kernel_rfl) rfl ?hyx1 ?restx1
          case hyx1 => (intro wS hSw; (try dsimp only at hSw); go_simp; try with_reducible rfl)
          try simp only [Act.put, List.setIfInBounds_toArray, List.set_cons_zero, List.set_cons_succ]
          refine det_read 1 (v := ?vx2) rfl (by kernel_rfl) rfl ?hyx2 ?restx2
          case hyx2 => (intro wS hSw; (try dsimp only at hSw); go_simp; try with_reducible rfl)
          try simp only [Act.put, List.setIfInBounds_toArray, List.set_cons_zero, List.set_cons_succ]
          refine det_read 2 (v := ?vx3) rfl (by kernel_rfl) rfl ?hyx3 ?restx3
          case hyx3 => (intro wS hSw; (try dsimp only at hSw); go_simp; try with_reducible rfl)
          try simp only [Act.put, List.setIfInBounds_toArray, List.set_cons_zero, List.set_cons_succ]
          refine det_read 3 (v := ?vx4) rfl (by kernel_rfl) rfl ?hyx4 ?restx4
          case hyx4 => (intro wS hSw; (try dsimp only at hSw); go_simp; try with_reducible rfl)
          try simp only [Act.put, List.setIfInBounds_toArray, List.set_cons_zero, List.set_cons_succ]
          refine det_read 4 (v := ?vx5) rfl (by kernel_rfl) rfl ?hyx5 ?restx5
          case hyx5 => (intro wS hSw; (try dsimp only at hSw); go_simp; try with_reducible rfl)
          try simp only [Act.put, List.setIfInBounds_toArray, List.set_cons_zero, List.set_cons_succ]
          refine det_read 5 (v := ?vx6) rfl (by kernel_rfl) rfl ?hyx6 ?restx6
          case hyx6 => (intro wS hSw; (try dsimp only at hSw); go_simp; try with_reducible rfl)
          try simp only [Act.put, List.setIfInBounds_toArray, List.set_cons_zero, List.set_cons_succ]
          refine det_read 6 (v := ?vx7) rfl (by kernel_rfl) rfl ?hyx7 ?restx7
          case hyx7 => (intro wS hSw; (try dsimp only at hSw); go_simp; try with_reducible rfl)
          try simp only [Act.put, List.setIfInBounds_toArray, List.set_cons_zero, List.set_cons_succ]
          refine det_read 7 (v := ?vx8) rfl (by kernel_rfl) rfl ?hyx8 ?restx8
          case hyx8 => (intro wS hSw; (try dsimp only at hSw); go_simp; try with_reducible rfl)
          try simp only [Act.put, List.setIfInBounds_toArray, List.set_cons_zero, List.set_cons_succ]
          refine det_read 8 (v := ?vx9) rfl (by kernel_rfl) rfl ?hyx9 ?restx9
          case hyx9 => (intro wS hSw; (try dsimp only at hSw); go_simp; try with_reducible rfl)
          try simp only [Act.put, List.setIfInBounds_toArray, List.set_cons_zero, List.set_cons_succ]
          refine det_done (by kernel_rfl) ?_
          rintro W ⟨_, _, hW⟩
          go_wp2
          go_roundg (n - (k + 1))
          case measure => omega
          case rel => exact ⟨k + 1, by omega, rfl, by go_num, HB.out.trans (hW.mono hsz), HV2.out⟩
        · have hap := texts_apart hxy
          have E : Hid (Rf.sameB n f n g = false) := by
            show _ = _; rw [HS.out]; exact Rf.sameT_no hkn (by rw [HX.out, HY.out]; exact hxy)
          have hne : (x.toList != y.toList) = true := by unfold bne; rw [hap]; rfl
          clear hxy
          go_wp2_with fail
          refine region_det (fun W => W.cell? ⟨b0, o0 + k, none⟩ = some (.string x) ∧ W.cell? ⟨b1, o1 + k, none⟩ = some (.string y) ∧ Below wr.heap.size wr W) HMX.out (by kernel_rfl) hS0 ?_
          refine det_read 0 (v := ?vx10) rfl (by kernel_rfl) rfl ?hyx10 ?restx10
          case hyx10 => (intro wS hSw; (try dsimp only at hSw); go_simp; try with_reducible rfl)
          try simp only [Act.put, List.setIfInBounds_toArray, List.set_cons_zero, List.set_cons_succ]
          refine det_read 1 (v := ?vx11) rfl (by kernel_rfl) rfl ?hyx11 ?restx11
          case hyx11 => (intro wS hSw; (try dsimp only at hSw); go_simp; try with_reducible rfl)
          try simp only [Act.put, List.setIfInBounds_toArray, List.set_cons_zero, List.set_cons_succ]
          refine det_read 2 (v := ?vx12) rfl (by kernel_rfl) rfl ?hyx12 ?restx12
          case hyx12 => (intro wS hSw; (try dsimp only at hSw); go_simp; try with_reducible rfl)
          try simp only [Act.put, List.setIfInBounds_toArray, List.set_cons_zero, List.set_cons_succ]
          refine det_read 3 (v := ?vx13) rfl (by kernel_rfl) rfl ?hyx13 ?restx13
          case hyx13 => (intro wS hSw; (try dsimp only at hSw); go_simp; try with_reducible rfl)
          try simp only [Act.put, List.setIfInBounds_toArray, List.set_cons_zero, List.set_cons_succ]
          refine det_read 4 (v := ?vx14) rfl (by kernel_rfl) rfl ?hyx14 ?restx14
          case hyx14 => (intro wS hSw; (try dsimp only at hSw); go_simp; try with_reducible rfl)
          try simp only [Act.put, List.setIfInBounds_toArray, List.set_cons_zero, List.set_cons_succ]
          refine det_read 5 (v := ?vx15) rfl (by kernel_rfl) rfl ?hyx15 ?restx15
          case hyx15 => (intro wS hSw; (try dsimp only at hSw); go_simp; try with_reducible rfl)
          try simp only [Act.put, List.setIfInBounds_toArray, List.set_cons_zero, List.set_cons_succ]
          refine det_read 6 (v := ?vx16) rfl (by kernel_rfl) rfl ?hyx16 ?restx16
          case hyx16 => (intro wS hSw; (try dsimp only at hSw); go_simp; try with_reducible rfl)
          try simp only [Act.put, List.setIfInBounds_toArray, List.set_cons_zero, List.set_cons_succ]
          refine det_read 7 (v := ?vx17) rfl (by kernel_rfl) rfl ?hyx17 ?restx17
          case hyx17 => (intro wS hSw; (try dsimp only at hSw); go_simp; try with_reducible rfl)
          try simp only [Act.put, List.setIfInBounds_toArray, List.set_cons_zero, List.set_cons_succ]
          refine det_read 8 (v := ?vx18) rfl (by kernel_rfl) rfl ?hyx18 ?restx18
          case hyx18 => (intro wS hSw; (try dsimp only at hSw); go_simp; try with_reducible rfl)
          try simp only [Act.put, List.setIfInBounds_toArray, List.set_cons_zero, List.set_cons_succ]
          refine det_done (by kernel_rfl) ?_
          rintro W ⟨_, _, hW⟩
          go_wp2
          go_ret
          exact ⟨ret_bool E.out.symm, HB.out.trans (hW.mono hsz)⟩
      · have hkk : k = n := by omega
        subst hkk
        have E : Hid (Rf.sameB k f k g = true) := Rf.sameB_yes HV.out
        go_wp2
        go_ret
        exact ⟨ret_bool E.out.symm, HB.out⟩
  · have hne : ((n : Int) != (m : Int)) = true := by rw [bne_iff_ne]; omega
    have E : Hid (Rf.sameB n f m g = false) := by show _ = _; unfold Rf.sameB; rw [decide_eq_false hnm]; rfl
    clear hnm
    go_enter Try.func15, Try.ntmps15
    go_wp2
    go_ret
    exact ⟨ret_bool E.out.symm, Below.refl _ _⟩

set_option maxRecDepth 100000 in
set_option maxHeartbeats 4000000 in
theorem refMake_any (n : Nat) (f : Nat → ByteArray) (hn : n ≤ 1000) (hf : Fits 1048576 n f) (a : Option Addr) (cap : Nat) (w : World) (hr : RowS w a n f) :
    Calls Try.prog 14 #[.slice a n cap] w fun e w' =>
      (Rf.mayF (n + 2) (ownRow n f) 0 (fun _ => 0) ≠ 0 ∧ e = .returned (.tuple #[.slice none 0 0, .int .i64 (Rf.mayF (n + 2) (ownRow n f) 0 (fun _ => 0))]) ∨
       Rf.mayF (n + 2) (ownRow n f) 0 (fun _ => 0) = 0 ∧ ∃ b c, e = .returned (.tuple #[.slice b (n + 2) c, .int .i64 0]) ∧ RowS w' b (n + 2) (ownRow n f) ∧ n + 2 ≤ c ∧ (∀ x, b = some x → w.heap.size ≤ x.block)) ∧ Below w.heap.size w w' := by
  have R0 : Hid (RowS w a n f) := hr
  have F0 : Hid (Fits 1048576 n f) := hf
  have OWN1 : Hid ((w.alloc (.cells #[] 9)).ownsRow w.heap.size 9 1 (.slice (some ⟨w.heap.size, 0, none⟩) 0 0) 0 (textVals 0 f)) := World.ownsRow_made w #[] 0 (Nat.le_refl _) (by decide) rfl
  have R1 : Hid (RowS (w.alloc (.cells #[] 9)) a n f) := hr.below ((Below.refl _ w).alloc (Nat.le_refl _) _)
  have e0 : 0 + n = n := by omega
  have t1 : True := trivial
  have N20 : n ≤ 1048576 := by omega
  have FIT : Hid (Fits 1048576 (n + 2) (ownRow n f)) := F0.out.own
  have OWNF : Hid (joinF n f (two (Gfm.addF n f) (Gfm.addF n (Gfm.qT f))) = ownRow n f) := rfl
  obtain ⟨N, hN2⟩ : ∃ N, n + 2 = N := ⟨_, rfl⟩
  obtain ⟨F, hF⟩ : ∃ F, ownRow n f = F := ⟨_, rfl⟩
  rw [hF] at FIT OWNF
  rw [hF, hN2]
  rw [hN2] at FIT
  have HN2 : Hid (n + 2 = N) := hN2
  obtain ⟨x, hx⟩ : ∃ x, Rf.mayF N F 0 (fun _ => 0) = x := ⟨_, rfl⟩
  rw [hx]
  clear hr hf hF
  go_enter Try.func14, Try.ntmps14
  go_wp2_with (at_builtin; have _t := t1; refine wpList_append_texts _ rfl _ _ rfl w.heap.size w.heap.size 0 0 f rfl OWN1.out a n cap f rfl R1.out (by omega) (by simp) ?_; intro g1 c1 w2 own2 grow2 lies2; rw [e0] at own2; (have OWN2 : Hid (w2.ownsRow w.heap.size 9 1 (.slice (some ⟨g1, 0, none⟩) n c1) n (textVals n (joinF 0 f f))) := own2); (have B2 : Hid (Below w.heap.size w w2) := below_joined ((Below.refl _ w).alloc (Nat.le_refl _) _) (by simp) OWN1.out grow2); clear own2 grow2 lies2 t1)
  have hb2 := B2.out
  have R2 := R0.out.below hb2
  refine (refP_any n f N20 F0.out a cap _ R2).mono ?_
  rintro e w3 ⟨rfl, b3⟩
  have R3 := R2.below b3
  go_wp2_with fail
  refine (refQ_any n f N20 F0.out a cap _ R3).mono ?_
  rintro e w4 ⟨rfl, b4⟩
  have b4 := below2 b3 b4
  have hF : textVals n (joinF 0 f f) = textVals n f := textVals_congr fun j _ => by unfold joinF; rw [if_neg (by omega), Nat.sub_zero]
  have OWN4 : Hid (w4.ownsRow w.heap.size 9 1 (.slice (some ⟨g1, 0, none⟩) n c1) n (textVals n f)) := by
    show World.ownsRow _ _ _ _ _ _ _; rw [← hF]; exact ownsRow_below OWN2.out b4
  have B4 : Hid (Below w.heap.size w w4) := hb2.trans (b4.mono hb2.size)
  have hsz4 := B4.out.size
  have ONE : Hid (RowS (w4.alloc (.cells #[.string (Gfm.addF n f), .string (Gfm.addF n (Gfm.qT f))] 9)) (some ⟨w4.heap.size, 0, none⟩) 2 (two (Gfm.addF n f) (Gfm.addF n (Gfm.qT f)))) := RowS.two _ _ _ _
  have t2 : True := trivial
  clear R2 R3 b3 b4 hb2 hF
  obtain ⟨P0, hP0⟩ : ∃ y, Gfm.addF n f = y := ⟨_, rfl⟩
  obtain ⟨Q0, hQ0⟩ : ∃ y, Gfm.addF n (Gfm.qT f) = y := ⟨_, rfl⟩
  rw [hP0] at ONE OWNF
  rw [hQ0] at ONE OWNF
  rw [hP0, hQ0]
  clear hP0 hQ0
  go_wp2_with (at_builtin; have _t := t2; refine wpList_append_texts _ rfl _ _ rfl w.heap.size g1 n c1 f rfl (OWN4.out.alloc _) (some ⟨w4.heap.size, 0, none⟩) 2 2 (two P0 Q0) rfl ONE.out (by omega) (by simp; omega) ?_; intro g2 c2 w5 own5 grow5 lies5; rw [OWNF.out, hN2] at own5; (have OWN5 : Hid (w5.ownsRow w.heap.size 9 1 (.slice (some ⟨g2, 0, none⟩) N c2) N (textVals N F)) := own5); (have B5 : Hid (Below w.heap.size w w5) := below_joined (B4.out.alloc hsz4 _) (by simp; omega) (OWN4.out.alloc _) grow5); clear own5 grow5 lies5 t2)
  obtain ⟨ar, cr, er, r5, hc5, _⟩ := RowS.of_owns OWN5.out
  cases er
  have hMay := May_any N F (by omega) FIT.out (some ⟨g2, 0, none⟩) c2 0 (fun _ => 0) (by omega) none 0 (Nat.le_refl _) w5 r5 (RowI.nil _ _ _ _)
  rw [hx] at hMay
  have R5 : Hid (RowS w5 (some ⟨g2, 0, none⟩) N F) := r5
  have C5 : Hid (N ≤ c2) := hc5
  have LOW : Hid (w.heap.size ≤ g2) := owns_low OWN5.out
  clear hx r5 hc5
  refine hMay.mono ?_
  rintro e w6 ⟨rfl, b6⟩
  have B6 : Hid (Below w.heap.size w w6) := B5.out.trans (b6.mono B5.out.size)
  have R6 : Hid (RowS w6 (some ⟨g2, 0, none⟩) N F) := R5.out.below b6
  clear b6 hMay
  by_cases h0 : x = 0
  · subst h0
    go_wp2
    go_ret2
    exact ⟨⟨_, _, rfl, R6.out, C5.out, fun y hy => by cases hy; exact LOW.out⟩, B6.out⟩
  · have h0' : (x != 0) = true := by rw [bne_iff_ne]; exact h0
    have H0 : Hid (x ≠ 0) := h0
    clear h0
    go_wp2
    go_ret2
    exact ⟨.inl ⟨H0.out, rfl⟩, B6.out⟩
end Go.Proofs.Ytjephdeolifbpaa
