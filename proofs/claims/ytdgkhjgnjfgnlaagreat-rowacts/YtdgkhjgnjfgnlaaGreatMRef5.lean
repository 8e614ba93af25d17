/- Several texts in one. The walks of the document's own answers for syndrome. The walks of the document's own Same and Make. -/
import Derived.Test.YtdgkhjgnjfgnlaaGreatMSynB
import Derived.Test.YtdgkhjgnjfgnlaaGreatMRef1
import Derived.Deep.RegionHeld3
import Derived.Test.YtdgkhjgnjfgnlaaGreatMRef6A
namespace Go.Proofs.YtdgkhjgnjfgnlaaGreat
open Go.RowKit

/-- what two cells hold stays, and what lies below, when a call has written new memory alone -/
theorem keep_two {w W W' : World} {p q : Addr} {u v : Value} (hb : Below W.heap.size W W') (h : W.cell? p = some u ∧ W.cell? q = some v ∧ Below w.heap.size w W) :
    W'.cell? p = some u ∧ W'.cell? q = some v ∧ Below w.heap.size w W' :=
  ⟨(hb.cell (p := p) (World.block_lt_of_cell? W _ h.1)).trans h.1, (hb.cell (p := q) (World.block_lt_of_cell? W _ h.2.1)).trans h.2.1, below2 h.2.2 hb⟩
theorem keep_one {W W' : World} {p : Addr} {u : Value} (hb : Below W.heap.size W W') (h : W.cell? p = some u) : W'.cell? p = some u :=
  (hb.cell (p := p) (World.block_lt_of_cell? W _ h)).trans h

set_option maxRecDepth 100000 in
set_option maxHeartbeats 1000000 in
theorem refP_some (n : Nat) (f : Nat → ByteArray) (hn : n ≤ 1048576) (hf : Fits 1048576 n f) (b o cap : Nat) (w : World) (hr : RowS w (some ⟨b, o, none⟩) n f) :
    Calls Tryz.prog 25 #[.slice (some ⟨b, o, none⟩) n cap] w fun e w' => e = .returned (.string (Gfm.addF n f)) ∧ Below w.heap.size w w' := by
  go_enter Tryz.func25, Tryz.ntmps25
  go_wp2
  go_loopw [3, 4] (fun s i wr => ∃ k : Nat, k ≤ n ∧ i = .int .i64 k ∧ s = .string (Gfm.addF k f) ∧ Below w.heap.size w wr) (fun _ i _ => n - (intOf i).toNat)
  case atStart => exact ⟨0, by omega, rfl, rfl, Below.refl _ _⟩
  case round =>
    obtain ⟨k, hk, rfl, rfl, hb⟩ := hrel
    by_cases hkn : k < n
    · have hc := hr.at hkn
      have hc := (hb.cell (p := ⟨b, o + k, none⟩) (World.block_lt_of_cell? w _ hc)).trans hc
      have h1 := hf k hkn
      have h2 := (hf.mono hk).add
      have Hs : Hid (Gfm.addF (k + 1) f = Gfm.xorB (Gfm.addF k f) (f k)) := rfl
      obtain ⟨x, hx⟩ : ∃ x, f k = x := ⟨_, rfl⟩
      obtain ⟨y, hy⟩ : ∃ y, Gfm.addF k f = y := ⟨_, rfl⟩
      rw [hx] at hc h1 Hs
      rw [hy] at h2 Hs
      rw [hy]
      clear hx hy
      go_wp2_with fail
      refine (refXor_any y x h2 h1 _).mono ?_
      rintro e w' ⟨rfl, hb'⟩
      have HB : Hid (Below w.heap.size w w') := hb.trans (hb'.mono hb.size)
      clear hb' hb hc
      go_wp2
      go_roundw
      case rel => exact ⟨k + 1, by omega, by go_num, by rw [Hs.out], HB.out⟩
      case measure => simp [intOf]; omega
    · have hkk : k = n := by omega
      subst hkk
      go_wp2
      go_ret
      exact ⟨rfl, hb⟩
set_option maxRecDepth 100000 in
set_option maxHeartbeats 1000000 in
theorem refP_none (f : Nat → ByteArray) (a : Option Addr) (cap : Nat) (w : World) :
    Calls Tryz.prog 25 #[.slice a 0 cap] w fun e w' => e = .returned (.string (Gfm.addF 0 f)) ∧ Below w.heap.size w w' := by
  go_enter Tryz.func25, Tryz.ntmps25
  go_wp2
  go_loopw [3, 4] (fun s i wr => i = .int .i64 0 ∧ s = .string (Gfm.addF 0 f) ∧ Below w.heap.size w wr) (fun _ i _ => 0 - (intOf i).toNat)
  case atStart => exact ⟨rfl, rfl, Below.refl _ _⟩
  case round =>
    obtain ⟨rfl, rfl, hb⟩ := hrel
    go_wp2
    go_ret
    exact ⟨rfl, hb⟩
theorem refP_any (n : Nat) (f : Nat → ByteArray) (hn : n ≤ 1048576) (hf : Fits 1048576 n f) (a : Option Addr) (cap : Nat) (w : World) (hr : RowS w a n f) :
    Calls Tryz.prog 25 #[.slice a n cap] w fun e w' => e = .returned (.string (Gfm.addF n f)) ∧ Below w.heap.size w w' := by
  rcases hr.place with rfl | ⟨b, o, rfl⟩
  · exact refP_none f a cap w
  · exact refP_some n f hn hf b o cap w hr

set_option maxRecDepth 100000 in
set_option maxHeartbeats 2000000 in
theorem refQ_some (n : Nat) (f : Nat → ByteArray) (hn : n ≤ 1048576) (hf : Fits 1048576 n f) (b o cap : Nat) (w : World) (hr : RowS w (some ⟨b, o, none⟩) n f) :
    Calls Tryz.prog 26 #[.slice (some ⟨b, o, none⟩) n cap] w fun e w' => e = .returned (.string (Gfm.addF n (Gfm.qT f))) ∧ Below w.heap.size w w' := by
  go_enter Tryz.func26, Tryz.ntmps26
  go_wp2
  go_loopw [3, 4] (fun s i wr => ∃ k : Nat, k ≤ n ∧ i = .int .i64 k ∧ s = .string (Gfm.addF k (Gfm.qT f)) ∧ Below w.heap.size w wr) (fun _ i _ => n - (intOf i).toNat)
  case atStart => exact ⟨0, by omega, rfl, rfl, Below.refl _ _⟩
  case round =>
    obtain ⟨k, hk, rfl, rfl, hb⟩ := hrel
    by_cases hkn : k < n
    · have hc := hr.at hkn
      have hc := (hb.cell (p := ⟨b, o + k, none⟩) (World.block_lt_of_cell? w _ hc)).trans hc
      have h1 := hf k hkn
      have h2 := (hf.mono hk).qT.add
      have hpE : Gfm.powI 2 (k : Int) < 256 := Gfm.powI_lt _ _
      have Hs : Hid (Gfm.addF (k + 1) (Gfm.qT f) = Gfm.xorB (Gfm.addF k (Gfm.qT f)) (Gfm.timesB (f k) (Gfm.powI 2 (k : Int)))) := rfl
      obtain ⟨x, hx⟩ : ∃ x, f k = x := ⟨_, rfl⟩
      obtain ⟨y, hy⟩ : ∃ y, Gfm.addF k (Gfm.qT f) = y := ⟨_, rfl⟩
      obtain ⟨z, hz⟩ : ∃ z, Gfm.powI 2 (k : Int) = z := ⟨_, rfl⟩
      have hE := refExp_any (k : Int)
      rw [hx] at hc h1 Hs
      rw [hy] at h2 Hs
      rw [hz] at hpE Hs hE
      rw [hy]
      have h3 : (Gfm.timesB x z).size ≤ 1048576 := by rw [Gfm.timesB_size]; omega
      clear hx hy hz
      go_wp2
      go_region_held3 (fun W => W.cell? ⟨b, o + k, none⟩ = some (.string x)) (first | exact hc | assumption) (first | (go_at_call 64; refine (hE _).mono ?_; rintro e w1 ⟨rfl, rfl⟩) | (go_at_call 63; refine (refTimes_any x z h1 hpE _).mono ?_; rintro e w2 ⟨rfl, hb2⟩; have hc2 := keep_one hb2 (by assumption)) | (go_at_call 62; refine (refXor_any y (Gfm.timesB x z) h2 h3 _).mono ?_; rintro e w3 ⟨rfl, hb3⟩; have hc3 := keep_one hb3 (by assumption)))
      go_wp2
      go_roundw
      case rel => exact ⟨k + 1, by omega, by go_num, by rw [Hs.out], hb.trans ((below2 ((Below.refl _ _).drew.trans hb2) hb3).mono hb.size)⟩
      case measure => simp [intOf]; omega
    · have hkk : k = n := by omega
      subst hkk
      go_wp2
      go_ret
      exact ⟨rfl, hb⟩
set_option maxRecDepth 100000 in
set_option maxHeartbeats 1000000 in
theorem refQ_none (f : Nat → ByteArray) (a : Option Addr) (cap : Nat) (w : World) :
    Calls Tryz.prog 26 #[.slice a 0 cap] w fun e w' => e = .returned (.string (Gfm.addF 0 f)) ∧ Below w.heap.size w w' := by
  go_enter Tryz.func26, Tryz.ntmps26
  go_wp2
  go_loopw [3, 4] (fun s i wr => i = .int .i64 0 ∧ s = .string (Gfm.addF 0 f) ∧ Below w.heap.size w wr) (fun _ i _ => 0 - (intOf i).toNat)
  case atStart => exact ⟨rfl, rfl, Below.refl _ _⟩
  case round =>
    obtain ⟨rfl, rfl, hb⟩ := hrel
    go_wp2
    go_ret
    exact ⟨rfl, hb⟩
theorem refQ_any (n : Nat) (f : Nat → ByteArray) (hn : n ≤ 1048576) (hf : Fits 1048576 n f) (a : Option Addr) (cap : Nat) (w : World) (hr : RowS w a n f) :
    Calls Tryz.prog 26 #[.slice a n cap] w fun e w' => e = .returned (.string (Gfm.addF n (Gfm.qT f))) ∧ Below w.heap.size w w' := by
  rcases hr.place with rfl | ⟨b, o, rfl⟩
  · exact refQ_none (Gfm.qT f) a cap w
  · exact refQ_some n f hn hf b o cap w hr

end Go.Proofs.YtdgkhjgnjfgnlaaGreat

namespace Go.Proofs.YtdgkhjgnjfgnlaaGreat
open Go.RowKit

namespace Rf
def sameT : Nat → (Nat → ByteArray) → (Nat → ByteArray) → Bool
  | 0, _, _ => true
  | n + 1, f, g => sameT n f g && decide (f n = g n)
def sameB (n : Nat) (f : Nat → ByteArray) (m : Nat) (g : Nat → ByteArray) : Bool := decide (n = m) && sameT n f g
theorem sameT_iff {n : Nat} {f g : Nat → ByteArray} : sameT n f g = true ↔ ∀ i, i < n → f i = g i := by
  induction n with
  | zero => exact ⟨fun _ i hi => absurd hi (Nat.not_lt_zero _), fun _ => rfl⟩
  | succ n ih =>
    show (sameT n f g && decide (f n = g n)) = true ↔ _
    rw [Bool.and_eq_true, ih, decide_eq_true_eq]
    constructor
    · rintro ⟨h1, h2⟩ i hi
      by_cases e : i = n
      · subst e; exact h2
      · exact h1 i (by omega)
    · intro h; exact ⟨fun i hi => h i (by omega), h n (by omega)⟩
theorem sameT_no {n i : Nat} {f g : Nat → ByteArray} (hi : i < n) (h : f i ≠ g i) : sameT n f g = false := by
  cases e : sameT n f g with
  | false => rfl
  | true => exact absurd (sameT_iff.1 e i hi) h
theorem sameB_iff {n m : Nat} {f g : Nat → ByteArray} : sameB n f m g = true ↔ n = m ∧ ∀ i, i < n → f i = g i := by
  unfold sameB; rw [Bool.and_eq_true, decide_eq_true_eq, sameT_iff]
theorem sameB_yes {n : Nat} {f g : Nat → ByteArray} (h : ∀ i, i < n → f i = g i) : sameB n f n g = true := sameB_iff.2 ⟨rfl, h⟩
end Rf

theorem texts_apart {a b : ByteArray} (h : ¬ a = b) : (a.toList == b.toList) = false := by
  rw [beq_eq_false_iff_ne, ByteArray.toList_eq, ByteArray.toList_eq]
  intro e
  exact h (by cases a; cases b; simp only [ByteArray.mk.injEq]; exact Array.toList_inj.1 e)

set_option maxRecDepth 100000 in
set_option maxHeartbeats 2000000 in
theorem Same_any (n m : Nat) (f g : Nat → ByteArray) (hn : n ≤ 1000000) (hm : m ≤ 1000000) (a b : Option Addr) (ca cb : Nat) (w : World) (ha : RowS w a n f) (hb : RowS w b m g) :
    Calls Tryz.prog 20 #[.slice a n ca, .slice b m cb] w fun e w' => e = .returned (.bool (Rf.sameB n f m g)) ∧ Below w.heap.size w w' := by
  by_cases hnm : n = m
  · subst hnm
    have hnn : ((n : Int) != (n : Int)) = false := by simp
    have HS : Hid (Rf.sameB n f n g = Rf.sameT n f g) := by show _ = _; unfold Rf.sameB; simp
    have HMX : Hid (Tryz.prog.follows .mixedOrders = true) := by show _ = _; kernel_rfl
    go_enter Tryz.func20, Tryz.ntmps20
    go_wp2
    go_loopg [5] n (fun gg i wr => ∃ k : Nat, k ≤ n ∧ gg = n - k ∧ i = .int .i64 k ∧ Below w.heap.size w wr ∧ ∀ j, j < k → f j = g j)
    case atStart => exact ⟨0, Nat.zero_le _, rfl, rfl, Below.refl _ _, fun j hj => absurd hj (Nat.not_lt_zero _)⟩
    case round =>
      obtain ⟨k, hk, rfl, rfl, hb', hv⟩ := hrel
      have HV : Hid (∀ j, j < k → f j = g j) := hv
      have HB : Hid (Below w.heap.size w wr) := hb'
      have hsz := hb'.size
      clear hv hb'
      by_cases hkn : k < n
      · obtain ⟨b0, o0, rfl, hc0⟩ := ha k hkn
        obtain ⟨b1, o1, rfl, hc1⟩ := hb k hkn
        have hc0 := (HB.out.cell (p := ⟨b0, o0 + k, none⟩) (World.block_lt_of_cell? w _ hc0)).trans hc0
        have hc1 := (HB.out.cell (p := ⟨b1, o1 + k, none⟩) (World.block_lt_of_cell? w _ hc1)).trans hc1
        obtain ⟨x, hx⟩ : ∃ x, f k = x := ⟨_, rfl⟩
        obtain ⟨y, hy⟩ : ∃ y, g k = y := ⟨_, rfl⟩
        have HX : Hid (f k = x) := hx
        have HY : Hid (g k = y) := hy
        rw [hx] at hc0
        rw [hy] at hc1
        clear hx hy
        have hS0 : wr.cell? ⟨b0, o0 + k, none⟩ = some (.string x) ∧ wr.cell? ⟨b1, o1 + k, none⟩ = some (.string y) ∧ Below wr.heap.size wr wr.drew := ⟨hc0, hc1, (Below.refl _ _).drew⟩
        by_cases hxy : x = y
        · subst hxy
          have HV2 : Hid (∀ j, j < k + 1 → f j = g j) := fun j hj => by
            by_cases e : j = k
            · subst e; rw [HX.out, HY.out]
            · exact HV.out j (by omega)
          go_wp2_with fail
          refine region_det (fun W => W.cell? ⟨b0, o0 + k, none⟩ = some (.string x) ∧ W.cell? ⟨b1, o1 + k, none⟩ = some (.string x) ∧ Below wr.heap.size wr W) HMX.out (by kernel_rfl) hS0 ?_
          refine det_read 0 (v := ?vx1) rfl (by kernel_rfl) rfl ?hyx1 ?restx1
          case hyx1 => (intro wS hSw; (try dsimp only at hSw); go_simp; try with_reducible rfl)
          try simp only [Act.put, List.setIfInBounds_toArray, List.set_cons_zero, List.set_cons_succ]
          refine det_read 1 (v := ?vx2) rfl (by kernel_rfl) rfl ?hyx2 ?restx2
          case hyx2 => (intro wS hSw; (try dsimp only at hSw); go_simp; try with_reducible rfl)
          try simp only [Act.put, List.setIfInBounds_toArray, List.set_cons_zero, List.set_cons_succ]
          refine det_read 2 (v := ?vx3) rfl (by kernel_rfl) rfl ?hyx3 ?restx3
          case hyx3 => (intro wS hSw; (try dsimp only at hSw); go_simp; try with_reducible rfl)
          try simp only [Act.put, List.setIfInBounds_toArray, List.set_cons_zero, List.set_cons_succ]
          refine det_read 3 (v := ?vx4) rfl (by kernel_rfl) rfl ?hyx4 ?restx4
          case hyx4 => (intro wS hSw; (try dsimp only at hSw); go_simp; try with_reducible rfl)
          try simp only [Act.put, List.setIfInBounds_toArray, List.set_cons_zero, List.set_cons_succ]
          refine det_read 4 (v := ?vx5) rfl (by kernel_rfl) rfl ?hyx5 ?restx5
          case hyx5 => (intro wS hSw; (try dsimp only at hSw); go_simp; try with_reducible rfl)
          try simp only [Act.put, List.setIfInBounds_toArray, List.set_cons_zero, List.set_cons_succ]
          refine det_read 5 (v := ?vx6) rfl (by kernel_rfl) rfl ?hyx6 ?restx6
          case hyx6 => (intro wS hSw; (try dsimp only at hSw); go_simp; try with_reducible rfl)
          try simp only [Act.put, List.setIfInBounds_toArray, List.set_cons_zero, List.set_cons_succ]
          refine det_read 6 (v := ?vx7) rfl (by kernel_rfl) rfl ?hyx7 ?restx7
          case hyx7 => (intro wS hSw; (try dsimp only at hSw); go_simp; try with_reducible rfl)
          try simp only [Act.put, List.setIfInBounds_toArray, List.set_cons_zero, List.set_cons_succ]
          refine det_read 7 (v := ?vx8) rfl (by kernel_rfl) rfl ?hyx8 ?restx8
          case hyx8 => (intro wS hSw; (try dsimp only at hSw); go_simp; try with_reducible rfl)
          try simp only [Act.put, List.setIfInBounds_toArray, List.set_cons_zero, List.set_cons_succ]
          refine det_read 8 (v := ?vx9) rfl (by kernel_rfl) rfl ?hyx9 ?restx9
          case hyx9 => (intro wS hSw; (try dsimp only at hSw); go_simp; try with_reducible rfl)
          try simp only [Act.put, List.setIfInBounds_toArray, List.set_cons_zero, List.set_cons_succ]
          refine det_done (by kernel_rfl) ?_
          rintro W ⟨_, _, hW⟩
          go_wp2
          go_roundg (n - (k + 1))
          case measure => omega
          case rel => exact ⟨k + 1, by omega, rfl, by go_num, HB.out.trans (hW.mono hsz), HV2.out⟩
        · have hap := texts_apart hxy
          have E : Hid (Rf.sameB n f n g = false) := by
            show _ = _; rw [HS.out]; exact Rf.sameT_no hkn (by rw [HX.out, HY.out]; exact hxy)
          have hne : (x.toList != y.toList) = true := by unfold bne; rw [hap]; rfl
          clear hxy
          go_wp2_with fail
          refine region_det (fun W => W.cell? ⟨b0, o0 + k, none⟩ = some (.string x) ∧ W.cell? ⟨b1, o1 + k, none⟩ = some (.string y) ∧ Below wr.heap.size wr W) HMX.out (by kernel_rfl) hS0 ?_
          refine det_read 0 (v := ?vx10) rfl (by kernel_rfl) rfl ?hyx10 ?restx10
          case hyx10 => (intro wS hSw; (try dsimp only at hSw); go_simp; try with_reducible rfl)
          try simp only [Act.put, List.setIfInBounds_toArray, List.set_cons_zero, List.set_cons_succ]
          refine det_read 1 (v := ?vx11) rfl (by kernel_rfl) rfl ?hyx11 ?restx11
          case hyx11 => (intro wS hSw; (try dsimp only at hSw); go_simp; try with_reducible rfl)
          try simp only [Act.put, List.setIfInBounds_toArray, List.set_cons_zero, List.set_cons_succ]
          refine det_read 2 (v := ?vx12) rfl (by kernel_rfl) rfl ?hyx12 ?restx12
          case hyx12 => (intro wS hSw; (try dsimp only at hSw); go_simp; try with_reducible rfl)
          try simp only [Act.put, List.setIfInBounds_toArray, List.set_cons_zero, List.set_cons_succ]
          refine det_read 3 (v := ?vx13) rfl (by kernel_rfl) rfl ?hyx13 ?restx13
          case hyx13 => (intro wS hSw; (try dsimp only at hSw); go_simp; try with_reducible rfl)
          try simp only [Act.put, List.setIfInBounds_toArray, List.set_cons_zero, List.set_cons_succ]
          refine det_read 4 (v := ?vx14) rfl (by kernel_rfl) rfl ?hyx14 ?restx14
          case hyx14 => (intro wS hSw; (try dsimp only at hSw); go_simp; try with_reducible rfl)
          try simp only [Act.put, List.setIfInBounds_toArray, List.set_cons_zero, List.set_cons_succ]
          refine det_read 5 (v := ?vx15) rfl (by kernel_rfl) rfl ?hyx15 ?restx15
          case hyx15 => (intro wS hSw; (try dsimp only at hSw); go_simp; try with_reducible rfl)
          try simp only [Act.put, List.setIfInBounds_toArray, List.set_cons_zero, List.set_cons_succ]
          refine det_read 6 (v := ?vx16) rfl (by kernel_rfl) rfl ?hyx16 ?restx16
          case hyx16 => (intro wS hSw; (try dsimp only at hSw); go_simp; try with_reducible rfl)
          try simp only [Act.put, List.setIfInBounds_toArray, List.set_cons_zero, List.set_cons_succ]
          refine det_read 7 (v := ?vx17) rfl (by kernel_rfl) rfl ?hyx17 ?restx17
          case hyx17 => (intro wS hSw; (try dsimp only at hSw); go_simp; try with_reducible rfl)
          try simp only [Act.put, List.setIfInBounds_toArray, List.set_cons_zero, List.set_cons_succ]
          refine det_read 8 (v := ?vx18) rfl (by kernel_rfl) rfl ?hyx18 ?restx18
          case hyx18 => (intro wS hSw; (try dsimp only at hSw); go_simp; try with_reducible rfl)
          try simp only [Act.put, List.setIfInBounds_toArray, List.set_cons_zero, List.set_cons_succ]
          refine det_done (by kernel_rfl) ?_
          rintro W ⟨_, _, hW⟩
          go_wp2
          go_ret
          exact ⟨ret_bool E.out.symm, HB.out.trans (hW.mono hsz)⟩
      · have hkk : k = n := by omega
        subst hkk
        have E : Hid (Rf.sameB k f k g = true) := Rf.sameB_yes HV.out
        go_wp2
        go_ret
        exact ⟨ret_bool E.out.symm, HB.out⟩
  · have hne : ((n : Int) != (m : Int)) = true := by rw [bne_iff_ne]; omega
    have E : Hid (Rf.sameB n f m g = false) := by show _ = _; unfold Rf.sameB; rw [decide_eq_false hnm]; rfl
    clear hnm
    go_enter Tryz.func20, Tryz.ntmps20
    go_wp2
    go_ret
    exact ⟨ret_bool E.out.symm, Below.refl _ _⟩

end Go.Proofs.YtdgkhjgnjfgnlaaGreat
