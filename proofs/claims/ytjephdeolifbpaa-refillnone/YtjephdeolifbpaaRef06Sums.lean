/- The walks of the document's own sums of a row's bytes, and of its bytes at a place. -/
import Derived.Test.YtjephdeolifbpaaRef06May2
import Derived.Test.YtjephdeolifbpaaRfFill
import Derived.Test.YtjephdeolifbpaaRfSays
import Derived.Test.YtjephdeolifbpaaKitJoin
import Derived.Test.YtjephdeolifbpaaRef01Pow
namespace Go.Proofs.Ytjephdeolifbpaa
open Go.RowKit

theorem u8_xor_bytes (x y : UInt8) : bits .xor .u8 (x.toNat : Int) (y.toNat : Int) = ((x ^^^ y).toNat : Int) := by
  rw [u8_xor_nat _ _ x.toNat_lt y.toNat_lt, UInt8.toNat_xor]

set_option maxRecDepth 100000 in
set_option maxHeartbeats 4000000 in
theorem sums_any (m : Nat) (B : Nat → UInt8) (hm : m ≤ 1000) (g n cap : Nat) (hn : m + 2 = n) (w : World) (hr : RowB w g n B) :
    Calls Try.prog 47 #[.slice (some ⟨g, 0, none⟩) n cap] w fun e w' => e = .returned (.tuple #[.int .u8 ((Rf.synP m B).toNat : Int), .int .u8 ((Rf.synQ m B).toNat : Int)]) ∧ Below w.heap.size w w' := by
  have c1 := hr m (by omega)
  have c2 := hr (m + 1) (by omega)
  have e1 : (n : Int) - 2 = (m : Int) := by omega
  have e2 : m < n := by omega
  have e3 : m + 1 < n := by omega
  have HR : Hid (RowB w g n B) := hr
  have HMX : Hid (Try.prog.follows .mixedOrders = true) := by show _ = _; kernel_rfl
  have HN : Hid (m + 2 = n) := hn
  have HP0 : Hid (B m = B m ^^^ Gfm.xorN 0 B) := by show _ = _; exact (UInt8.xor_zero).symm
  have HQ0 : Hid (B (m + 1) = B (m + 1) ^^^ Gfm.xorN 0 fun i => Gfm.mulU (B i) (Gfm.pE i)) := by show _ = _; exact (UInt8.xor_zero).symm
  clear hr hn
  go_enter Try.func47, Try.ntmps47
  go_wp2
  go_loopg [5, 6, 7] m (fun gg p q i wr => ∃ (k : Nat) (P Q : UInt8), k ≤ m ∧ gg = m - k ∧ p = .int .u8 (P.toNat : Int) ∧ q = .int .u8 (Q.toNat : Int) ∧ i = .int .i64 k ∧ Below w.heap.size w wr ∧ P = B m ^^^ Gfm.xorN k B ∧ Q = B (m + 1) ^^^ Gfm.xorN k fun i => Gfm.mulU (B i) (Gfm.pE i))
  case atStart => exact ⟨0, _, _, Nat.zero_le _, rfl, rfl, rfl, rfl, Below.refl _ _, HP0.out, HQ0.out⟩
  case round =>
    obtain ⟨k, P, Q, hk, rfl, rfl, rfl, rfl, hb, hP, hQ⟩ := hrel
    have HP : Hid (P = B m ^^^ Gfm.xorN k B) := hP
    have HQ : Hid (Q = B (m + 1) ^^^ Gfm.xorN k fun i => Gfm.mulU (B i) (Gfm.pE i)) := hQ
    have HB : Hid (Below w.heap.size w wr) := hb
    have hsz := hb.size
    have hR := HR.out.below hb
    clear hP hQ hb
    by_cases hkm : k < m
    · have hc := hR k (by omega)
      have e4 : k < n := by omega
      obtain ⟨y, hy⟩ : ∃ y, B k = y := ⟨_, rfl⟩
      rw [hy] at hc
      have HP2 : Hid (P ^^^ y = B m ^^^ Gfm.xorN (k + 1) B) := by show _ = _; rw [HP.out, Gfm.xorN_succ, hy, UInt8.xor_assoc]
      have HQ2 : Hid (Q ^^^ Gfm.mulU y (Gfm.pE k) = B (m + 1) ^^^ Gfm.xorN (k + 1) fun i => Gfm.mulU (B i) (Gfm.pE i)) := by show _ = _; rw [HQ.out, Gfm.xorN_succ, hy, UInt8.xor_assoc]
      have x1 := u8_xor_bytes P y
      have x2 := u8_xor_bytes Q (Gfm.mulU y (Gfm.pE k))
      have hE : ∀ W, Calls Try.prog 49 #[.int .i64 (k : Int)] W fun e w' => e = .returned (.int .u8 (Gfm.pE k : Nat)) ∧ w' = W := fun W => refExp_any (k : Int) W
      have hM := fun W => refMul_u8 y (Gfm.pE k) (Gfm.pE_lt k) W
      have hpE := Gfm.pE_lt k
      obtain ⟨z, hz⟩ : ∃ z, Gfm.mulU y (Gfm.pE k) = z := ⟨_, rfl⟩
      obtain ⟨t, ht⟩ : ∃ t, Gfm.pE k = t := ⟨_, rfl⟩
      rw [hz] at HQ2 x2 hM
      rw [ht] at hE hM hpE
      have hS0 : wr.cell? ⟨g, k, none⟩ = some (.int .u8 (y.toNat : Int)) ∧ Below wr.heap.size wr wr.drew := ⟨hc, (Below.refl _ _).drew⟩
      clear hy hz ht hR c1 c2
      have hylt := y.toNat_lt
      have hPlt := P.toNat_lt
      have hQlt := Q.toNat_lt
      have hzlt := z.toNat_lt
      go_wp2_with fail
      refine region_det (fun W => W.cell? ⟨g, k, none⟩ = some (.int .u8 (y.toNat : Int)) ∧ Below wr.heap.size wr W) HMX.out (by kernel_rfl) hS0 ?_
      refine det_read 0 (v := ?vx1) rfl (by kernel_rfl) rfl ?hyx1 ?restx1
      case hyx1 => (intro wS hSw; (try dsimp only at hSw); go_simp; try with_reducible rfl)
      try simp only [Act.put, List.setIfInBounds_toArray, List.set_cons_zero, List.set_cons_succ]
      refine det_read 1 (v := ?vx2) rfl (by kernel_rfl) rfl ?hyx2 ?restx2
      case hyx2 => (intro wS hSw; (try dsimp only at hSw); go_simp; try with_reducible rfl)
      try simp only [Act.put, List.setIfInBounds_toArray, List.set_cons_zero, List.set_cons_succ]
      refine det_read 2 (v := ?vx3) rfl (by kernel_rfl) rfl ?hyx3 ?restx3
      case hyx3 => (intro wS hSw; (try dsimp only at hSw); go_simp; try with_reducible rfl)
      try simp only [Act.put, List.setIfInBounds_toArray, List.set_cons_zero, List.set_cons_succ]
      refine det_read 3 (v := ?vx4) rfl (by kernel_rfl) rfl ?hyx4 ?restx4
      case hyx4 => (intro wS hSw; (try dsimp only at hSw); go_simp; try with_reducible rfl)
      try simp only [Act.put, List.setIfInBounds_toArray, List.set_cons_zero, List.set_cons_succ]
      refine det_read 4 (v := ?vx5) rfl (by kernel_rfl) rfl ?hyx5 ?restx5
      case hyx5 => (intro wS hSw; (try dsimp only at hSw); go_simp; try with_reducible rfl)
      try simp only [Act.put, List.setIfInBounds_toArray, List.set_cons_zero, List.set_cons_succ]
      refine det_read 5 (v := ?vx6) rfl (by kernel_rfl) rfl ?hyx6 ?restx6
      case hyx6 => (intro wS hSw; (try dsimp only at hSw); go_simp; try with_reducible rfl)
      try simp only [Act.put, List.setIfInBounds_toArray, List.set_cons_zero, List.set_cons_succ]
      refine det_call 6 rfl (by kernel_rfl) rfl ?hyx9 (fun W h => (hE W).mono fun _ _ ⟨e, hw⟩ => ⟨e, by rw [hw]; exact h⟩) ?restx9
      case hyx9 => (intro wS hSw; go_simp; try with_reducible rfl)
      try simp only [Act.put, List.setIfInBounds_toArray, List.set_cons_zero, List.set_cons_succ]
      refine det_call 7 rfl (by kernel_rfl) rfl ?hyx10 (fun W h => (hM W).mono fun _ _ ⟨e, hw⟩ => ⟨e, by rw [hw]; exact h⟩) ?restx10
      case hyx10 => (intro wS hSw; go_simp; try with_reducible rfl)
      try simp only [Act.put, List.setIfInBounds_toArray, List.set_cons_zero, List.set_cons_succ]
      refine det_read 8 (v := ?vx7) rfl (by kernel_rfl) rfl ?hyx7 ?restx7
      case hyx7 => (intro wS hSw; (try dsimp only at hSw); go_simp; try with_reducible rfl)
      try simp only [Act.put, List.setIfInBounds_toArray, List.set_cons_zero, List.set_cons_succ]
      refine det_read 9 (v := ?vx8) rfl (by kernel_rfl) rfl ?hyx8 ?restx8
      case hyx8 => (intro wS hSw; (try dsimp only at hSw); go_simp; try with_reducible rfl)
      try simp only [Act.put, List.setIfInBounds_toArray, List.set_cons_zero, List.set_cons_succ]
      refine det_done (by kernel_rfl) ?_
      rintro W ⟨_, hW⟩
      go_wp2
      go_roundg (m - (k + 1))
      case measure => omega
      case rel => exact ⟨k + 1, _, _, by omega, rfl, rfl, rfl, by go_num, HB.out.trans (hW.mono hsz), HP2.out, HQ2.out⟩
    · have hkk : k = m := by omega
      subst hkk
      have E1 : Hid (P = Rf.synP k B) := HP.out
      have E2 : Hid (Q = Rf.synQ k B) := HQ.out
      go_wp2
      go_ret2
      exact ⟨ret_two (by rw [← E1.out]; rfl) (by rw [← E2.out]; rfl), HB.out⟩

set_option maxRecDepth 100000 in
set_option maxHeartbeats 4000000 in
theorem at_any (n : Nat) (f : Nat → ByteArray) (hn : n ≤ 1000) (a : Option Addr) (cap : Nat) (ln : Nat) (L : Nat → Int) (hln : ln ≤ 1000000) (b : Option Addr) (capb : Nat) (k s : Nat) (hs : s ≤ 1048576) (hk : k < s) (hf : ∀ i, i < n → Rf.hasF ln L (i : Int) = false → (f i).size = s) (w : World) (hr : RowS w a n f) (hl : RowI .i64 w b ln L) :
    Calls Try.prog 24 #[.slice a n cap, .slice b ln capb, .int .i64 (k : Int)] w fun e w' =>
      (∃ g c, e = .returned (.slice (some ⟨g, 0, none⟩) n c) ∧ w'.ownsRow w.heap.size 5 1 (.slice (some ⟨g, 0, none⟩) n c) n (byteVals (bl n (Rf.atB f ln L k)))) ∧ Below w.heap.size w w' := by
  have HH := fun (x : Int) (W : World) (h : Below w.heap.size w W) => has_any ln L hln b capb x W (hl.below h)
  have HR : Hid (RowS w a n f) := hr
  have HF : Hid (∀ i, i < n → Rf.hasF ln L (i : Int) = false → (f i).size = s) := hf
  obtain ⟨i0, hi, hz0, hz1, hz2⟩ := info_parts (show (Try.prog.info? 5).map (fun i => (i.zero, i.size, i.bytes)) = some (some (.int .u8 0), 1, 1) from info_u8)
  clear hr hf
  go_enter Try.func24, Try.ntmps24
  go_wp2
  go_loopg [7, 8, 9] n (fun gg u i _ wr => ∃ (j g c : Nat), j ≤ n ∧ gg = n - j ∧ u = .slice (some ⟨g, 0, none⟩) j c ∧ i = .int .i64 j ∧ wr.ownsRow w.heap.size 5 1 (.slice (some ⟨g, 0, none⟩) j c) j (byteVals (bl j (Rf.atB f ln L k))) ∧ Below w.heap.size w wr)
  case atStart => exact ⟨0, w.heap.size, 0, Nat.zero_le _, rfl, rfl, rfl, World.ownsRow_made w #[] 0 (Nat.le_refl _) (by decide) rfl, (Below.refl _ _).alloc (Nat.le_refl _) _⟩
  case round =>
    obtain ⟨j, g, c, hj, rfl, rfl, rfl, own, hb⟩ := hrel
    have OWN : Hid (wr.ownsRow w.heap.size 5 1 (.slice (some ⟨g, 0, none⟩) j c) j (byteVals (bl j (Rf.atB f ln L k)))) := own
    have HB : Hid (Below w.heap.size w wr) := hb
    have hsz := hb.size
    have hHj := HH (j : Int) wr hb
    clear own hb
    by_cases hjn : j < n
    · have t1 : True := trivial
      cases hh : Rf.hasF ln L (j : Int) with
      | true =>
        have HV : Hid (Rf.atB f ln L k j = 0) := Rf.atB_lost hh
        rw [hh] at hHj
        clear hh
        go_wp2_with fail
        refine hHj.mono ?_
        rintro e w' ⟨rfl, hw⟩
        subst w'
        go_wp2_with (at_builtin; have _t := t1; refine wpList_append_lies _ rfl _ _ 36 rfl w.heap.size 5 i0 (.int .u8 0) 1 1 Try.underlying36 hi hz0 hz1 hz2 rfl (by decide) (.slice (some ⟨g, 0, none⟩) j c) j (byteVals (bl j (Rf.atB f ln L k))) rfl (OWN.out.alloc _) ⟨wr.heap.size, 0, none⟩ 1 1 [.int .u8 (((0 : UInt8).toNat : Nat) : Int)] rfl rfl (cell_one_new _ _ _) (by simp [Value.oneCell']) (by decide) (by unfold maxLen; omega) (by omega) (by simp; omega) _ rfl ?_; intro g1 c1 w3 own3 grow3 lies3 lt3; rw [byteVals_snoc, ← HV.out, bl_snoc] at own3; (have OWN3 : Hid (w3.ownsRow w.heap.size 5 1 (.slice (some ⟨g1, 0, none⟩) (j + 1) c1) (j + 1) (byteVals (bl (j + 1) (Rf.atB f ln L k)))) := own3); (have HB3 : Hid (Below w.heap.size w w3) := HB.out.trans (below_append OWN.out hsz grow3)); clear own3 grow3 lies3 lt3 t1)
        go_roundg (n - (j + 1))
        case measure => omega
        case rel => exact ⟨j + 1, g1, c1, by omega, rfl, rfl, by go_num, OWN3.out, HB3.out⟩
      | false =>
        obtain ⟨b0, o0, rfl, hc⟩ := HR.out j hjn
        have hc := (HB.out.cell (p := ⟨b0, o0 + j, none⟩) (World.block_lt_of_cell? w _ hc)).trans hc
        have hsj := HF.out j hjn hh
        have HV : Hid (Rf.atB f ln L k j = Gfm.byt (f j) k) := Rf.atB_kept hh
        obtain ⟨x, hx⟩ : ∃ x, f j = x := ⟨_, rfl⟩
        rw [hx] at hc hsj HV
        have hkx : k < x.size := by omega
        have HV2 : Hid (Rf.atB f ln L k j = x[k]) := by show _ = _; rw [HV.out]; exact byte_at hkx
        have hxs : x.size ≤ 1048576 := by omega
        rw [hh] at hHj
        clear hh hx hsj
        go_wp2_with fail
        refine hHj.mono ?_
        rintro e w' ⟨rfl, hw⟩
        subst w'
        go_wp2_with (at_builtin; have _t := t1; refine wpList_append_lies _ rfl _ _ 36 rfl w.heap.size 5 i0 (.int .u8 0) 1 1 Try.underlying36 hi hz0 hz1 hz2 rfl (by decide) (.slice (some ⟨g, 0, none⟩) j c) j (byteVals (bl j (Rf.atB f ln L k))) rfl (OWN.out.alloc _) ⟨wr.heap.size, 0, none⟩ 1 1 [.int .u8 ((x[k] : UInt8).toNat : Int)] rfl rfl (cell_one_new _ _ _) (by simp [Value.oneCell']) (by decide) (by unfold maxLen; omega) (by omega) (by simp; omega) _ rfl ?_; intro g1 c1 w3 own3 grow3 lies3 lt3; rw [byteVals_snoc, ← HV2.out, bl_snoc] at own3; (have OWN3 : Hid (w3.ownsRow w.heap.size 5 1 (.slice (some ⟨g1, 0, none⟩) (j + 1) c1) (j + 1) (byteVals (bl (j + 1) (Rf.atB f ln L k)))) := own3); (have HB3 : Hid (Below w.heap.size w w3) := HB.out.trans (below_append OWN.out hsz grow3)); clear own3 grow3 lies3 lt3 t1)
        go_roundg (n - (j + 1))
        case measure => omega
        case rel => exact ⟨j + 1, g1, c1, by omega, rfl, rfl, by go_num, OWN3.out, HB3.out⟩
    · have hjj : j = n := by omega
      subst hjj
      go_wp2
      go_ret
      exact ⟨⟨g, c, rfl, OWN.out⟩, HB.out⟩
end Go.Proofs.Ytjephdeolifbpaa
