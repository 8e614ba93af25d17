import Derived.Test.YtdgkhjgnjfgnlaaGreatMRef6A
import Derived.Test.YtdgkhjgnjfgnlaaGreatMRfA
import Derived.Test.YtdgkhjgnjfgnlaaGreatMRfB
import Derived.Test.YtdgkhjgnjfgnlaaGreatMKitF
import Derived.Test.YtdgkhjgnjfgnlaaGreatMRef1
import Derived.Test.YtdgkhjgnjfgnlaaGreatMRef5
import Derived.Test.YtdgkhjgnjfgnlaaGreatMKitD
namespace Go.Proofs.YtdgkhjgnjfgnlaaGreat
open Go.RowKit
theorem u8_xor_bytes (x y : UInt8) : bits .xor .u8 (x.toNat : Int) (y.toNat : Int) = ((x ^^^ y).toNat : Int) := by
 rw [u8_xor_nat _ _ x.toNat_lt y.toNat_lt, UInt8.toNat_xor]
set_option maxRecDepth 100000 in
set_option maxHeartbeats 4000000 in
theorem sums_any (m : Nat) (B : Nat → UInt8) (hm : m ≤ 1000) (g n cap : Nat) (hn : m + 2 = n) (w : World) (hr : RowB w g n B) :
  Calls Tryz.prog 123 #[.slice (some ⟨g, 0, none⟩) n cap] w fun e w' => e = .returned (.tuple #[.int .u8 ((Rf.synP m B).toNat : Int), .int .u8 ((Rf.synQ m B).toNat : Int)]) ∧ Below w.heap.size w w' := by
 have c1 := hr m (by omega)
 have c2 := hr (m + 1) (by omega)
 have e1 : (n : Int) - 2 = (m : Int) := by omega
 have e2 : m < n := by omega
 have e3 : m + 1 < n := by omega
 have HR : Hid (RowB w g n B) := hr
 have HMX : Hid (Tryz.prog.follows .mixedOrders = true) := by show _ = _; kernel_rfl
 have HN : Hid (m + 2 = n) := hn
 have HP0 : Hid (B m = B m ^^^ Gfm.xorN 0 B) := by show _ = _; exact (UInt8.xor_zero).symm
 have HQ0 : Hid (B (m + 1) = B (m + 1) ^^^ Gfm.xorN 0 fun i => Gfm.mulU (B i) (Gfm.pE i)) := by show _ = _; exact (UInt8.xor_zero).symm
 clear hr hn
 go_enter Tryz.func123, Tryz.ntmps123
 go_wp2
 go_loopg [5, 6, 7] m (fun gg p q i wr => ∃ (k : Nat) (P Q : UInt8), k ≤ m ∧ gg = m - k ∧ p = .int .u8 (P.toNat : Int) ∧ q = .int .u8 (Q.toNat : Int) ∧ i = .int .i64 k ∧ Below w.heap.size w wr ∧ P = B m ^^^ Gfm.xorN k B ∧ Q = B (m + 1) ^^^ Gfm.xorN k fun i => Gfm.mulU (B i) (Gfm.pE i))
 case atStart => exact ⟨0, _, _, Nat.zero_le _, rfl, rfl, rfl, rfl, Below.refl _ _, HP0.out, HQ0.out⟩
 case round =>
  obtain ⟨k, P, Q, hk, rfl, rfl, rfl, rfl, hb, hP, hQ⟩ := hrel
  have HP : Hid (P = B m ^^^ Gfm.xorN k B) := hP
  have HQ : Hid (Q = B (m + 1) ^^^ Gfm.xorN k fun i => Gfm.mulU (B i) (Gfm.pE i)) := hQ
  have HB : Hid (Below w.heap.size w wr) := hb
  have hsz := hb.size
  have hR := HR.out.below hb
  clear hP hQ hb
  by_cases hkm : k < m
  ·have hc := hR k (by omega)
   have e4 : k < n := by omega
   obtain ⟨y, hy⟩ : ∃ y, B k = y := ⟨_, rfl⟩
   rw [hy] at hc
   have HP2 : Hid (P ^^^ y = B m ^^^ Gfm.xorN (k + 1) B) := by show _ = _; rw [HP.out, Gfm.xorN_succ, hy, UInt8.xor_assoc]
   have HQ2 : Hid (Q ^^^ Gfm.mulU y (Gfm.pE k) = B (m + 1) ^^^ Gfm.xorN (k + 1) fun i => Gfm.mulU (B i) (Gfm.pE i)) := by show _ = _; rw [HQ.out, Gfm.xorN_succ, hy, UInt8.xor_assoc]
   have x1 := u8_xor_bytes P y
   have x2 := u8_xor_bytes Q (Gfm.mulU y (Gfm.pE k))
   have hE : ∀ W, Calls Tryz.prog 64 #[.int .i64 (k : Int)] W fun e w' => e = .returned (.int .u8 (Gfm.pE k : Nat)) ∧ w' = W := fun W => refExp_any (k : Int) W
   have hM := fun W => refMul_u8 y (Gfm.pE k) (Gfm.pE_lt k) W
   have hpE := Gfm.pE_lt k
   obtain ⟨z, hz⟩ : ∃ z, Gfm.mulU y (Gfm.pE k) = z := ⟨_, rfl⟩
   obtain ⟨t, ht⟩ : ∃ t, Gfm.pE k = t := ⟨_, rfl⟩
   rw [hz] at HQ2 x2 hM
   rw [ht] at hE hM hpE
   have hS0 : wr.cell? ⟨g, k, none⟩ = some (.int .u8 (y.toNat : Int)) ∧ Below wr.heap.size wr wr.drew := ⟨hc, (Below.refl _ _).drew⟩
   clear hy hz ht hR c1 c2
   have hylt := y.toNat_lt
   have hPlt := P.toNat_lt
   have hQlt := Q.toNat_lt
   have hzlt := z.toNat_lt
   go_wp2_with fail
   refine region_det (fun W => W.cell? ⟨g, k, none⟩ = some (.int .u8 (y.toNat : Int)) ∧ Below wr.heap.size wr W) HMX.out (by kernel_rfl) hS0 ?_
   refine det_read 0 (v := ?vx1) rfl (by kernel_rfl) rfl ?hyx1 ?restx1
   case hyx1 => (intro wS hSw; (try dsimp only at hSw); go_simp; try with_reducible rfl)
   try simp only [Act.put, List.setIfInBounds_toArray, List.set_cons_zero, List.set_cons_succ]
   refine det_read 1 (v := ?vx2) rfl (by kernel_rfl) rfl ?hyx2 ?restx2
   case hyx2 => (intro wS hSw; (try dsimp only at hSw); go_simp; try with_reducible rfl)
   try simp only [Act.put, List.setIfInBounds_toArray, List.set_cons_zero, List.set_cons_succ]
   refine det_read 2 (v := ?vx3) rfl (by kernel_rfl) rfl ?hyx3 ?restx3
   case hyx3 => (intro wS hSw; (try dsimp only at hSw); go_simp; try with_reducible rfl)
   try simp only [Act.put, List.setIfInBounds_toArray, List.set_cons_zero, List.set_cons_succ]
   refine det_read 3 (v := ?vx4) rfl (by kernel_rfl) rfl ?hyx4 ?restx4
   case hyx4 => (intro wS hSw; (try dsimp only at hSw); go_simp; try with_reducible rfl)
   try simp only [Act.put, List.setIfInBounds_toArray, List.set_cons_zero, List.set_cons_succ]
   refine det_read 4 (v := ?vx5) rfl (by kernel_rfl) rfl ?hyx5 ?restx5
   case hyx5 => (intro wS hSw; (try dsimp only at hSw); go_simp; try with_reducible rfl)
   try simp only [Act.put, List.setIfInBounds_toArray, List.set_cons_zero, List.set_cons_succ]
   refine det_read 5 (v := ?vx6) rfl (by kernel_rfl) rfl ?hyx6 ?restx6
   case hyx6 => (intro wS hSw; (try dsimp only at hSw); go_simp; try with_reducible rfl)
   try simp only [Act.put, List.setIfInBounds_toArray, List.set_cons_zero, List.set_cons_succ]
   refine det_call 6 rfl (by kernel_rfl) rfl ?hyx9 (fun W h => (hE W).mono fun _ _ ⟨e, hw⟩ => ⟨e, by rw [hw]; exact h⟩) ?restx9
   case hyx9 => (intro wS hSw; go_simp; try with_reducible rfl)
   try simp only [Act.put, List.setIfInBounds_toArray, List.set_cons_zero, List.set_cons_succ]
   refine det_call 7 rfl (by kernel_rfl) rfl ?hyx10 (fun W h => (hM W).mono fun _ _ ⟨e, hw⟩ => ⟨e, by rw [hw]; exact h⟩) ?restx10
   case hyx10 => (intro wS hSw; go_simp; try with_reducible rfl)
   try simp only [Act.put, List.setIfInBounds_toArray, List.set_cons_zero, List.set_cons_succ]
   refine det_read 8 (v := ?vx7) rfl (by kernel_rfl) rfl ?hyx7 ?restx7
   case hyx7 => (intro wS hSw; (try dsimp only at hSw); go_simp; try with_reducible rfl)
   try simp only [Act.put, List.setIfInBounds_toArray, List.set_cons_zero, List.set_cons_succ]
   refine det_read 9 (v := ?vx8) rfl (by kernel_rfl) rfl ?hyx8 ?restx8
   case hyx8 => (intro wS hSw; (try dsimp only at hSw); go_simp; try with_reducible rfl)
   try simp only [Act.put, List.setIfInBounds_toArray, List.set_cons_zero, List.set_cons_succ]
   refine det_done (by kernel_rfl) ?_
   rintro W ⟨_, hW⟩
   go_wp2
   go_roundg (m - (k + 1))
   case measure => omega
   case rel => exact ⟨k + 1, _, _, by omega, rfl, rfl, rfl, by go_num, HB.out.trans (hW.mono hsz), HP2.out, HQ2.out⟩
  ·have hkk : k = m := by omega
   subst hkk
   have E1 : Hid (P = Rf.synP k B) := HP.out
   have E2 : Hid (Q = Rf.synQ k B) := HQ.out
   go_wp2
   go_ret2
   exact ⟨ret_two (by rw [← E1.out]; rfl) (by rw [← E2.out]; rfl), HB.out⟩
set_option maxRecDepth 100000 in
set_option maxHeartbeats 4000000 in
theorem at_any (n : Nat) (f : Nat → ByteArray) (hn : n ≤ 1000) (a : Option Addr) (cap : Nat) (ln : Nat) (L : Nat → Int) (hln : ln ≤ 1000000) (b : Option Addr) (capb : Nat) (k s : Nat) (hs : s ≤ 1048576) (hk : k < s) (hf : ∀ i, i < n → Rf.hasF ln L (i : Int) = false → (f i).size = s) (w : World) (hr : RowS w a n f) (hl : RowI .i64 w b ln L) :
  Calls Tryz.prog 85 #[.slice a n cap, .slice b ln capb, .int .i64 (k : Int)] w fun e w' =>
   (∃ g c, e = .returned (.slice (some ⟨g, 0, none⟩) n c) ∧ w'.ownsRow w.heap.size 5 1 (.slice (some ⟨g, 0, none⟩) n c) n (byteVals (bl n (Rf.atB f ln L k)))) ∧ Below w.heap.size w w' := by
 have HH := fun (x : Int) (W : World) (h : Below w.heap.size w W) => has06_any ln L hln b capb x W (hl.below h)
 have HR : Hid (RowS w a n f) := hr
 have HF : Hid (∀ i, i < n → Rf.hasF ln L (i : Int) = false → (f i).size = s) := hf
 obtain ⟨i0, hi, hz0, hz1, hz2⟩ := info_parts (show (Tryz.prog.info? 5).map (fun i => (i.zero, i.size, i.bytes)) = some (some (.int .u8 0), 1, 1) from info_u8)
 clear hr hf
 go_enter Tryz.func85, Tryz.ntmps85
 go_wp2
 go_loopg [7, 8, 9] n (fun gg u i _ wr => ∃ (j g c : Nat), j ≤ n ∧ gg = n - j ∧ u = .slice (some ⟨g, 0, none⟩) j c ∧ i = .int .i64 j ∧ wr.ownsRow w.heap.size 5 1 (.slice (some ⟨g, 0, none⟩) j c) j (byteVals (bl j (Rf.atB f ln L k))) ∧ Below w.heap.size w wr)
 case atStart => exact ⟨0, w.heap.size, 0, Nat.zero_le _, rfl, rfl, rfl, World.ownsRow_made w #[] 0 (Nat.le_refl _) (by decide) rfl, (Below.refl _ _).alloc (Nat.le_refl _) _⟩
 case round =>
  obtain ⟨j, g, c, hj, rfl, rfl, rfl, own, hb⟩ := hrel
  have OWN : Hid (wr.ownsRow w.heap.size 5 1 (.slice (some ⟨g, 0, none⟩) j c) j (byteVals (bl j (Rf.atB f ln L k)))) := own
  have HB : Hid (Below w.heap.size w wr) := hb
  have hsz := hb.size
  have hHj := HH (j : Int) wr hb
  clear own hb
  by_cases hjn : j < n
  ·have t1 : True := trivial
   cases hh : Rf.hasF ln L (j : Int) with
   | true =>
    have HV : Hid (Rf.atB f ln L k j = 0) := Rf.atB_lost hh
    rw [hh] at hHj
    clear hh
    go_wp2_with fail
    refine hHj.mono ?_
    rintro e w' ⟨rfl, hw⟩
    subst w'
    go_wp2_with (at_builtin; have _t := t1; refine wpList_append_lies _ rfl _ _ 109 rfl w.heap.size 5 i0 (.int .u8 0) 1 1 Tryz.underlying109 hi hz0 hz1 hz2 rfl (by decide) (.slice (some ⟨g, 0, none⟩) j c) j (byteVals (bl j (Rf.atB f ln L k))) rfl (OWN.out.alloc _) ⟨wr.heap.size, 0, none⟩ 1 1 [.int .u8 (((0 : UInt8).toNat : Nat) : Int)] rfl rfl (cell_one_new _ _ _) (by simp [Value.oneCell']) (by decide) (by unfold maxLen; omega) (by omega) (by simp; omega) _ rfl ?_; intro g1 c1 w3 own3 grow3 lies3 lt3; rw [byteVals_snoc, ← HV.out, bl_snoc] at own3; (have OWN3 : Hid (w3.ownsRow w.heap.size 5 1 (.slice (some ⟨g1, 0, none⟩) (j + 1) c1) (j + 1) (byteVals (bl (j + 1) (Rf.atB f ln L k)))) := own3); (have HB3 : Hid (Below w.heap.size w w3) := HB.out.trans (below_append OWN.out hsz grow3)); clear own3 grow3 lies3 lt3 t1)
    go_roundg (n - (j + 1))
    case measure => omega
    case rel => exact ⟨j + 1, g1, c1, by omega, rfl, rfl, by go_num, OWN3.out, HB3.out⟩
   | false =>
    obtain ⟨b0, o0, rfl, hc⟩ := HR.out j hjn
    have hc := (HB.out.cell (p := ⟨b0, o0 + j, none⟩) (World.block_lt_of_cell? w _ hc)).trans hc
    have hsj := HF.out j hjn hh
    have HV : Hid (Rf.atB f ln L k j = Gfm.byt (f j) k) := Rf.atB_kept hh
    obtain ⟨x, hx⟩ : ∃ x, f j = x := ⟨_, rfl⟩
    rw [hx] at hc hsj HV
    have hkx : k < x.size := by omega
    have HV2 : Hid (Rf.atB f ln L k j = x[k]) := by show _ = _; rw [HV.out]; exact byte_at hkx
    have hxs : x.size ≤ 1048576 := by omega
    rw [hh] at hHj
    clear hh hx hsj
    go_wp2_with fail
    refine hHj.mono ?_
    rintro e w' ⟨rfl, hw⟩
    subst w'
    go_wp2_with (at_builtin; have _t := t1; refine wpList_append_lies _ rfl _ _ 109 rfl w.heap.size 5 i0 (.int .u8 0) 1 1 Tryz.underlying109 hi hz0 hz1 hz2 rfl (by decide) (.slice (some ⟨g, 0, none⟩) j c) j (byteVals (bl j (Rf.atB f ln L k))) rfl (OWN.out.alloc _) ⟨wr.heap.size, 0, none⟩ 1 1 [.int .u8 ((x[k] : UInt8).toNat : Int)] rfl rfl (cell_one_new _ _ _) (by simp [Value.oneCell']) (by decide) (by unfold maxLen; omega) (by omega) (by simp; omega) _ rfl ?_; intro g1 c1 w3 own3 grow3 lies3 lt3; rw [byteVals_snoc, ← HV2.out, bl_snoc] at own3; (have OWN3 : Hid (w3.ownsRow w.heap.size 5 1 (.slice (some ⟨g1, 0, none⟩) (j + 1) c1) (j + 1) (byteVals (bl (j + 1) (Rf.atB f ln L k)))) := own3); (have HB3 : Hid (Below w.heap.size w w3) := HB.out.trans (below_append OWN.out hsz grow3)); clear own3 grow3 lies3 lt3 t1)
    go_roundg (n - (j + 1))
    case measure => omega
    case rel => exact ⟨j + 1, g1, c1, by omega, rfl, rfl, by go_num, OWN3.out, HB3.out⟩
  ·have hjj : j = n := by omega
   subst hjj
   go_wp2
   go_ret
   exact ⟨⟨g, c, rfl, OWN.out⟩, HB.out⟩
end Go.Proofs.YtdgkhjgnjfgnlaaGreat
namespace Go.Proofs.YtdgkhjgnjfgnlaaGreat
open Go.RowKit
theorem info_i64 : (Tryz.prog.info? 3).map (fun i => (i.zero, i.size, i.bytes)) = some (some (.int .i64 0), 1, 8) := by kernel_rfl
def placeVals (l : List Nat) : List Value := l.map fun d : Nat => Value.int .i64 (d : Int)
theorem placeVals_snoc (l : List Nat) (x : Nat) : placeVals l ++ [.int .i64 (x : Int)] = placeVals (l ++ [x]) := by simp [placeVals]
def dataLen (m k : Nat) (L : Nat → Int) : Nat := (Rf.lostD m k L).length
set_option maxRecDepth 100000 in
set_option maxHeartbeats 16000000 in
theorem one_any (m : Nat) (hm : m ≤ 1000) (n : Nat) (hmn : m + 2 = n) (B : Nat → UInt8) (ln : Nat) (L : Nat → Int) (hln : ln ≤ 2) (hok : Rf.okL n ln L = true) (hm16 : m < 16) (g cap : Nat) (b : Option Addr) (capb : Nat) (w0 w : World) (hlow : Below w0.heap.size w0 w)
    (own : w.ownsRow w0.heap.size 5 1 (.slice (some ⟨g, 0, none⟩) n cap) n (byteVals (bl n B))) (hl : RowI .i64 w0 b ln L) :
    Calls Tryz.prog 84 #[.slice (some ⟨g, 0, none⟩) n cap, .slice b ln capb] w fun e w' =>
      e = .returned (.slice (some ⟨g, 0, none⟩) n cap) ∧ w'.ownsRow w0.heap.size 5 1 (.slice (some ⟨g, 0, none⟩) n cap) n (byteVals (bl n (Rf.fillB m B (Rf.lostD m ln L) (Rf.hasF ln L (m : Int)) (Rf.hasF ln L ((m : Int) + 1))))) ∧ Below w0.heap.size w0 w' := by
  have HHAS : ∀ (x : Int) (W : World), Below w0.heap.size w0 W → Calls Tryz.prog 122 #[.slice b ln capb, .int .i64 x] W fun e w' => e = .returned (.bool (Rf.hasF ln L x)) ∧ w' = W := fun x W h => has06_any ln L (by omega) b capb x W (hl.below h)
  have OWN : Hid (w.ownsRow w0.heap.size 5 1 (.slice (some ⟨g, 0, none⟩) n cap) n (byteVals (bl n B))) := own
  have HLOW : Hid (Below w0.heap.size w0 w) := hlow
  have HG : Hid (w0.heap.size ≤ g) := owns_low own
  have HL : Hid (RowI .i64 w0 b ln L) := hl
  have HN : Hid (m + 2 = n) := hmn
  have HOK : Hid (∀ i, i < ln → 0 ≤ L i ∧ L i < (n : Int) ∧ Rf.hasF i L (L i) = false) := fun i hi => Rf.okL_at hok hi
  have HMX : Hid (Tryz.prog.follows .mixedOrders = true) := by show _ = _; kernel_rfl
  have e1 : (n : Int) - 2 = (m : Int) := by omega
  have e2 : m < n := by omega
  have e3 : m + 1 < n := by omega
  have hSUM := sums_any m B hm g n cap hmn w (RowB.of_owns own)
  have FIX : Hid (Rf.fillB m B (Rf.lostD m ln L) (Rf.hasF ln L (m : Int)) (Rf.hasF ln L ((m : Int) + 1)) = Rf.fixPQ m (Rf.fixD m B (Rf.lostD m ln L) (Rf.hasF ln L (m : Int))) (Rf.hasF ln L (m : Int)) (Rf.hasF ln L ((m : Int) + 1))) := rfl
  obtain ⟨R, hR⟩ : ∃ R, Rf.fillB m B (Rf.lostD m ln L) (Rf.hasF ln L (m : Int)) (Rf.hasF ln L ((m : Int) + 1)) = R := ⟨_, rfl⟩
  rw [hR] at FIX
  rw [hR]
  obtain ⟨P, hP⟩ : ∃ y, Rf.synP m B = y := ⟨_, rfl⟩
  obtain ⟨Q, hQ⟩ : ∃ y, Rf.synQ m B = y := ⟨_, rfl⟩
  have HP : Hid (Rf.synP m B = P) := hP
  have HQ : Hid (Rf.synQ m B = Q) := hQ
  rw [hP, hQ] at hSUM
  have Pl := P.toNat_lt
  have Ql := Q.toNat_lt
  obtain ⟨i0, hi, hz0, hz1, hz2⟩ := info_parts info_i64
  clear own hlow hl hmn hok hR hP hQ
  go_enter Tryz.func84, Tryz.ntmps84
  go_wp2_with fail
  refine hSUM.mono ?_
  rintro e w1 ⟨rfl, s1⟩
  clear hSUM
  have OB : Hid (w1.ownsRow w0.heap.size 5 1 (.slice (some ⟨g, 0, none⟩) n cap) n (byteVals (bl n B))) := ownsRow_below OWN.out s1
  have LO : Hid (Below w0.heap.size w0 w1) := HLOW.out.trans (s1.mono HLOW.out.size)
  have hz1' := LO.out.size
  clear s1
  go_wp2
  go_loopg [8, 9] ln (fun gg u i wr => ∃ (k gd cd dl : Nat), k ≤ ln ∧ gg = ln - k ∧ u = .slice (some ⟨gd, 0, none⟩) dl cd ∧ i = .int .i64 k ∧ dl = (Rf.lostD m k L).length ∧ wr.ownsRow w1.heap.size 3 1 (.slice (some ⟨gd, 0, none⟩) dl cd) dl (placeVals (Rf.lostD m k L)) ∧ Below w1.heap.size w1 wr)
  case atStart => exact ⟨0, w1.heap.size, 0, 0, Nat.zero_le _, rfl, rfl, rfl, rfl, World.ownsRow_made w1 #[] 0 (Nat.le_refl _) (by decide) rfl, (Below.refl _ _).alloc (Nat.le_refl _) _⟩
  case round =>
    obtain ⟨k, gd, cd, dl, hk, rfl, rfl, rfl, hdl, od, hb⟩ := hrel
    have OD : Hid (wr.ownsRow w1.heap.size 3 1 (.slice (some ⟨gd, 0, none⟩) dl cd) dl (placeVals (Rf.lostD m k L))) := od
    have HB : Hid (Below w1.heap.size w1 wr) := hb
    have HDL : Hid (dl = (Rf.lostD m k L).length) := hdl
    have dl2 : dl ≤ 2 := by rw [hdl]; exact Nat.le_trans (Rf.lostD_length m k L) (by omega)
    have hsz := hb.size
    have LOW : Hid (Below w0.heap.size w0 wr) := LO.out.trans (hb.mono hz1')
    clear od hb hdl
    by_cases hkn : k < ln
    · obtain ⟨bb, bo, rfl, hc⟩ := HL.out k hkn
      have hc := (LOW.out.cell (p := ⟨bb, bo + k, none⟩) (World.block_lt_of_cell? w0 _ hc)).trans hc
      obtain ⟨v0, v1, _⟩ := HOK.out k hkn
      obtain ⟨y, hy⟩ := Int.eq_ofNat_of_zero_le v0
      rw [hy] at hc
      have HY : Hid (L k = (y : Int)) := hy
      by_cases hym : (y : Int) < (m : Int)
      · have E : Hid (Rf.lostD m (k + 1) L = Rf.lostD m k L ++ [y]) := by
          show _ = _; rw [Rf.lostD_yes (by rw [hy]; exact hym), hy]; rfl
        have t1 : True := trivial
        clear hy v0 v1
        go_wp2_with (at_builtin; have _t := t1; refine wpList_append_lies _ rfl _ _ 28 rfl w1.heap.size 3 i0 (.int .i64 0) 1 8 Tryz.underlying28 hi hz0 hz1 hz2 rfl (by decide) (.slice (some ⟨gd, 0, none⟩) dl cd) dl (placeVals (Rf.lostD m k L)) rfl (OD.out.alloc _) ⟨wr.heap.size, 0, none⟩ 1 1 [.int .i64 (y : Int)] rfl rfl (cell_one_new _ _ _) (by simp [Value.oneCell']) (by decide) (by unfold maxLen; omega) (by omega) (by simp; omega) _ rfl ?_; intro g1 c1 w3 own3 grow3 lies3 lt3; rw [placeVals_snoc, ← E.out] at own3; (have OD3 : Hid (w3.ownsRow w1.heap.size 3 1 (.slice (some ⟨g1, 0, none⟩) (dl + 1) c1) (dl + 1) (placeVals (Rf.lostD m (k + 1) L))) := own3); (have HB3 : Hid (Below w1.heap.size w1 w3) := HB.out.trans (below_append OD.out hsz grow3)); clear own3 grow3 lies3 lt3 t1)
        go_roundg (ln - (k + 1))
        case measure => omega
        case rel => exact ⟨k + 1, g1, c1, dl + 1, by omega, rfl, rfl, by go_num, by rw [E.out, List.length_append, HDL.out]; rfl, OD3.out, HB3.out⟩
      · have E : Hid (Rf.lostD m (k + 1) L = Rf.lostD m k L) := Rf.lostD_no (by rw [hy]; exact hym)
        clear hy v0 v1
        go_wp2
        go_roundg (ln - (k + 1))
        case measure => omega
        case rel => exact ⟨k + 1, gd, cd, dl, by omega, rfl, rfl, by go_num, by rw [E.out]; exact HDL.out, by rw [E.out]; exact OD.out, HB.out⟩
    · have hkk : k = ln := by omega
      subst hkk
      have MEM : Hid (∀ d, d ∈ Rf.lostD m k L → d < m) := fun d hd => (Rf.lostD_mem (fun i hi => (HOK.out i hi).1) hd).1
      have OBr : Hid (wr.ownsRow w0.heap.size 5 1 (.slice (some ⟨g, 0, none⟩) n cap) n (byteVals (bl n B))) := ownsRow_below OB.out HB.out
      have LOr : Hid (Below w0.heap.size w0 wr) := LOW.out
      obtain ⟨D, hD⟩ : ∃ D, Rf.lostD m k L = D := ⟨_, rfl⟩
      have HD : Hid (Rf.lostD m k L = D) := hD
      rw [hD] at OD HDL FIX MEM
      clear hD OB LO
      rcases D with _ | ⟨d, _ | ⟨e, _ | ⟨x, r⟩⟩⟩
      · have hdl0 : dl = 0 := HDL.out
        subst hdl0
        have OB := OBr
        have LO := LOr
        have FIX : Hid (R = Rf.fixPQ m B (Rf.hasF k L (m : Int)) (Rf.hasF k L ((m : Int) + 1))) := FIX.out
        go_wp2_with fail
        refine (sums_any m (B) hm g n cap HN.out _ (RowB.of_owns OB.out)).mono ?_
        rintro e v1 ⟨rfl, s1⟩
        have OB1 := ownsRow_below OB.out s1
        have LO1 : Below w0.heap.size w0 v1 := LO.out.trans (s1.mono LO.out.size)
        obtain ⟨P1, hP1⟩ : ∃ y, Rf.synP m (B) = y := ⟨_, rfl⟩
        obtain ⟨Q1, hQ1⟩ : ∃ y, Rf.synQ m (B) = y := ⟨_, rfl⟩
        have HP1 : Hid (Rf.synP m (B) = P1) := hP1
        have HQ1 : Hid (Rf.synQ m (B) = Q1) := hQ1
        rw [hP1, hQ1]
        have OB2 : Hid (v1.ownsRow w0.heap.size 5 1 (.slice (some ⟨g, 0, none⟩) n cap) n (byteVals (bl n (B)))) := OB1
        have LO2 : Hid (Below w0.heap.size w0 v1) := LO1
        have hA := HHAS (m : Int) v1 LO1
        clear s1 hP1 hQ1 OB1
        cases hp : Rf.hasF k L (m : Int) with
        | true =>
          rw [hp] at hA FIX
          clear hp
          go_wp2_with fail
          refine hA.mono ?_
          rintro e v2 ⟨rfl, hv2⟩
          subst v2
          have k1 : v1.cell? ⟨g, m, none⟩ = some (.int .u8 ((B m).toNat : Int)) := RowB.of_owns OB2.out m (by omega)
          have k2 : v1.frozen? ⟨g, m, none⟩ = false := OB2.out.frozenAt m
          obtain ⟨y, hy⟩ : ∃ y, B m = y := ⟨_, rfl⟩
          have HYy : Hid (B m = y) := hy
          rw [hy] at k1
          have x1 := u8_xor_bytes y P1
          have yl := y.toNat_lt
          obtain ⟨r, hr⟩ : ∃ r, y ^^^ P1 = r := ⟨_, rfl⟩
          have HRr : Hid (y ^^^ P1 = r) := hr
          rw [hr] at x1
          have OB3 : Hid ((v1.setCell ⟨g, m, none⟩ (.int .u8 (r.toNat : Int))).ownsRow w0.heap.size 5 1 (.slice (some ⟨g, 0, none⟩) n cap) n (byteVals (bl n (Gfm.upd (B) m r)))) := by
            have h := (OB2.out.stored m (.int .u8 (r.toNat : Int))).1
            rw [bl_set] at h
            exact h
          have LO3 : Hid (Below w0.heap.size w0 (v1.setCell ⟨g, m, none⟩ (.int .u8 (r.toNat : Int)))) := LO2.out.setCell (p := ⟨g, m, none⟩) HG.out _
          clear hy hr
          have hB := HHAS ((m : Int) + 1) _ LO3.out
          cases hq : Rf.hasF k L ((m : Int) + 1) with
          | true =>
            rw [hq] at hB FIX
            clear hq
            go_wp2_with fail
            refine hB.mono ?_
            rintro e v3 ⟨rfl, hv3⟩
            subst v3
            have j1 : (v1.setCell ⟨g, m, none⟩ (.int .u8 (r.toNat : Int))).cell? ⟨g, m + 1, none⟩ = some (.int .u8 ((B (m + 1)).toNat : Int)) := by have h := RowB.of_owns OB3.out (m + 1) (by omega); rw [Gfm.upd_other _ _ (by omega)] at h; exact h
            have j2 : (v1.setCell ⟨g, m, none⟩ (.int .u8 (r.toNat : Int))).frozen? ⟨g, m + 1, none⟩ = false := OB3.out.frozenAt (m + 1)
            obtain ⟨z, hz⟩ : ∃ z, B (m + 1) = z := ⟨_, rfl⟩
            have HZz : Hid (B (m + 1) = z) := hz
            rw [hz] at j1
            have x2 := u8_xor_bytes z Q1
            have zl := z.toNat_lt
            obtain ⟨t, ht⟩ : ∃ t, z ^^^ Q1 = t := ⟨_, rfl⟩
            have HTt : Hid (z ^^^ Q1 = t) := ht
            rw [ht] at x2
            have OB5 : Hid (((v1.setCell ⟨g, m, none⟩ (.int .u8 (r.toNat : Int))).setCell ⟨g, m + 1, none⟩ (.int .u8 (t.toNat : Int))).ownsRow w0.heap.size 5 1 (.slice (some ⟨g, 0, none⟩) n cap) n (byteVals (bl n (Gfm.upd (Gfm.upd (B) m r) (m + 1) t)))) := by
              have h := (OB3.out.stored (m + 1) (.int .u8 (t.toNat : Int))).1
              rw [bl_set] at h
              exact h
            have LO5 : Hid (Below w0.heap.size w0 ((v1.setCell ⟨g, m, none⟩ (.int .u8 (r.toNat : Int))).setCell ⟨g, m + 1, none⟩ (.int .u8 (t.toNat : Int)))) := LO3.out.setCell (p := ⟨g, m + 1, none⟩) HG.out _
            clear hz ht
            go_wp2
            go_ret
            refine ⟨rfl, ?_, LO5.out⟩
            rw [FIX.out, Rf.fixPQ_tt, HP1.out, HYy.out, HRr.out, HQ1.out, HZz.out, HTt.out]
            exact OB5.out
          | false =>
            rw [hq] at hB FIX
            clear hq
            go_wp2_with fail
            refine hB.mono ?_
            rintro e v3 ⟨rfl, hv3⟩
            subst v3
            go_wp2
            go_ret
            refine ⟨rfl, ?_, LO3.out⟩
            rw [FIX.out, Rf.fixPQ_tf, HP1.out, HYy.out, HRr.out]
            exact OB3.out
        | false =>
          rw [hp] at hA FIX
          clear hp
          go_wp2_with fail
          refine hA.mono ?_
          rintro e v2 ⟨rfl, hv2⟩
          subst v2
          have hB := HHAS ((m : Int) + 1) _ LO2.out
          cases hq : Rf.hasF k L ((m : Int) + 1) with
          | true =>
            rw [hq] at hB FIX
            clear hq
            go_wp2_with fail
            refine hB.mono ?_
            rintro e v3 ⟨rfl, hv3⟩
            subst v3
            have j1 : v1.cell? ⟨g, m + 1, none⟩ = some (.int .u8 ((B (m + 1)).toNat : Int)) := RowB.of_owns OB2.out (m + 1) (by omega)
            have j2 : v1.frozen? ⟨g, m + 1, none⟩ = false := OB2.out.frozenAt (m + 1)
            obtain ⟨z, hz⟩ : ∃ z, B (m + 1) = z := ⟨_, rfl⟩
            have HZz : Hid (B (m + 1) = z) := hz
            rw [hz] at j1
            have x2 := u8_xor_bytes z Q1
            have zl := z.toNat_lt
            obtain ⟨t, ht⟩ : ∃ t, z ^^^ Q1 = t := ⟨_, rfl⟩
            have HTt : Hid (z ^^^ Q1 = t) := ht
            rw [ht] at x2
            have OB5 : Hid ((v1.setCell ⟨g, m + 1, none⟩ (.int .u8 (t.toNat : Int))).ownsRow w0.heap.size 5 1 (.slice (some ⟨g, 0, none⟩) n cap) n (byteVals (bl n (Gfm.upd (B) (m + 1) t)))) := by
              have h := (OB2.out.stored (m + 1) (.int .u8 (t.toNat : Int))).1
              rw [bl_set] at h
              exact h
            have LO5 : Hid (Below w0.heap.size w0 (v1.setCell ⟨g, m + 1, none⟩ (.int .u8 (t.toNat : Int)))) := LO2.out.setCell (p := ⟨g, m + 1, none⟩) HG.out _
            clear hz ht
            go_wp2
            go_ret
            refine ⟨rfl, ?_, LO5.out⟩
            rw [FIX.out, Rf.fixPQ_ft, HQ1.out, HZz.out, HTt.out]
            exact OB5.out
          | false =>
            rw [hq] at hB FIX
            clear hq
            go_wp2_with fail
            refine hB.mono ?_
            rintro e v3 ⟨rfl, hv3⟩
            subst v3
            go_wp2
            go_ret
            refine ⟨rfl, ?_, LO2.out⟩
            rw [FIX.out, Rf.fixPQ_ff]
            exact OB2.out
      · have hdl1 : dl = 1 := HDL.out
        subst hdl1
        have hdm : d < m := MEM.out d (by simp)
        have hdn : d < n := by omega
        have cd0 : wr.cell? ⟨gd, 0, none⟩ = some (.int .i64 (d : Int)) := OD.out.cellAt 0 (by omega)
        have hA9 := HHAS (m : Int) wr LOW.out
        cases hp : Rf.hasF k L (m : Int) with
        | false =>
          have HPK : Hid (Rf.hasF k L (m : Int) = false) := hp
          have FIX : Hid (R = Rf.fixPQ m (Gfm.upd B d P) (Rf.hasF k L (m : Int)) (Rf.hasF k L ((m : Int) + 1))) := by
            show _ = _; rw [FIX.out, HPK.out, ← HP.out]; rfl
          rw [hp] at hA9
          have kd1 : wr.cell? ⟨g, d, none⟩ = some (.int .u8 ((B d).toNat : Int)) := RowB.of_owns OBr.out d hdn
          have kd2 : wr.frozen? ⟨g, d, none⟩ = false := OBr.out.frozenAt d
          have OB : Hid ((wr.setCell ⟨g, d, none⟩ (.int .u8 (P.toNat : Int))).ownsRow w0.heap.size 5 1 (.slice (some ⟨g, 0, none⟩) n cap) n (byteVals (bl n (Gfm.upd B d P)))) := by
            have h := (OBr.out.stored d (.int .u8 (P.toNat : Int))).1
            rw [bl_set] at h
            exact h
          have LO : Hid (Below w0.heap.size w0 (wr.setCell ⟨g, d, none⟩ (.int .u8 (P.toNat : Int)))) := LOW.out.setCell (p := ⟨g, d, none⟩) HG.out _
          clear hp
          go_wp2_with fail
          refine hA9.mono ?_
          rintro e v0 ⟨rfl, hv0⟩
          subst v0
          clear hA9
          go_wp2_with fail
          refine (sums_any m (Gfm.upd B d P) hm g n cap HN.out _ (RowB.of_owns OB.out)).mono ?_
          rintro e v1 ⟨rfl, s1⟩
          have OB1 := ownsRow_below OB.out s1
          have LO1 : Below w0.heap.size w0 v1 := LO.out.trans (s1.mono LO.out.size)
          obtain ⟨P1, hP1⟩ : ∃ y, Rf.synP m (Gfm.upd B d P) = y := ⟨_, rfl⟩
          obtain ⟨Q1, hQ1⟩ : ∃ y, Rf.synQ m (Gfm.upd B d P) = y := ⟨_, rfl⟩
          have HP1 : Hid (Rf.synP m (Gfm.upd B d P) = P1) := hP1
          have HQ1 : Hid (Rf.synQ m (Gfm.upd B d P) = Q1) := hQ1
          rw [hP1, hQ1]
          have OB2 : Hid (v1.ownsRow w0.heap.size 5 1 (.slice (some ⟨g, 0, none⟩) n cap) n (byteVals (bl n (Gfm.upd B d P)))) := OB1
          have LO2 : Hid (Below w0.heap.size w0 v1) := LO1
          have hA := HHAS (m : Int) v1 LO1
          clear s1 hP1 hQ1 OB1
          rw [HPK.out] at hA FIX
          go_wp2_with fail
          refine hA.mono ?_
          rintro e v2 ⟨rfl, hv2⟩
          subst v2
          have hB := HHAS ((m : Int) + 1) _ LO2.out
          cases hq : Rf.hasF k L ((m : Int) + 1) with
          | true =>
            rw [hq] at hB FIX
            clear hq
            go_wp2_with fail
            refine hB.mono ?_
            rintro e v3 ⟨rfl, hv3⟩
            subst v3
            have j1 : v1.cell? ⟨g, m + 1, none⟩ = some (.int .u8 ((Gfm.upd B d P (m + 1)).toNat : Int)) := RowB.of_owns OB2.out (m + 1) (by omega)
            have j2 : v1.frozen? ⟨g, m + 1, none⟩ = false := OB2.out.frozenAt (m + 1)
            obtain ⟨z, hz⟩ : ∃ z, Gfm.upd B d P (m + 1) = z := ⟨_, rfl⟩
            have HZz : Hid (Gfm.upd B d P (m + 1) = z) := hz
            rw [hz] at j1
            have x2 := u8_xor_bytes z Q1
            have zl := z.toNat_lt
            obtain ⟨t, ht⟩ : ∃ t, z ^^^ Q1 = t := ⟨_, rfl⟩
            have HTt : Hid (z ^^^ Q1 = t) := ht
            rw [ht] at x2
            have OB5 : Hid ((v1.setCell ⟨g, m + 1, none⟩ (.int .u8 (t.toNat : Int))).ownsRow w0.heap.size 5 1 (.slice (some ⟨g, 0, none⟩) n cap) n (byteVals (bl n (Gfm.upd (Gfm.upd B d P) (m + 1) t)))) := by
              have h := (OB2.out.stored (m + 1) (.int .u8 (t.toNat : Int))).1
              rw [bl_set] at h
              exact h
            have LO5 : Hid (Below w0.heap.size w0 (v1.setCell ⟨g, m + 1, none⟩ (.int .u8 (t.toNat : Int)))) := LO2.out.setCell (p := ⟨g, m + 1, none⟩) HG.out _
            clear hz ht
            go_wp2
            go_ret
            refine ⟨rfl, ?_, LO5.out⟩
            rw [FIX.out, Rf.fixPQ_ft, HQ1.out, HZz.out, HTt.out]
            exact OB5.out
          | false =>
            rw [hq] at hB FIX
            clear hq
            go_wp2_with fail
            refine hB.mono ?_
            rintro e v3 ⟨rfl, hv3⟩
            subst v3
            go_wp2
            go_ret
            refine ⟨rfl, ?_, LO2.out⟩
            rw [FIX.out, Rf.fixPQ_ff]
            exact OB2.out
        | true =>
          have HPK : Hid (Rf.hasF k L (m : Int) = true) := hp
          obtain ⟨S, hS⟩ : ∃ S, Rf.solve1 d Q = S := ⟨_, rfl⟩
          have HS : Hid (Rf.solve1 d Q = S) := hS
          have FIX : Hid (R = Rf.fixPQ m (Gfm.upd B d S) (Rf.hasF k L (m : Int)) (Rf.hasF k L ((m : Int) + 1))) := by
            show _ = _; rw [FIX.out, HPK.out, ← HS.out, ← HQ.out]; rfl
          rw [hp] at hA9
          clear hp hS
          go_wp2_with fail
          refine hA9.mono ?_
          rintro e v0 ⟨rfl, hv0⟩
          subst v0
          clear hA9
          go_wp2
          go_loopg [10] 256 (fun gg i wr => ∃ x : Nat, x ≤ 256 ∧ gg = 256 - x ∧ i = .int .i64 x ∧ wr.ownsRow w0.heap.size 5 1 (.slice (some ⟨g, 0, none⟩) n cap) n (byteVals (bl n (Rf.tried S B (Gfm.upd B d S) x))) ∧ wr.ownsRow w1.heap.size 3 1 (.slice (some ⟨gd, 0, none⟩) 1 cd) 1 (placeVals [d]) ∧ Below w0.heap.size w0 wr)
          case atStart => exact ⟨0, by omega, rfl, rfl, by rw [Rf.tried_zero]; exact OBr.out, OD.out, LOr.out⟩
          case round =>
            obtain ⟨x, hx, rfl, rfl, ob, od, lo⟩ := hrel
            have OBx : Hid (wr.ownsRow w0.heap.size 5 1 (.slice (some ⟨g, 0, none⟩) n cap) n (byteVals (bl n (Rf.tried S B (Gfm.upd B d S) x)))) := ob
            have ODx : Hid (wr.ownsRow w1.heap.size 3 1 (.slice (some ⟨gd, 0, none⟩) 1 cd) 1 (placeVals [d])) := od
            have LOx : Hid (Below w0.heap.size w0 wr) := lo
            have cdx : wr.cell? ⟨gd, 0, none⟩ = some (.int .i64 (d : Int)) := od.cellAt 0 (by omega)
            clear ob od lo cd0
            by_cases h256 : x < 256
            · have hE : ∀ W, Calls Tryz.prog 64 #[.int .i64 (d : Int)] W fun e w' => e = .returned (.int .u8 (Gfm.pE d : Nat)) ∧ w' = W := fun W => refExp_any (d : Int) W
              have hM := fun W => refMul_any x (Gfm.pE d) h256 (Gfm.pE_lt d) W
              have hpl := Gfm.pE_lt d
              have hml : Gfm.mul x (Gfm.pE d) < 256 := Gfm.mul_lt h256
              have hval : Gfm.mul x (Gfm.pE d) = (Gfm.mulU (UInt8.ofNat x) (Gfm.pE d)).toNat := by rw [Gfm.mulU_toNat, Rf.ofNat_lt h256]
              by_cases hit : x = S.toNat
              · have e9 : ((Gfm.mul x (Gfm.pE d) : Nat) : Int) = (Q.toNat : Int) := by
                  rw [hval, Rf.of_toNat hit, (Rf.solve1_iff d S Q).2 HS.out.symm]
                have hq9 : (((Gfm.mul x (Gfm.pE d) : Nat) : Int) == (Q.toNat : Int)) = true := by rw [beq_iff_eq]; exact e9
                have HT : Hid (Rf.tried S B (Gfm.upd B d S) x = B ∧ Rf.tried S B (Gfm.upd B d S) (x + 1) = Gfm.upd B d S) := Rf.tried_hit S _ _ hit
                have kd1 : wr.cell? ⟨g, d, none⟩ = some (.int .u8 (((Rf.tried S B (Gfm.upd B d S) x) d).toNat : Int)) := RowB.of_owns OBx.out d hdn
                have kd2 : wr.frozen? ⟨g, d, none⟩ = false := OBx.out.frozenAt d
                have st := OBx.out.stored d (.int .u8 (S.toNat : Int))
                rw [bl_set, HT.out.1] at st
                have OBy : Hid ((wr.setCell ⟨g, d, none⟩ (.int .u8 (x : Int))).ownsRow w0.heap.size 5 1 (.slice (some ⟨g, 0, none⟩) n cap) n (byteVals (bl n (Rf.tried S B (Gfm.upd B d S) (x + 1))))) := by
                  show World.ownsRow _ _ _ _ _ _ _; rw [HT.out.2, hit]; exact st.1
                have ODy : Hid ((wr.setCell ⟨g, d, none⟩ (.int .u8 (x : Int))).ownsRow w1.heap.size 3 1 (.slice (some ⟨gd, 0, none⟩) 1 cd) 1 (placeVals [d])) := by
                  show World.ownsRow _ _ _ _ _ _ _; rw [hit]; exact ODx.out.kept st.2 (ownsRow_apart ODx.out OBx.out (by decide))
                have LOy : Hid (Below w0.heap.size w0 (wr.setCell ⟨g, d, none⟩ (.int .u8 (x : Int)))) := LOx.out.setCell (p := ⟨g, d, none⟩) HG.out _
                clear hval e9 hit st
                obtain ⟨z, hz⟩ : ∃ z, Gfm.mul x (Gfm.pE d) = z := ⟨_, rfl⟩
                obtain ⟨t, ht⟩ : ∃ t, Gfm.pE d = t := ⟨_, rfl⟩
                rw [hz] at hM hq9 hml
                rw [ht] at hE hM hpl
                clear hz ht
                go_wp2_with fail
                refine (hE _).mono ?_
                rintro e v3 ⟨rfl, hv3⟩
                subst v3
                go_wp2_with fail
                refine (hM _).mono ?_
                rintro e v3 ⟨rfl, hv3⟩
                subst v3
                go_wp2
                go_roundg (256 - (x + 1))
                case measure => omega
                case rel => exact ⟨x + 1, by omega, rfl, by go_num, OBy.out, ODy.out, LOy.out⟩
              · have hq9 : (((Gfm.mul x (Gfm.pE d) : Nat) : Int) == (Q.toNat : Int)) = false := by
                  rw [beq_eq_false_iff_ne]; intro h
                  have h2 : Gfm.mulU (UInt8.ofNat x) (Gfm.pE d) = Q := UInt8.toNat_inj.1 (by rw [← hval]; omega)
                  have h3 := (Rf.solve1_iff d _ Q).1 h2
                  rw [HS.out] at h3
                  exact hit (by rw [← h3, Rf.ofNat_lt h256])
                have OBy : Hid (wr.ownsRow w0.heap.size 5 1 (.slice (some ⟨g, 0, none⟩) n cap) n (byteVals (bl n (Rf.tried S B (Gfm.upd B d S) (x + 1))))) := by
                  show World.ownsRow _ _ _ _ _ _ _; rw [Rf.tried_miss S _ _ hit]; exact OBx.out
                clear hval hit
                obtain ⟨z, hz⟩ : ∃ z, Gfm.mul x (Gfm.pE d) = z := ⟨_, rfl⟩
                obtain ⟨t, ht⟩ : ∃ t, Gfm.pE d = t := ⟨_, rfl⟩
                rw [hz] at hM hq9 hml
                rw [ht] at hE hM hpl
                clear hz ht
                go_wp2_with fail
                refine (hE _).mono ?_
                rintro e v3 ⟨rfl, hv3⟩
                subst v3
                go_wp2_with fail
                refine (hM _).mono ?_
                rintro e v3 ⟨rfl, hv3⟩
                subst v3
                go_wp2
                go_roundg (256 - (x + 1))
                case measure => omega
                case rel => exact ⟨x + 1, by omega, rfl, by go_num, OBy.out, ODx.out, LOx.out⟩
            · have hxx : x = 256 := by omega
              subst hxx
              have OB : Hid (wr.ownsRow w0.heap.size 5 1 (.slice (some ⟨g, 0, none⟩) n cap) n (byteVals (bl n (Gfm.upd B d S)))) := by
                show World.ownsRow _ _ _ _ _ _ _; have h := OBx.out; rw [Rf.tried_all] at h; exact h
              have LO := LOx
              go_wp2_with fail
              refine (sums_any m (Gfm.upd B d S) hm g n cap HN.out _ (RowB.of_owns OB.out)).mono ?_
              rintro e v1 ⟨rfl, s1⟩
              have OB1 := ownsRow_below OB.out s1
              have LO1 : Below w0.heap.size w0 v1 := LO.out.trans (s1.mono LO.out.size)
              obtain ⟨P1, hP1⟩ : ∃ y, Rf.synP m (Gfm.upd B d S) = y := ⟨_, rfl⟩
              obtain ⟨Q1, hQ1⟩ : ∃ y, Rf.synQ m (Gfm.upd B d S) = y := ⟨_, rfl⟩
              have HP1 : Hid (Rf.synP m (Gfm.upd B d S) = P1) := hP1
              have HQ1 : Hid (Rf.synQ m (Gfm.upd B d S) = Q1) := hQ1
              rw [hP1, hQ1]
              have OB2 : Hid (v1.ownsRow w0.heap.size 5 1 (.slice (some ⟨g, 0, none⟩) n cap) n (byteVals (bl n (Gfm.upd B d S)))) := OB1
              have LO2 : Hid (Below w0.heap.size w0 v1) := LO1
              have hA := HHAS (m : Int) v1 LO1
              clear s1 hP1 hQ1 OB1
              rw [HPK.out] at hA FIX
              go_wp2_with fail
              refine hA.mono ?_
              rintro e v2 ⟨rfl, hv2⟩
              subst v2
              have k1 : v1.cell? ⟨g, m, none⟩ = some (.int .u8 ((Gfm.upd B d S m).toNat : Int)) := RowB.of_owns OB2.out m (by omega)
              have k2 : v1.frozen? ⟨g, m, none⟩ = false := OB2.out.frozenAt m
              obtain ⟨y, hy⟩ : ∃ y, Gfm.upd B d S m = y := ⟨_, rfl⟩
              have HYy : Hid (Gfm.upd B d S m = y) := hy
              rw [hy] at k1
              have x1 := u8_xor_bytes y P1
              have yl := y.toNat_lt
              obtain ⟨r, hr⟩ : ∃ r, y ^^^ P1 = r := ⟨_, rfl⟩
              have HRr : Hid (y ^^^ P1 = r) := hr
              rw [hr] at x1
              have OB3 : Hid ((v1.setCell ⟨g, m, none⟩ (.int .u8 (r.toNat : Int))).ownsRow w0.heap.size 5 1 (.slice (some ⟨g, 0, none⟩) n cap) n (byteVals (bl n (Gfm.upd (Gfm.upd B d S) m r)))) := by
                have h := (OB2.out.stored m (.int .u8 (r.toNat : Int))).1
                rw [bl_set] at h
                exact h
              have LO3 : Hid (Below w0.heap.size w0 (v1.setCell ⟨g, m, none⟩ (.int .u8 (r.toNat : Int)))) := LO2.out.setCell (p := ⟨g, m, none⟩) HG.out _
              clear hy hr
              have hB := HHAS ((m : Int) + 1) _ LO3.out
              cases hq : Rf.hasF k L ((m : Int) + 1) with
              | true =>
                rw [hq] at hB FIX
                clear hq
                go_wp2_with fail
                refine hB.mono ?_
                rintro e v3 ⟨rfl, hv3⟩
                subst v3
                have j1 : (v1.setCell ⟨g, m, none⟩ (.int .u8 (r.toNat : Int))).cell? ⟨g, m + 1, none⟩ = some (.int .u8 ((Gfm.upd B d S (m + 1)).toNat : Int)) := by have h := RowB.of_owns OB3.out (m + 1) (by omega); rw [Gfm.upd_other _ _ (by omega)] at h; exact h
                have j2 : (v1.setCell ⟨g, m, none⟩ (.int .u8 (r.toNat : Int))).frozen? ⟨g, m + 1, none⟩ = false := OB3.out.frozenAt (m + 1)
                obtain ⟨z, hz⟩ : ∃ z, Gfm.upd B d S (m + 1) = z := ⟨_, rfl⟩
                have HZz : Hid (Gfm.upd B d S (m + 1) = z) := hz
                rw [hz] at j1
                have x2 := u8_xor_bytes z Q1
                have zl := z.toNat_lt
                obtain ⟨t, ht⟩ : ∃ t, z ^^^ Q1 = t := ⟨_, rfl⟩
                have HTt : Hid (z ^^^ Q1 = t) := ht
                rw [ht] at x2
                have OB5 : Hid (((v1.setCell ⟨g, m, none⟩ (.int .u8 (r.toNat : Int))).setCell ⟨g, m + 1, none⟩ (.int .u8 (t.toNat : Int))).ownsRow w0.heap.size 5 1 (.slice (some ⟨g, 0, none⟩) n cap) n (byteVals (bl n (Gfm.upd (Gfm.upd (Gfm.upd B d S) m r) (m + 1) t)))) := by
                  have h := (OB3.out.stored (m + 1) (.int .u8 (t.toNat : Int))).1
                  rw [bl_set] at h
                  exact h
                have LO5 : Hid (Below w0.heap.size w0 ((v1.setCell ⟨g, m, none⟩ (.int .u8 (r.toNat : Int))).setCell ⟨g, m + 1, none⟩ (.int .u8 (t.toNat : Int)))) := LO3.out.setCell (p := ⟨g, m + 1, none⟩) HG.out _
                clear hz ht
                go_wp2
                go_ret
                refine ⟨rfl, ?_, LO5.out⟩
                rw [FIX.out, Rf.fixPQ_tt, HP1.out, HYy.out, HRr.out, HQ1.out, HZz.out, HTt.out]
                exact OB5.out
              | false =>
                rw [hq] at hB FIX
                clear hq
                go_wp2_with fail
                refine hB.mono ?_
                rintro e v3 ⟨rfl, hv3⟩
                subst v3
                go_wp2
                go_ret
                refine ⟨rfl, ?_, LO3.out⟩
                rw [FIX.out, Rf.fixPQ_tf, HP1.out, HYy.out, HRr.out]
                exact OB3.out
      · have hdl2 : dl = 2 := HDL.out
        subst hdl2
        have hdm : d < m := MEM.out d (by simp)
        have hem : e < m := MEM.out e (by simp)
        have hdn : d < n := by omega
        have hen : e < n := by omega
        have hde : d ≠ e := Rf.lostD_two hln HOK.out HD.out
        obtain ⟨S, hS⟩ : ∃ S, Rf.solve2 d e P Q = S := ⟨_, rfl⟩
        have HS : Hid (Rf.solve2 d e P Q = S) := hS
        obtain ⟨C, hC⟩ : ∃ C, Gfm.upd (Gfm.upd B d S) e (S ^^^ P) = C := ⟨_, rfl⟩
        have HC : Hid (Gfm.upd (Gfm.upd B d S) e (S ^^^ P) = C) := hC
        have FIX : Hid (R = Rf.fixPQ m C (Rf.hasF k L (m : Int)) (Rf.hasF k L ((m : Int) + 1))) := by
          show _ = _; rw [FIX.out, ← HC.out, ← HS.out, ← HQ.out, ← HP.out]; rfl
        have SOLVE : Hid (∀ X : UInt8, Gfm.mulU X (Gfm.pE d) ^^^ Gfm.mulU (X ^^^ P) (Gfm.pE e) = Q ↔ X = S) := fun X => by
          rw [← HS.out]; exact Rf.solve2_iff hde (by omega) (by omega) X P Q
        clear hS hC
        go_wp2
        go_loopg [11, 12] 256 (fun gg i _ wr => ∃ x : Nat, x ≤ 256 ∧ gg = 256 - x ∧ i = .int .i64 x ∧ wr.ownsRow w0.heap.size 5 1 (.slice (some ⟨g, 0, none⟩) n cap) n (byteVals (bl n (Rf.tried S B C x))) ∧ wr.ownsRow w1.heap.size 3 1 (.slice (some ⟨gd, 0, none⟩) 2 cd) 2 (placeVals [d, e]) ∧ Below w0.heap.size w0 wr)
        case atStart => exact ⟨0, by omega, rfl, rfl, by rw [Rf.tried_zero]; exact OBr.out, OD.out, LOr.out⟩
        case round =>
          obtain ⟨x, hx, rfl, rfl, ob, od, lo⟩ := hrel
          have OBx : Hid (wr.ownsRow w0.heap.size 5 1 (.slice (some ⟨g, 0, none⟩) n cap) n (byteVals (bl n (Rf.tried S B C x)))) := ob
          have ODx : Hid (wr.ownsRow w1.heap.size 3 1 (.slice (some ⟨gd, 0, none⟩) 2 cd) 2 (placeVals [d, e])) := od
          have LOx : Hid (Below w0.heap.size w0 wr) := lo
          have cdx : wr.cell? ⟨gd, 0, none⟩ = some (.int .i64 (d : Int)) := od.cellAt 0 (by omega)
          have cdy : wr.cell? ⟨gd, 1, none⟩ = some (.int .i64 (e : Int)) := od.cellAt 1 (by omega)
          clear ob od lo
          by_cases h256 : x < 256
          · obtain ⟨X, hX⟩ : ∃ X : UInt8, x = X.toNat := ⟨UInt8.ofNat x, (Rf.ofNat_lt h256).symm⟩
            subst hX
            have x1 := u8_xor_bytes X P
            have hE1 : ∀ W, Calls Tryz.prog 64 #[.int .i64 (d : Int)] W fun e w' => e = .returned (.int .u8 (Gfm.pE d : Nat)) ∧ w' = W := fun W => refExp_any (d : Int) W
            have hE2 : ∀ W, Calls Tryz.prog 64 #[.int .i64 (e : Int)] W fun e' w' => e' = .returned (.int .u8 (Gfm.pE e : Nat)) ∧ w' = W := fun W => refExp_any (e : Int) W
            have hM1 := fun W => refMul_u8 X (Gfm.pE d) (Gfm.pE_lt d) W
            have hM2 := fun W => refMul_u8 (X ^^^ P) (Gfm.pE e) (Gfm.pE_lt e) W
            have x2 := u8_xor_bytes (Gfm.mulU X (Gfm.pE d)) (Gfm.mulU (X ^^^ P) (Gfm.pE e))
            have hp1 := Gfm.pE_lt d
            have hp2 := Gfm.pE_lt e
            have SX := SOLVE.out X
            obtain ⟨Y, hY⟩ : ∃ Y, X ^^^ P = Y := ⟨_, rfl⟩
            have HYx : Hid (X ^^^ P = Y) := hY
            rw [hY] at x1 hM2 x2 SX
            obtain ⟨M1, hM1e⟩ : ∃ y, Gfm.mulU X (Gfm.pE d) = y := ⟨_, rfl⟩
            obtain ⟨M2, hM2e⟩ : ∃ y, Gfm.mulU Y (Gfm.pE e) = y := ⟨_, rfl⟩
            rw [hM1e] at hM1 x2 SX
            rw [hM2e] at hM2 x2 SX
            obtain ⟨Z, hZ⟩ : ∃ y, M1 ^^^ M2 = y := ⟨_, rfl⟩
            rw [hZ] at x2 SX
            obtain ⟨t1, ht1⟩ : ∃ t, Gfm.pE d = t := ⟨_, rfl⟩
            obtain ⟨t2, ht2⟩ : ∃ t, Gfm.pE e = t := ⟨_, rfl⟩
            rw [ht1] at hE1 hM1 hp1
            rw [ht2] at hE2 hM2 hp2
            have Xl := X.toNat_lt
            have wX : IntKind.u8.wrap (X.toNat : Int) = (X.toNat : Int) := by rw [IntKind.wrap_u8]; omega
            have Yl := Y.toNat_lt
            have M1l := M1.toNat_lt
            have M2l := M2.toNat_lt
            have Zl := Z.toNat_lt
            have hS0 : wr.cell? ⟨gd, 0, none⟩ = some (.int .i64 (d : Int)) ∧ wr.cell? ⟨gd, 1, none⟩ = some (.int .i64 (e : Int)) ∧ Below wr.heap.size wr wr.drew := ⟨cdx, cdy, (Below.refl _ _).drew⟩
            have hsx := LOx.out.size
            clear hY hM1e hM2e hZ ht1 ht2
            by_cases hit : X = S
            · have hq9 : ((Z.toNat : Int) == (Q.toNat : Int)) = true := by rw [beq_iff_eq, SX.2 hit]
              have HT : Hid (Rf.tried S B C X.toNat = B ∧ Rf.tried S B C (X.toNat + 1) = C) := Rf.tried_hit S _ _ (by rw [hit])
              have HXS : Hid (X = S) := hit
              clear SX hit
              go_wp2_with fail
              refine region_det (fun W => W.cell? ⟨gd, 0, none⟩ = some (.int .i64 (d : Int)) ∧ W.cell? ⟨gd, 1, none⟩ = some (.int .i64 (e : Int)) ∧ Below wr.heap.size wr W) HMX.out (by kernel_rfl) hS0 ?_
              refine det_read 0 (v := ?vx1) rfl (by kernel_rfl) rfl ?hyx1 ?restx1
              case hyx1 => (intro wS hSw; (try dsimp only at hSw); go_simp; try with_reducible rfl)
              try simp only [Act.put, List.setIfInBounds_toArray, List.set_cons_zero, List.set_cons_succ]
              refine det_read 1 (v := ?vx2) rfl (by kernel_rfl) rfl ?hyx2 ?restx2
              case hyx2 => (intro wS hSw; (try dsimp only at hSw); go_simp; try with_reducible rfl)
              try simp only [Act.put, List.setIfInBounds_toArray, List.set_cons_zero, List.set_cons_succ]
              refine det_read 2 (v := ?vx3) rfl (by kernel_rfl) rfl ?hyx3 ?restx3
              case hyx3 => (intro wS hSw; (try dsimp only at hSw); go_simp; try with_reducible rfl)
              try simp only [Act.put, List.setIfInBounds_toArray, List.set_cons_zero, List.set_cons_succ]
              refine det_read 3 (v := ?vx4) rfl (by kernel_rfl) rfl ?hyx4 ?restx4
              case hyx4 => (intro wS hSw; (try dsimp only at hSw); go_simp; try with_reducible rfl)
              try simp only [Act.put, List.setIfInBounds_toArray, List.set_cons_zero, List.set_cons_succ]
              refine det_read 4 (v := ?vx5) rfl (by kernel_rfl) rfl ?hyx5 ?restx5
              case hyx5 => (intro wS hSw; (try dsimp only at hSw); go_simp; try with_reducible rfl)
              try simp only [Act.put, List.setIfInBounds_toArray, List.set_cons_zero, List.set_cons_succ]
              refine det_call 5 rfl (by kernel_rfl) rfl ?hyx25 (fun W h => (hE1 W).mono fun _ _ ⟨e, hw⟩ => ⟨e, by rw [hw]; exact h⟩) ?restx25
              case hyx25 => (intro wS hSw; go_simp; try with_reducible rfl)
              try simp only [Act.put, List.setIfInBounds_toArray, List.set_cons_zero, List.set_cons_succ]
              refine det_call 6 rfl (by kernel_rfl) rfl ?hyx26 (fun W h => (hM1 W).mono fun _ _ ⟨e, hw⟩ => ⟨e, by rw [hw]; exact h⟩) ?restx26
              case hyx26 => (intro wS hSw; go_simp; try with_reducible rfl)
              try simp only [Act.put, List.setIfInBounds_toArray, List.set_cons_zero, List.set_cons_succ]
              refine det_read 7 (v := ?vx6) rfl (by kernel_rfl) rfl ?hyx6 ?restx6
              case hyx6 => (intro wS hSw; (try dsimp only at hSw); go_simp; try with_reducible rfl)
              try simp only [Act.put, List.setIfInBounds_toArray, List.set_cons_zero, List.set_cons_succ]
              refine det_read 8 (v := ?vx7) rfl (by kernel_rfl) rfl ?hyx7 ?restx7
              case hyx7 => (intro wS hSw; (try dsimp only at hSw); go_simp; try with_reducible rfl)
              try simp only [Act.put, List.setIfInBounds_toArray, List.set_cons_zero, List.set_cons_succ]
              refine det_read 9 (v := ?vx8) rfl (by kernel_rfl) rfl ?hyx8 ?restx8
              case hyx8 => (intro wS hSw; (try dsimp only at hSw); go_simp; try with_reducible rfl)
              try simp only [Act.put, List.setIfInBounds_toArray, List.set_cons_zero, List.set_cons_succ]
              refine det_read 10 (v := ?vx9) rfl (by kernel_rfl) rfl ?hyx9 ?restx9
              case hyx9 => (intro wS hSw; (try dsimp only at hSw); go_simp; try with_reducible rfl)
              try simp only [Act.put, List.setIfInBounds_toArray, List.set_cons_zero, List.set_cons_succ]
              refine det_call 11 rfl (by kernel_rfl) rfl ?hyx27 (fun W h => (hE2 W).mono fun _ _ ⟨e, hw⟩ => ⟨e, by rw [hw]; exact h⟩) ?restx27
              case hyx27 => (intro wS hSw; go_simp; try with_reducible rfl)
              try simp only [Act.put, List.setIfInBounds_toArray, List.set_cons_zero, List.set_cons_succ]
              refine det_call 12 rfl (by kernel_rfl) rfl ?hyx28 (fun W h => (hM2 W).mono fun _ _ ⟨e, hw⟩ => ⟨e, by rw [hw]; exact h⟩) ?restx28
              case hyx28 => (intro wS hSw; go_simp; try with_reducible rfl)
              try simp only [Act.put, List.setIfInBounds_toArray, List.set_cons_zero, List.set_cons_succ]
              refine det_read 13 (v := ?vx10) rfl (by kernel_rfl) rfl ?hyx10 ?restx10
              case hyx10 => (intro wS hSw; (try dsimp only at hSw); go_simp; try with_reducible rfl)
              try simp only [Act.put, List.setIfInBounds_toArray, List.set_cons_zero, List.set_cons_succ]
              refine det_read 14 (v := ?vx11) rfl (by kernel_rfl) rfl ?hyx11 ?restx11
              case hyx11 => (intro wS hSw; (try dsimp only at hSw); go_simp; try with_reducible rfl)
              try simp only [Act.put, List.setIfInBounds_toArray, List.set_cons_zero, List.set_cons_succ]
              refine det_read 15 (v := ?vx12) rfl (by kernel_rfl) rfl ?hyx12 ?restx12
              case hyx12 => (intro wS hSw; (try dsimp only at hSw); go_simp; try with_reducible rfl)
              try simp only [Act.put, List.setIfInBounds_toArray, List.set_cons_zero, List.set_cons_succ]
              refine det_done (by kernel_rfl) ?_
              rintro v2 ⟨c0, c1, bW⟩
              have OBv := ownsRow_below OBx.out bW
              have ODv := ownsRow_below ODx.out bW
              have LOv : Below w0.heap.size w0 v2 := LOx.out.trans (bW.mono hsx)
              rw [HT.out.1] at OBv
              have kd1 : v2.cell? ⟨g, d, none⟩ = some (.int .u8 ((B d).toNat : Int)) := RowB.of_owns OBv d hdn
              have kd2 : v2.frozen? ⟨g, d, none⟩ = false := OBv.frozenAt d
              have st := OBv.stored d (.int .u8 (X.toNat : Int))
              rw [bl_set] at st
              have ODw := ODv.kept st.2 (ownsRow_apart ODv OBv (by decide))
              obtain ⟨u1, hu1⟩ : ∃ u1, v2.setCell ⟨g, d, none⟩ (.int .u8 (X.toNat : Int)) = u1 := ⟨_, rfl⟩
              have st1 := st.1
              have c1' : (v2.setCell ⟨g, d, none⟩ (.int .u8 (X.toNat : Int))).cell? ⟨gd, 1, none⟩ = some (.int .i64 (e : Int)) := ODw.cellAt 1 (by omega)
              have ke1 : (v2.setCell ⟨g, d, none⟩ (.int .u8 (X.toNat : Int))).cell? ⟨g, e, none⟩ = some (.int .u8 (((Gfm.upd B d X) e).toNat : Int)) := RowB.of_owns st1 e hen
              have ke2 : (v2.setCell ⟨g, d, none⟩ (.int .u8 (X.toNat : Int))).frozen? ⟨g, e, none⟩ = false := st1.frozenAt e
              have st2 := st1.stored e (.int .u8 (Y.toNat : Int))
              rw [bl_set] at st2
              have OBy : Hid (((v2.setCell ⟨g, d, none⟩ (.int .u8 (X.toNat : Int))).setCell ⟨g, e, none⟩ (.int .u8 (Y.toNat : Int))).ownsRow w0.heap.size 5 1 (.slice (some ⟨g, 0, none⟩) n cap) n (byteVals (bl n (Rf.tried S B C (X.toNat + 1))))) := by
                show World.ownsRow _ _ _ _ _ _ _; rw [HT.out.2, ← HC.out, ← HXS.out, HYx.out]; exact st2.1
              have ODy : Hid (((v2.setCell ⟨g, d, none⟩ (.int .u8 (X.toNat : Int))).setCell ⟨g, e, none⟩ (.int .u8 (Y.toNat : Int))).ownsRow w1.heap.size 3 1 (.slice (some ⟨gd, 0, none⟩) 2 cd) 2 (placeVals [d, e])) :=
                ODw.kept st2.2 (ownsRow_apart ODw st1 (by decide))
              have LOy : Hid (Below w0.heap.size w0 ((v2.setCell ⟨g, d, none⟩ (.int .u8 (X.toNat : Int))).setCell ⟨g, e, none⟩ (.int .u8 (Y.toNat : Int)))) := (LOv.setCell (p := ⟨g, d, none⟩) HG.out _).setCell (p := ⟨g, e, none⟩) HG.out _
              clear st st1 st2 ODw ODv OBv LOv bW hu1
              go_wp2
              go_roundg (256 - (X.toNat + 1))
              case measure => omega
              case rel => exact ⟨X.toNat + 1, by omega, rfl, by go_num, OBy.out, ODy.out, LOy.out⟩
            · have hq9 : ((Z.toNat : Int) == (Q.toNat : Int)) = false := by
                rw [beq_eq_false_iff_ne]; intro h; exact hit (SX.1 (UInt8.toNat_inj.1 (by omega)))
              have HTm : Hid (Rf.tried S B C (X.toNat + 1) = Rf.tried S B C X.toNat) := Rf.tried_miss S _ _ (fun h => hit (UInt8.toNat_inj.1 h))
              clear SX hit
              go_wp2_with fail
              refine region_det (fun W => W.cell? ⟨gd, 0, none⟩ = some (.int .i64 (d : Int)) ∧ W.cell? ⟨gd, 1, none⟩ = some (.int .i64 (e : Int)) ∧ Below wr.heap.size wr W) HMX.out (by kernel_rfl) hS0 ?_
              refine det_read 0 (v := ?vx13) rfl (by kernel_rfl) rfl ?hyx13 ?restx13
              case hyx13 => (intro wS hSw; (try dsimp only at hSw); go_simp; try with_reducible rfl)
              try simp only [Act.put, List.setIfInBounds_toArray, List.set_cons_zero, List.set_cons_succ]
              refine det_read 1 (v := ?vx14) rfl (by kernel_rfl) rfl ?hyx14 ?restx14
              case hyx14 => (intro wS hSw; (try dsimp only at hSw); go_simp; try with_reducible rfl)
              try simp only [Act.put, List.setIfInBounds_toArray, List.set_cons_zero, List.set_cons_succ]
              refine det_read 2 (v := ?vx15) rfl (by kernel_rfl) rfl ?hyx15 ?restx15
              case hyx15 => (intro wS hSw; (try dsimp only at hSw); go_simp; try with_reducible rfl)
              try simp only [Act.put, List.setIfInBounds_toArray, List.set_cons_zero, List.set_cons_succ]
              refine det_read 3 (v := ?vx16) rfl (by kernel_rfl) rfl ?hyx16 ?restx16
              case hyx16 => (intro wS hSw; (try dsimp only at hSw); go_simp; try with_reducible rfl)
              try simp only [Act.put, List.setIfInBounds_toArray, List.set_cons_zero, List.set_cons_succ]
              refine det_read 4 (v := ?vx17) rfl (by kernel_rfl) rfl ?hyx17 ?restx17
              case hyx17 => (intro wS hSw; (try dsimp only at hSw); go_simp; try with_reducible rfl)
              try simp only [Act.put, List.setIfInBounds_toArray, List.set_cons_zero, List.set_cons_succ]
              refine det_call 5 rfl (by kernel_rfl) rfl ?hyx29 (fun W h => (hE1 W).mono fun _ _ ⟨e, hw⟩ => ⟨e, by rw [hw]; exact h⟩) ?restx29
              case hyx29 => (intro wS hSw; go_simp; try with_reducible rfl)
              try simp only [Act.put, List.setIfInBounds_toArray, List.set_cons_zero, List.set_cons_succ]
              refine det_call 6 rfl (by kernel_rfl) rfl ?hyx30 (fun W h => (hM1 W).mono fun _ _ ⟨e, hw⟩ => ⟨e, by rw [hw]; exact h⟩) ?restx30
              case hyx30 => (intro wS hSw; go_simp; try with_reducible rfl)
              try simp only [Act.put, List.setIfInBounds_toArray, List.set_cons_zero, List.set_cons_succ]
              refine det_read 7 (v := ?vx18) rfl (by kernel_rfl) rfl ?hyx18 ?restx18
              case hyx18 => (intro wS hSw; (try dsimp only at hSw); go_simp; try with_reducible rfl)
              try simp only [Act.put, List.setIfInBounds_toArray, List.set_cons_zero, List.set_cons_succ]
              refine det_read 8 (v := ?vx19) rfl (by kernel_rfl) rfl ?hyx19 ?restx19
              case hyx19 => (intro wS hSw; (try dsimp only at hSw); go_simp; try with_reducible rfl)
              try simp only [Act.put, List.setIfInBounds_toArray, List.set_cons_zero, List.set_cons_succ]
              refine det_read 9 (v := ?vx20) rfl (by kernel_rfl) rfl ?hyx20 ?restx20
              case hyx20 => (intro wS hSw; (try dsimp only at hSw); go_simp; try with_reducible rfl)
              try simp only [Act.put, List.setIfInBounds_toArray, List.set_cons_zero, List.set_cons_succ]
              refine det_read 10 (v := ?vx21) rfl (by kernel_rfl) rfl ?hyx21 ?restx21
              case hyx21 => (intro wS hSw; (try dsimp only at hSw); go_simp; try with_reducible rfl)
              try simp only [Act.put, List.setIfInBounds_toArray, List.set_cons_zero, List.set_cons_succ]
              refine det_call 11 rfl (by kernel_rfl) rfl ?hyx31 (fun W h => (hE2 W).mono fun _ _ ⟨e, hw⟩ => ⟨e, by rw [hw]; exact h⟩) ?restx31
              case hyx31 => (intro wS hSw; go_simp; try with_reducible rfl)
              try simp only [Act.put, List.setIfInBounds_toArray, List.set_cons_zero, List.set_cons_succ]
              refine det_call 12 rfl (by kernel_rfl) rfl ?hyx32 (fun W h => (hM2 W).mono fun _ _ ⟨e, hw⟩ => ⟨e, by rw [hw]; exact h⟩) ?restx32
              case hyx32 => (intro wS hSw; go_simp; try with_reducible rfl)
              try simp only [Act.put, List.setIfInBounds_toArray, List.set_cons_zero, List.set_cons_succ]
              refine det_read 13 (v := ?vx22) rfl (by kernel_rfl) rfl ?hyx22 ?restx22
              case hyx22 => (intro wS hSw; (try dsimp only at hSw); go_simp; try with_reducible rfl)
              try simp only [Act.put, List.setIfInBounds_toArray, List.set_cons_zero, List.set_cons_succ]
              refine det_read 14 (v := ?vx23) rfl (by kernel_rfl) rfl ?hyx23 ?restx23
              case hyx23 => (intro wS hSw; (try dsimp only at hSw); go_simp; try with_reducible rfl)
              try simp only [Act.put, List.setIfInBounds_toArray, List.set_cons_zero, List.set_cons_succ]
              refine det_read 15 (v := ?vx24) rfl (by kernel_rfl) rfl ?hyx24 ?restx24
              case hyx24 => (intro wS hSw; (try dsimp only at hSw); go_simp; try with_reducible rfl)
              try simp only [Act.put, List.setIfInBounds_toArray, List.set_cons_zero, List.set_cons_succ]
              refine det_done (by kernel_rfl) ?_
              rintro v2 ⟨_, _, bW⟩
              have OBy : Hid (v2.ownsRow w0.heap.size 5 1 (.slice (some ⟨g, 0, none⟩) n cap) n (byteVals (bl n (Rf.tried S B C (X.toNat + 1))))) := by
                show World.ownsRow _ _ _ _ _ _ _; rw [HTm.out]; exact ownsRow_below OBx.out bW
              have ODy : Hid (v2.ownsRow w1.heap.size 3 1 (.slice (some ⟨gd, 0, none⟩) 2 cd) 2 (placeVals [d, e])) := ownsRow_below ODx.out bW
              have LOy : Hid (Below w0.heap.size w0 v2) := LOx.out.trans (bW.mono hsx)
              clear bW
              go_wp2
              go_roundg (256 - (X.toNat + 1))
              case measure => omega
              case rel => exact ⟨X.toNat + 1, by omega, rfl, by go_num, OBy.out, ODy.out, LOy.out⟩
          · have hxx : x = 256 := by omega
            subst hxx
            have OB : Hid (wr.ownsRow w0.heap.size 5 1 (.slice (some ⟨g, 0, none⟩) n cap) n (byteVals (bl n C))) := by
              show World.ownsRow _ _ _ _ _ _ _; have h := OBx.out; rw [Rf.tried_all] at h; exact h
            have LO := LOx
            go_wp2_with fail
            refine (sums_any m (C) hm g n cap HN.out _ (RowB.of_owns OB.out)).mono ?_
            rintro e v1 ⟨rfl, s1⟩
            have OB1 := ownsRow_below OB.out s1
            have LO1 : Below w0.heap.size w0 v1 := LO.out.trans (s1.mono LO.out.size)
            obtain ⟨P1, hP1⟩ : ∃ y, Rf.synP m (C) = y := ⟨_, rfl⟩
            obtain ⟨Q1, hQ1⟩ : ∃ y, Rf.synQ m (C) = y := ⟨_, rfl⟩
            have HP1 : Hid (Rf.synP m (C) = P1) := hP1
            have HQ1 : Hid (Rf.synQ m (C) = Q1) := hQ1
            rw [hP1, hQ1]
            have OB2 : Hid (v1.ownsRow w0.heap.size 5 1 (.slice (some ⟨g, 0, none⟩) n cap) n (byteVals (bl n (C)))) := OB1
            have LO2 : Hid (Below w0.heap.size w0 v1) := LO1
            have hA := HHAS (m : Int) v1 LO1
            clear s1 hP1 hQ1 OB1
            cases hp : Rf.hasF k L (m : Int) with
            | true =>
              rw [hp] at hA FIX
              clear hp
              go_wp2_with fail
              refine hA.mono ?_
              rintro e v2 ⟨rfl, hv2⟩
              subst v2
              have k1 : v1.cell? ⟨g, m, none⟩ = some (.int .u8 ((C m).toNat : Int)) := RowB.of_owns OB2.out m (by omega)
              have k2 : v1.frozen? ⟨g, m, none⟩ = false := OB2.out.frozenAt m
              obtain ⟨y, hy⟩ : ∃ y, C m = y := ⟨_, rfl⟩
              have HYy : Hid (C m = y) := hy
              rw [hy] at k1
              have x1 := u8_xor_bytes y P1
              have yl := y.toNat_lt
              obtain ⟨r, hr⟩ : ∃ r, y ^^^ P1 = r := ⟨_, rfl⟩
              have HRr : Hid (y ^^^ P1 = r) := hr
              rw [hr] at x1
              have OB3 : Hid ((v1.setCell ⟨g, m, none⟩ (.int .u8 (r.toNat : Int))).ownsRow w0.heap.size 5 1 (.slice (some ⟨g, 0, none⟩) n cap) n (byteVals (bl n (Gfm.upd (C) m r)))) := by
                have h := (OB2.out.stored m (.int .u8 (r.toNat : Int))).1
                rw [bl_set] at h
                exact h
              have LO3 : Hid (Below w0.heap.size w0 (v1.setCell ⟨g, m, none⟩ (.int .u8 (r.toNat : Int)))) := LO2.out.setCell (p := ⟨g, m, none⟩) HG.out _
              clear hy hr
              have hB := HHAS ((m : Int) + 1) _ LO3.out
              cases hq : Rf.hasF k L ((m : Int) + 1) with
              | true =>
                rw [hq] at hB FIX
                clear hq
                go_wp2_with fail
                refine hB.mono ?_
                rintro e v3 ⟨rfl, hv3⟩
                subst v3
                have j1 : (v1.setCell ⟨g, m, none⟩ (.int .u8 (r.toNat : Int))).cell? ⟨g, m + 1, none⟩ = some (.int .u8 ((C (m + 1)).toNat : Int)) := by have h := RowB.of_owns OB3.out (m + 1) (by omega); rw [Gfm.upd_other _ _ (by omega)] at h; exact h
                have j2 : (v1.setCell ⟨g, m, none⟩ (.int .u8 (r.toNat : Int))).frozen? ⟨g, m + 1, none⟩ = false := OB3.out.frozenAt (m + 1)
                obtain ⟨z, hz⟩ : ∃ z, C (m + 1) = z := ⟨_, rfl⟩
                have HZz : Hid (C (m + 1) = z) := hz
                rw [hz] at j1
                have x2 := u8_xor_bytes z Q1
                have zl := z.toNat_lt
                obtain ⟨t, ht⟩ : ∃ t, z ^^^ Q1 = t := ⟨_, rfl⟩
                have HTt : Hid (z ^^^ Q1 = t) := ht
                rw [ht] at x2
                have OB5 : Hid (((v1.setCell ⟨g, m, none⟩ (.int .u8 (r.toNat : Int))).setCell ⟨g, m + 1, none⟩ (.int .u8 (t.toNat : Int))).ownsRow w0.heap.size 5 1 (.slice (some ⟨g, 0, none⟩) n cap) n (byteVals (bl n (Gfm.upd (Gfm.upd (C) m r) (m + 1) t)))) := by
                  have h := (OB3.out.stored (m + 1) (.int .u8 (t.toNat : Int))).1
                  rw [bl_set] at h
                  exact h
                have LO5 : Hid (Below w0.heap.size w0 ((v1.setCell ⟨g, m, none⟩ (.int .u8 (r.toNat : Int))).setCell ⟨g, m + 1, none⟩ (.int .u8 (t.toNat : Int)))) := LO3.out.setCell (p := ⟨g, m + 1, none⟩) HG.out _
                clear hz ht
                go_wp2
                go_ret
                refine ⟨rfl, ?_, LO5.out⟩
                rw [FIX.out, Rf.fixPQ_tt, HP1.out, HYy.out, HRr.out, HQ1.out, HZz.out, HTt.out]
                exact OB5.out
              | false =>
                rw [hq] at hB FIX
                clear hq
                go_wp2_with fail
                refine hB.mono ?_
                rintro e v3 ⟨rfl, hv3⟩
                subst v3
                go_wp2
                go_ret
                refine ⟨rfl, ?_, LO3.out⟩
                rw [FIX.out, Rf.fixPQ_tf, HP1.out, HYy.out, HRr.out]
                exact OB3.out
            | false =>
              rw [hp] at hA FIX
              clear hp
              go_wp2_with fail
              refine hA.mono ?_
              rintro e v2 ⟨rfl, hv2⟩
              subst v2
              have hB := HHAS ((m : Int) + 1) _ LO2.out
              cases hq : Rf.hasF k L ((m : Int) + 1) with
              | true =>
                rw [hq] at hB FIX
                clear hq
                go_wp2_with fail
                refine hB.mono ?_
                rintro e v3 ⟨rfl, hv3⟩
                subst v3
                have j1 : v1.cell? ⟨g, m + 1, none⟩ = some (.int .u8 ((C (m + 1)).toNat : Int)) := RowB.of_owns OB2.out (m + 1) (by omega)
                have j2 : v1.frozen? ⟨g, m + 1, none⟩ = false := OB2.out.frozenAt (m + 1)
                obtain ⟨z, hz⟩ : ∃ z, C (m + 1) = z := ⟨_, rfl⟩
                have HZz : Hid (C (m + 1) = z) := hz
                rw [hz] at j1
                have x2 := u8_xor_bytes z Q1
                have zl := z.toNat_lt
                obtain ⟨t, ht⟩ : ∃ t, z ^^^ Q1 = t := ⟨_, rfl⟩
                have HTt : Hid (z ^^^ Q1 = t) := ht
                rw [ht] at x2
                have OB5 : Hid ((v1.setCell ⟨g, m + 1, none⟩ (.int .u8 (t.toNat : Int))).ownsRow w0.heap.size 5 1 (.slice (some ⟨g, 0, none⟩) n cap) n (byteVals (bl n (Gfm.upd (C) (m + 1) t)))) := by
                  have h := (OB2.out.stored (m + 1) (.int .u8 (t.toNat : Int))).1
                  rw [bl_set] at h
                  exact h
                have LO5 : Hid (Below w0.heap.size w0 (v1.setCell ⟨g, m + 1, none⟩ (.int .u8 (t.toNat : Int)))) := LO2.out.setCell (p := ⟨g, m + 1, none⟩) HG.out _
                clear hz ht
                go_wp2
                go_ret
                refine ⟨rfl, ?_, LO5.out⟩
                rw [FIX.out, Rf.fixPQ_ft, HQ1.out, HZz.out, HTt.out]
                exact OB5.out
              | false =>
                rw [hq] at hB FIX
                clear hq
                go_wp2_with fail
                refine hB.mono ?_
                rintro e v3 ⟨rfl, hv3⟩
                subst v3
                go_wp2
                go_ret
                refine ⟨rfl, ?_, LO2.out⟩
                rw [FIX.out, Rf.fixPQ_ff]
                exact OB2.out
      · exfalso
        have h1 := HDL.out
        have h2 := Rf.lostD_length m k L
        rw [HD.out] at h2
        simp at h2
        omega
end Go.Proofs.YtdgkhjgnjfgnlaaGreat
namespace Go.Proofs.YtdgkhjgnjfgnlaaGreat
open Go.RowKit
set_option maxRecDepth 100000 in
set_option maxHeartbeats 16000000 in
theorem refFill_ok (n : Nat) (f : Nat → ByteArray) (hf : Fits 1048576 n f) (a : Option Addr) (cap : Nat) (ln : Nat) (L : Nat → Int) (b : Option Addr) (capb : Nat) (hcapb : ln ≤ capb) (w : World) (hr : RowS w a n f) (hl : RowI .i64 w b ln L) (hmay : Rf.mayF n f ln L = 0) :
  Calls Tryz.prog 48 #[.slice a n cap, .slice b ln capb] w fun e w' =>
   (∃ g c, e = .returned (.tuple #[.slice g n c, .int .i64 0]) ∧ RowS w' g n (Rf.fillF n f ln L) ∧ n ≤ c ∧ (∀ x, g = some x → w.heap.size ≤ x.block)) ∧ Below w.heap.size w w' := by
 obtain ⟨n4, n10, ln2, hok, s, hs4, hsz, hkept⟩ := Rf.mayF_tells hmay
 have hMAY := May_any n f (by omega) hf a cap ln L (by omega) b capb hcapb w hr hl
 rw [hmay] at hMAY
 have HR : Hid (RowS w a n f) := hr
 have HL : Hid (RowI .i64 w b ln L) := hl
 have HF : Hid (Fits 1048576 n f) := hf
 have HOK : Hid (Rf.okL n ln L = true) := hok
 have HKEPT : Hid (∀ i, i < n → Rf.hasF ln L (i : Int) = false → (f i).size = s) := hkept
 have HSZ : ∀ W, Below w.heap.size w W → Calls Tryz.prog 83 #[.slice a n cap, .slice b ln capb] W fun e w' => e = .returned (.int .i64 (s : Int)) ∧ w' = W := fun W h => by
  have := size_any n f (by omega) hf a cap ln L (by omega) b capb W (hr.below h) (hl.below h)
  rw [hsz] at this; exact this
 have HFF : Hid (∀ i, Rf.fillF n f ln L i = ⟨(bl s fun t => Rf.rowsR n f ln L t i).toArray⟩) := fun i => by unfold Rf.fillF; rw [hsz]; rfl
 have HM : Hid (n - 2 + 2 = n) := by show _ = _; omega
 have m16 : n - 2 < 16 := by omega
 have m1000 : n - 2 ≤ 1000 := by omega
 have HMX : Hid (Tryz.prog.follows .mixedOrders = true) := by show _ = _; kernel_rfl
 obtain ⟨i0, hi, hz0, hz1, hz2⟩ := info_parts (show (Tryz.prog.info? 5).map (fun i => (i.zero, i.size, i.bytes)) = some (some (.int .u8 0), 1, 1) from info_u8)
 obtain ⟨j0, hj, jz0, jz1, jz2⟩ := info_parts info_bytes
 obtain ⟨R, hRR⟩ : ∃ R, Rf.rowsR n f ln L = R := ⟨_, rfl⟩
 have HRR : Hid (Rf.rowsR n f ln L = R) := hRR
 rw [hRR] at HFF
 clear hr hl hf hok hkept hmay hsz hRR
 go_enter Tryz.func48, Tryz.ntmps48
 go_wp2_with fail
 refine hMAY.mono ?_
 rintro e w1 ⟨rfl, b1⟩
 have B1 : Hid (Below w.heap.size w w1) := b1
 clear hMAY b1
 go_wp2
 go_loopg [7, 8] n (fun gg u i wr => ∃ (j go co : Nat) (p c : Nat → Nat), j ≤ n ∧ gg = n - j ∧ u = .slice (some ⟨go, 0, none⟩) j co ∧ i = .int .i64 j ∧ Outs wr w1.heap.size j go co p c (fun _ => 0) R ∧ Below w1.heap.size w1 wr)
 case atStart => exact ⟨0, w1.heap.size, 0, fun _ => 0, fun _ => 0, Nat.zero_le _, rfl, rfl, rfl, Outs.start _ _ _ _ _, (Below.refl _ _).alloc (Nat.le_refl _) _⟩
 case round =>
  obtain ⟨j, go, co, p, c, hjn, rfl, rfl, rfl, hO, hb⟩ := hrel
  have OUT : Hid (Outs wr w1.heap.size j go co p c (fun _ => 0) R) := hO
  have HB : Hid (Below w1.heap.size w1 wr) := hb
  have hsz := hb.size
  clear hO hb
  by_cases hjl : j < n
  ·have t1 : True := trivial
   have CELL : Hid (∀ (t : Nat) (u : Value), [Value.slice (some ⟨wr.heap.size, 0, none⟩) 0 0][t]? = some u → ((wr.alloc (.cells #[] 5)).alloc (.cells #[.slice (some ⟨wr.heap.size, 0, none⟩) 0 0] 109)).cell? ((⟨wr.heap.size + 1, 0, none⟩ : Addr).add t) = some u) := by
    have h := cell_one_new (wr.alloc (.cells #[] 5)) (.slice (some ⟨wr.heap.size, 0, none⟩) 0 0) 109
    rw [World.size_alloc] at h; exact h
   go_wp2_with (at_builtin; have _t := t1; refine wpList_append_lies _ rfl _ _ 116 rfl w1.heap.size 109 j0 (.slice none 0 0) 1 24 Tryz.underlying116 hj jz0 jz1 jz2 rfl (by decide) (.slice (some ⟨go, 0, none⟩) j co) j (headVals j p c fun _ => 0) rfl ((OUT.out.out.alloc _).alloc _) ⟨wr.heap.size + 1, 0, none⟩ 1 1 [.slice (some ⟨wr.heap.size, 0, none⟩) 0 0] rfl rfl CELL.out (by simp [Value.oneCell']) (by decide) (by unfold maxLen; omega) (by omega) (by simp; omega) _ rfl ?_; intro g3 c3 w3 own3 grow3 lies3 _; (have M3 : Hid (Outs w3 w1.heap.size (j + 1) g3 c3 (Gfm.upd p j wr.heap.size) (Gfm.upd c j 0) (fun _ => 0) R) := (Outs.more OUT.out hsz rfl own3 grow3).turn fun i _ => (by unfold Gfm.upd; split <;> rfl)); (have HB3 : Hid (Below w1.heap.size w1 w3) := ((HB.out.alloc hsz _).alloc (by simp; omega) _).grown grow3 (by simp; omega) (fun t ht => by have := OUT.out.outBlock.1; have h : go = t := (by simpa [Value.ownBlock] using ht); omega)); clear own3 grow3 lies3 t1)
   go_roundg (n - (j + 1))
   case measure => omega
   case rel => exact ⟨j + 1, g3, c3, _, _, by omega, rfl, rfl, by go_num, M3.out, HB3.out⟩
  ·have hjj : j = n := by omega
   subst hjj
   go_wp2
   go_loopg [9, 10, 11] s (fun gg u _ _ wr => ∃ (k : Nat) (p c : Nat → Nat), k ≤ s ∧ gg = s - k ∧ u = .int .i64 k ∧ Outs wr w1.heap.size j go co p c (fun _ => k) R ∧ Below w1.heap.size w1 wr)
   case atStart => exact ⟨0, p, c, Nat.zero_le _, rfl, rfl, OUT.out, HB.out⟩
   case round =>
    obtain ⟨k, p, c, hk, rfl, rfl, hO, hb⟩ := hrel
    have OUT : Hid (Outs wr w1.heap.size j go co p c (fun _ => k) R) := hO
    have HB : Hid (Below w1.heap.size w1 wr) := hb
    have hsz := hb.size
    have LOW : Hid (Below w.heap.size w wr) := B1.out.trans (hb.mono B1.out.size)
    have hZ := HSZ wr LOW.out
    clear hO hb
    go_wp2_with fail
    refine hZ.mono ?_
    rintro e w' ⟨rfl, hw⟩
    subst w'
    clear hZ
    by_cases hks : k < s
    ·have hAT := at_any j f (by omega) a cap ln L (by omega) b capb k s (by omega) hks HKEPT.out wr (HR.out.below LOW.out) (HL.out.below LOW.out)
     go_wp2_with fail
     refine hAT.mono ?_
     rintro e w2 ⟨⟨gb, cb, rfl, ob⟩, b2⟩
     clear hAT
     have hONE := one_any (j - 2) m1000 j HM.out (Rf.atB f ln L k) ln L ln2 HOK.out m16 gb cb b capb wr w2 b2 ob (HL.out.below LOW.out)
     have HVR : Rf.fillB (j - 2) (Rf.atB f ln L k) (Rf.lostD (j - 2) ln L) (Rf.hasF ln L ((j - 2 : Nat) : Int)) (Rf.hasF ln L (((j - 2 : Nat) : Int) + 1)) = R k := by rw [← HRR.out]; rfl
     rw [HVR] at hONE
     clear ob HVR
     go_wp2_with fail
     refine hONE.mono ?_
     rintro e w3 ⟨rfl, ob3, b3⟩
     clear hONE b2
     have gbl : Hid (wr.heap.size ≤ gb) := owns_low ob3
     have RB : Hid (RowB w3 gb j (R k)) := RowB.of_owns ob3
     have OUT3 : Hid (Outs w3 w1.heap.size j go co p c (fun _ => k) R) := OUT.out.below b3
     have HB3 : Hid (Below w1.heap.size w1 w3) := HB.out.trans (b3.mono hsz)
     have NE3 : Hid (∀ t, t < j → p t ≠ gb) := fun t ht => by have := (OUT.out.block ht).2; have := gbl.out; omega
     have NEO : Hid (go ≠ gb) := by have := OUT.out.outBlock.2; have := gbl.out; show go ≠ gb; omega
     obtain ⟨V, hV⟩ : ∃ V, R k = V := ⟨_, rfl⟩
     have HV : Hid (R k = V) := hV
     rw [hV] at RB
     clear ob3 b3 hV
     generalize hn' : j = n at *
     go_wp2
     go_loopg [11] n (fun gg u wr => ∃ (j : Nat) (p c : Nat → Nat), j ≤ n ∧ gg = n - j ∧ u = .int .i64 j ∧ Outs wr w1.heap.size n go co p c (fun i => if i < j then k + 1 else k) R ∧ RowB wr gb n V ∧ (∀ t, t < n → p t ≠ gb) ∧ Below w1.heap.size w1 wr)
     case atStart => exact ⟨0, p, c, Nat.zero_le _, rfl, rfl, OUT3.out.turn fun i _ => (if_neg (Nat.not_lt_zero _)).symm, RB.out, NE3.out, HB3.out⟩
     case round =>
      obtain ⟨j, p, c, hjn, rfl, rfl, hO, hRB, hNE, hb⟩ := hrel
      obtain ⟨KK, hKK⟩ : ∃ KK : Nat → Nat, KK = fun i => if i < j then k + 1 else k := ⟨_, rfl⟩
      have HKK : Hid (∀ i, KK i = if i < j then k + 1 else k) := fun i => by rw [hKK]
      rw [← hKK] at hO
      have OUT : Hid (Outs wr w1.heap.size n go co p c KK R) := hO
      have RB : Hid (RowB wr gb n V) := hRB
      have NEB : Hid (∀ t, t < n → p t ≠ gb) := hNE
      have HB : Hid (Below w1.heap.size w1 wr) := hb
      have hsz := hb.size
      clear hO hRB hNE hb hKK
      by_cases hjn : j < n
      ·have hKj : KK j = k := by rw [HKK.out]; exact if_neg (Nat.lt_irrefl _)
       have HKJ : Hid (KK j = k) := hKj
       have hk4 : KK j ≤ 4096 := by omega
       obtain ⟨v, hv⟩ : ∃ v, V j = v := ⟨_, rfl⟩
       have HVV : Hid (V j = v) := hv
       have HVJ : Hid (R (KK j) j = v) := by show _ = _; rw [hKj, HV.out]; exact hv
       have hcb := RB.out j hjn
       rw [hv] at hcb
       have hco := OUT.out.cell hjn
       have OUTj : Hid (wr.drew.ownsRow w1.heap.size 5 1 (.slice (some ⟨p j, 0, none⟩) (KK j) (c j)) (KK j) (byteVals (bl (KK j) fun t => R t j))) := (OUT.out.rows j hjn).drew
       have hbW : Below wr.heap.size wr (wr.drew.alloc (.cells #[.int .u8 (v.toNat : Int)] 5)) := (Below.refl _ wr).drew.alloc (Nat.le_refl _) _
       have RBW : Hid (RowB (wr.drew.alloc (.cells #[.int .u8 (v.toNat : Int)] 5)) gb n V) := RB.out.below hbW
       have hS0 : (fun W : World => W.cell? ⟨gb, j, none⟩ = some (.int .u8 (v.toNat : Int))) wr.drew := hcb
       have hS1 : (wr.drew.alloc (.cells #[.int .u8 (v.toNat : Int)] 5)).cell? ⟨gb, j, none⟩ = some (.int .u8 (v.toNat : Int)) := by rw [RBW.out j hjn, hv]
       have hco1 : (wr.drew.alloc (.cells #[.int .u8 (v.toNat : Int)] 5)).cell? ⟨go, j, none⟩ = some (.slice (some ⟨p j, 0, none⟩) (KK j) (c j)) := (hbW.cell (p := ⟨go, j, none⟩) (World.block_lt_of_cell? wr _ hco)).trans hco
       have hco2 : (wr.alloc (.cells #[.int .u8 (v.toNat : Int)] 5)).cell? ⟨go, j, none⟩ = some (.slice (some ⟨p j, 0, none⟩) (KK j) (c j)) := hco1
       clear hv hKj
       go_wp2_with fail
       refine wp_region_held (S := fun W => W.cell? ⟨gb, j, none⟩ = some (.int .u8 (v.toNat : Int))) HMX.out ?_
       change wpAnyH _ _ _ _ _ _ _ _ wr.drew
       refine held_quiet 0 (v := ?v0q1) rfl (by kernel_rfl) (fun _ _ _ h => h) (by assumption) rfl ?hy0q1 ?rest0q1
       case hy0q1 => (intro wS hSw; (try dsimp only at hSw); go_simp; try with_reducible rfl)
       try simp only [Act.put, List.setIfInBounds_toArray, List.set_cons_zero, List.set_cons_succ]
       refine held_quiet 1 (v := ?v1q2) rfl (by kernel_rfl) (fun _ _ _ h => h) (by assumption) rfl ?hy1q2 ?rest1q2
       case hy1q2 => (intro wS hSw; (try dsimp only at hSw); go_simp; try with_reducible rfl)
       try simp only [Act.put, List.setIfInBounds_toArray, List.set_cons_zero, List.set_cons_succ]
       refine held_quiet 2 (v := ?v2q3) rfl (by kernel_rfl) (fun _ _ _ h => h) (by assumption) rfl ?hy2q3 ?rest2q3
       case hy2q3 => (intro wS hSw; (try dsimp only at hSw); go_simp; try with_reducible rfl)
       try simp only [Act.put, List.setIfInBounds_toArray, List.set_cons_zero, List.set_cons_succ]
       refine held_quiet 3 (v := ?v3q4) rfl (by kernel_rfl) (fun _ _ _ h => h) (by assumption) rfl ?hy3q4 ?rest3q4
       case hy3q4 => (intro wS hSw; (try dsimp only at hSw); go_simp; try with_reducible rfl)
       try simp only [Act.put, List.setIfInBounds_toArray, List.set_cons_zero, List.set_cons_succ]
       refine held_quiet 4 (v := ?v4q5) rfl (by kernel_rfl) (fun _ _ _ h => h) (by assumption) rfl ?hy4q5 ?rest4q5
       case hy4q5 => (intro wS hSw; (try dsimp only at hSw); go_simp; try with_reducible rfl)
       try simp only [Act.put, List.setIfInBounds_toArray, List.set_cons_zero, List.set_cons_succ]
       refine held_quiet 6 (v := ?v6q6) rfl (by kernel_rfl) (fun _ _ _ h => h) (by assumption) rfl ?hy6q6 ?rest6q6
       case hy6q6 => (intro wS hSw; (try dsimp only at hSw); go_simp; try with_reducible rfl)
       try simp only [Act.put, List.setIfInBounds_toArray, List.set_cons_zero, List.set_cons_succ]
       refine held_quiet 7 (v := ?v7q7) rfl (by kernel_rfl) (fun _ _ _ h => h) (by assumption) rfl ?hy7q7 ?rest7q7
       case hy7q7 => (intro wS hSw; (try dsimp only at hSw); go_simp; try with_reducible rfl)
       try simp only [Act.put, List.setIfInBounds_toArray, List.set_cons_zero, List.set_cons_succ]
       refine held_quiet 8 (v := ?v8q8) rfl (by kernel_rfl) (fun _ _ _ h => h) (by assumption) rfl ?hy8q8 ?rest8q8
       case hy8q8 => (intro wS hSw; (try dsimp only at hSw); go_simp; try with_reducible rfl)
       try simp only [Act.put, List.setIfInBounds_toArray, List.set_cons_zero, List.set_cons_succ]
       refine held_quiet 9 (v := ?v9q9) rfl (by kernel_rfl) (fun _ _ _ h => h) (by assumption) rfl ?hy9q9 ?rest9q9
       case hy9q9 => (intro wS hSw; (try dsimp only at hSw); go_simp; try with_reducible rfl)
       try simp only [Act.put, List.setIfInBounds_toArray, List.set_cons_zero, List.set_cons_succ]
       refine held_two 5 10 rfl rfl (by kernel_rfl) ?_ ?_
       ·go_wp2
        try refine ⟨hS0, ?_⟩
        refine held_one 10 rfl (by kernel_rfl) ?_
        go_wp2
        try refine ⟨hS1, ?_⟩
        refine held_one 11 rfl (by kernel_rfl) ?_
        refine wpList_append_lies _ rfl _ _ 109 rfl w1.heap.size 5 i0 (.int .u8 0) 1 1 Tryz.underlying109 hi hz0 hz1 hz2 rfl (by decide) (.slice (some ⟨p j, 0, none⟩) (KK j) (c j)) (KK j) (byteVals (bl (KK j) fun t => R t j)) rfl (OUTj.out.alloc _) ⟨wr.heap.size, 0, none⟩ 1 1 [.int .u8 (v.toNat : Int)] rfl rfl (cell_one_new _ _ _) (by simp [Value.oneCell']) (by decide) (by unfold maxLen; omega) (by omega) (by simp; omega) _ rfl ?_
        intro g3 c3 w3 own3 grow3 lies3 _
        have lies3 : g3 = p j ∨ g3 = (wr.drew.alloc (.cells #[.int .u8 (v.toNat : Int)] 5)).heap.size := lies3.imp (fun h => by simpa [Value.ownBlock] using h.symm) id
        have PUT := Outs.put OUT.out hjn hbW v HVJ.out own3 grow3 lies3
        have ho3 : w3.ownsRow w1.heap.size 109 1 (.slice (some ⟨go, 0, none⟩) n co) n (headVals n p c KK) :=
         (ownsRow_below OUT.out.out hbW).kept grow3 (.inr (by simp [Value.ownBlock]; exact Ne.symm (OUT.out.ne hjn)))
        have hc3 : w3.cell? ⟨go, j, none⟩ = some (.slice (some ⟨p j, 0, none⟩) (KK j) (c j)) := by rw [ho3.cellAt j (by omega)]; exact headVals_at _ _ _ hjn
        have hf3 : w3.frozen? ⟨go, j, none⟩ = false := ho3.frozenAt j
        have hb3 : RowB w3 gb n V := fun t ht => (grow3.cell_far ⟨gb, t, none⟩ (Nat.lt_of_lt_of_le (World.block_lt_of_cell? wr _ (RB.out t ht)) hbW.size) (by have h := NEB.out j hjn; simp [Value.ownBlock]; exact Ne.symm h)).trans (RBW.out t ht)
        have hs3 : w3.cell? ⟨gb, j, none⟩ = some (.int .u8 (v.toNat : Int)) := by rw [hb3 j hjn, HVV.out]
        have hne3 : ∀ t, t < n → Gfm.upd p j g3 t ≠ gb := fun t ht => by
         by_cases e : t = j
         ·subst e; rw [Gfm.upd_same]
          rcases lies3 with h | h
          ·rw [h]; exact NEB.out t ht
          ·have h0 : gb < wr.heap.size := World.block_lt_of_cell? wr _ (RB.out 0 (by omega))
           have := hbW.size; omega
         ·rw [Gfm.upd_other _ _ e]; exact NEB.out t ht
        have hB3 : Below w1.heap.size w1 w3 := (HB.out.trans (hbW.mono hsz)).grown grow3 (by have := hbW.size; omega) (fun t ht => by have := (OUT.out.block hjn).1; have h : p j = t := (by simpa [Value.ownBlock] using ht); omega)
        try refine ⟨hs3, ?_⟩
        refine held_one 12 rfl (by kernel_rfl) ?_
        go_wp2
        try refine ⟨hs3, ?_⟩
        refine held_one 13 rfl (by kernel_rfl) ?_
        have hs4 : (w3.setCell ⟨go, j, none⟩ (.slice (some ⟨g3, 0, none⟩) (KK j + 1) c3)).cell? ⟨gb, j, none⟩ = some (.int .u8 (v.toNat : Int)) := by
         rw [World.cell?_setCell_other _ _ _ _ (fun e => NEO.out (by injection e))]; exact hs3
        have PUT2 : Hid (Outs (w3.setCell ⟨go, j, none⟩ (.slice (some ⟨g3, 0, none⟩) (KK j + 1) c3)) w1.heap.size n go co (Gfm.upd p j g3) (Gfm.upd c j c3) (fun i => if i < j + 1 then k + 1 else k) R) := PUT.turn fun t ht => by
         by_cases e : t = j
         ·subst e; rw [Gfm.upd_same, HKJ.out, if_pos (by omega)]
         ·rw [Gfm.upd_other _ _ e, HKK.out t]
          by_cases h : t < j
          ·rw [if_pos h, if_pos (by omega)]
          ·rw [if_neg h, if_neg (by omega)]
        have RB4 : Hid (RowB (w3.setCell ⟨go, j, none⟩ (.slice (some ⟨g3, 0, none⟩) (KK j + 1) c3)) gb n V) := fun t ht => by
         rw [World.cell?_setCell_other _ _ _ _ (fun e => NEO.out (by injection e))]; exact hb3 t ht
        have NE4 : Hid (∀ t, t < n → Gfm.upd p j g3 t ≠ gb) := hne3
        have HB4 : Hid (Below w1.heap.size w1 (w3.setCell ⟨go, j, none⟩ (.slice (some ⟨g3, 0, none⟩) (KK j + 1) c3))) := hB3.setCell (p := ⟨go, j, none⟩) OUT.out.outBlock.1 _
        clear PUT ho3 hb3 hne3 hB3 own3 grow3 lies3
        go_wp2
        try refine ⟨hs4, ?_⟩
        refine held_done (by kernel_rfl) ?_
        go_wp2
        go_roundg (n - (j + 1))
        case measure => omega
        case rel => exact ⟨j + 1, _, _, by omega, rfl, by go_num, PUT2.out, RB4.out, NE4.out, HB4.out⟩
       ·go_wp2
        try refine ⟨hS1, ?_⟩
        refine held_one 5 rfl (by kernel_rfl) ?_
        go_wp2
        try refine ⟨hS1, ?_⟩
        refine held_one 11 rfl (by kernel_rfl) ?_
        refine wpList_append_lies _ rfl _ _ 109 rfl w1.heap.size 5 i0 (.int .u8 0) 1 1 Tryz.underlying109 hi hz0 hz1 hz2 rfl (by decide) (.slice (some ⟨p j, 0, none⟩) (KK j) (c j)) (KK j) (byteVals (bl (KK j) fun t => R t j)) rfl (OUTj.out.alloc _) ⟨wr.heap.size, 0, none⟩ 1 1 [.int .u8 (v.toNat : Int)] rfl rfl (cell_one_new _ _ _) (by simp [Value.oneCell']) (by decide) (by unfold maxLen; omega) (by omega) (by simp; omega) _ rfl ?_
        intro g3 c3 w3 own3 grow3 lies3 _
        have lies3 : g3 = p j ∨ g3 = (wr.drew.alloc (.cells #[.int .u8 (v.toNat : Int)] 5)).heap.size := lies3.imp (fun h => by simpa [Value.ownBlock] using h.symm) id
        have PUT := Outs.put OUT.out hjn hbW v HVJ.out own3 grow3 lies3
        have ho3 : w3.ownsRow w1.heap.size 109 1 (.slice (some ⟨go, 0, none⟩) n co) n (headVals n p c KK) :=
         (ownsRow_below OUT.out.out hbW).kept grow3 (.inr (by simp [Value.ownBlock]; exact Ne.symm (OUT.out.ne hjn)))
        have hc3 : w3.cell? ⟨go, j, none⟩ = some (.slice (some ⟨p j, 0, none⟩) (KK j) (c j)) := by rw [ho3.cellAt j (by omega)]; exact headVals_at _ _ _ hjn
        have hf3 : w3.frozen? ⟨go, j, none⟩ = false := ho3.frozenAt j
        have hb3 : RowB w3 gb n V := fun t ht => (grow3.cell_far ⟨gb, t, none⟩ (Nat.lt_of_lt_of_le (World.block_lt_of_cell? wr _ (RB.out t ht)) hbW.size) (by have h := NEB.out j hjn; simp [Value.ownBlock]; exact Ne.symm h)).trans (RBW.out t ht)
        have hs3 : w3.cell? ⟨gb, j, none⟩ = some (.int .u8 (v.toNat : Int)) := by rw [hb3 j hjn, HVV.out]
        have hne3 : ∀ t, t < n → Gfm.upd p j g3 t ≠ gb := fun t ht => by
         by_cases e : t = j
         ·subst e; rw [Gfm.upd_same]
          rcases lies3 with h | h
          ·rw [h]; exact NEB.out t ht
          ·have h0 : gb < wr.heap.size := World.block_lt_of_cell? wr _ (RB.out 0 (by omega))
           have := hbW.size; omega
         ·rw [Gfm.upd_other _ _ e]; exact NEB.out t ht
        have hB3 : Below w1.heap.size w1 w3 := (HB.out.trans (hbW.mono hsz)).grown grow3 (by have := hbW.size; omega) (fun t ht => by have := (OUT.out.block hjn).1; have h : p j = t := (by simpa [Value.ownBlock] using ht); omega)
        try refine ⟨hs3, ?_⟩
        refine held_one 12 rfl (by kernel_rfl) ?_
        go_wp2
        try refine ⟨hs3, ?_⟩
        refine held_one 13 rfl (by kernel_rfl) ?_
        have hs4 : (w3.setCell ⟨go, j, none⟩ (.slice (some ⟨g3, 0, none⟩) (KK j + 1) c3)).cell? ⟨gb, j, none⟩ = some (.int .u8 (v.toNat : Int)) := by
         rw [World.cell?_setCell_other _ _ _ _ (fun e => NEO.out (by injection e))]; exact hs3
        have PUT2 : Hid (Outs (w3.setCell ⟨go, j, none⟩ (.slice (some ⟨g3, 0, none⟩) (KK j + 1) c3)) w1.heap.size n go co (Gfm.upd p j g3) (Gfm.upd c j c3) (fun i => if i < j + 1 then k + 1 else k) R) := PUT.turn fun t ht => by
         by_cases e : t = j
         ·subst e; rw [Gfm.upd_same, HKJ.out, if_pos (by omega)]
         ·rw [Gfm.upd_other _ _ e, HKK.out t]
          by_cases h : t < j
          ·rw [if_pos h, if_pos (by omega)]
          ·rw [if_neg h, if_neg (by omega)]
        have RB4 : Hid (RowB (w3.setCell ⟨go, j, none⟩ (.slice (some ⟨g3, 0, none⟩) (KK j + 1) c3)) gb n V) := fun t ht => by
         rw [World.cell?_setCell_other _ _ _ _ (fun e => NEO.out (by injection e))]; exact hb3 t ht
        have NE4 : Hid (∀ t, t < n → Gfm.upd p j g3 t ≠ gb) := hne3
        have HB4 : Hid (Below w1.heap.size w1 (w3.setCell ⟨go, j, none⟩ (.slice (some ⟨g3, 0, none⟩) (KK j + 1) c3))) := hB3.setCell (p := ⟨go, j, none⟩) OUT.out.outBlock.1 _
        clear PUT ho3 hb3 hne3 hB3 own3 grow3 lies3
        go_wp2
        try refine ⟨hs4, ?_⟩
        refine held_done (by kernel_rfl) ?_
        go_wp2
        go_roundg (n - (j + 1))
        case measure => omega
        case rel => exact ⟨j + 1, _, _, by omega, rfl, by go_num, PUT2.out, RB4.out, NE4.out, HB4.out⟩
      ·have hjj : j = n := by omega
       subst hjj
       have OUT2 : Hid (Outs wr w1.heap.size j go co p c (fun _ => k + 1) R) := OUT.out.turn fun i hi => by rw [HKK.out]; exact if_pos hi
       go_wp2
       go_roundg (s - (k + 1))
       case measure => omega
       case rel => exact ⟨k + 1, p, c, by omega, rfl, by go_num, OUT2.out, HB.out⟩
    ·have hkk : k = s := by omega
     subst hkk
     obtain ⟨wE, hE⟩ : ∃ wE, wE = wr := ⟨_, rfl⟩
     subst hE
     obtain ⟨F, hF⟩ : ∃ F, Rf.fillF j f ln L = F := ⟨_, rfl⟩
     have HFE : Hid (∀ i, F i = ⟨(bl k fun t => R t i).toArray⟩) := fun i => by rw [← hF]; exact HFF.out i
     have HFN : Hid (Rf.fillF j f ln L = F) := hF
     have LOWE : Hid (w.heap.size ≤ wE.heap.size) := LOW.out.size
     clear hF
     go_wp2
     go_loopg [12, 13] j (fun gg u x wr => ∃ (i gl cl : Nat), i ≤ j ∧ gg = j - i ∧ u = .slice (some ⟨gl, 0, none⟩) i cl ∧ x = .int .i64 i ∧ wr.ownsRow wE.heap.size 9 1 (.slice (some ⟨gl, 0, none⟩) i cl) i (textVals i F) ∧ Below wE.heap.size wE wr)
     case atStart => exact ⟨0, wE.heap.size, 0, Nat.zero_le _, rfl, rfl, rfl, World.ownsRow_made wE #[] 0 (Nat.le_refl _) (by decide) rfl, (Below.refl _ _).alloc (Nat.le_refl _) _⟩
     case round =>
      obtain ⟨i, gl, cl, hil, rfl, rfl, rfl, ol, hb⟩ := hrel
      have OL : Hid (wr.ownsRow wE.heap.size 9 1 (.slice (some ⟨gl, 0, none⟩) i cl) i (textVals i F)) := ol
      have HBE : Hid (Below wE.heap.size wE wr) := hb
      have OUTr := OUT.out.below hb
      have hszE := hb.size
      clear ol hb
      by_cases hij : i < j
      ·have hci := OUTr.cell hij
       have hcv := ownsBytes_back (P := Tryz.prog) (OUTr.rows i hij) 109 9 5 Tryz.underlying109 Tryz.underlying5 Tryz.underlying9
       rw [← HFE.out i] at hcv
       obtain ⟨y, hy⟩ : ∃ y, F i = y := ⟨_, rfl⟩
       have HFy : Hid (F i = y) := hy
       rw [hy] at hcv
       have ONE3 : Hid (RowS (wr.alloc (.cells #[.string y] 9)) (some ⟨wr.heap.size, 0, none⟩) 1 (fun _ => y)) := RowS.one _ _ rfl _ _
       have t1 : True := trivial
       clear OUTr hy
       go_wp2_with (at_builtin; have _t := t1; refine wpList_append_texts _ rfl _ _ rfl wE.heap.size gl i cl F rfl (OL.out.alloc _) (some ⟨wr.heap.size, 0, none⟩) 1 1 (fun _ => y) rfl ONE3.out (by omega) (by simp; omega) ?_; intro g3 c3 w4 own4 grow4 lies4; rw [textVals_joinOne i F y HFy.out] at own4; (have OWN4 : Hid (w4.ownsRow wE.heap.size 9 1 (.slice (some ⟨g3, 0, none⟩) (i + 1) c3) (i + 1) (textVals (i + 1) F)) := own4); (have B4 : Hid (Below wE.heap.size wE w4) := below_joined (HBE.out.alloc hszE _) (by simp; omega) (OL.out.alloc _) grow4); clear own4 grow4 lies4 t1)
       go_roundg (j - (i + 1))
       case measure => omega
       case rel => exact ⟨i + 1, g3, c3, by omega, rfl, rfl, by go_num, OWN4.out, B4.out⟩
      ·have hii : i = j := by omega
       subst hii
       obtain ⟨ar, cr, er, rr, hcr, hbr⟩ := RowS.of_owns OL.out
       cases er
       have RR : Hid (RowS wr (some ⟨gl, 0, none⟩) i F) := rr
       have CR : Hid (i ≤ cl) := hcr
       have GL : Hid (wE.heap.size ≤ gl) := owns_low OL.out
       have HBF : Hid (Below w.heap.size w wr) := LOW.out.trans (HBE.out.mono LOWE.out)
       clear rr hcr hbr OUTr
       go_wp2
       go_ret2
       exact ⟨⟨_, _, rfl, by rw [HFN.out]; exact RR.out, CR.out, fun x hx => by cases hx; have := LOWE.out; have := GL.out; show w.heap.size ≤ gl; omega⟩, HBF.out⟩
set_option maxRecDepth 100000 in
set_option maxHeartbeats 1000000 in
theorem refFill_no (n : Nat) (f : Nat → ByteArray) (hn : n ≤ 1000000) (hf : Fits 1048576 n f) (a : Option Addr) (cap : Nat) (ln : Nat) (L : Nat → Int) (hln : ln ≤ 1000000) (b : Option Addr) (capb : Nat) (hcapb : ln ≤ capb) (w : World) (hr : RowS w a n f) (hl : RowI .i64 w b ln L) (hmay : Rf.mayF n f ln L ≠ 0) :
  Calls Tryz.prog 48 #[.slice a n cap, .slice b ln capb] w fun e w' => e = .returned (.tuple #[.slice none 0 0, .int .i64 (Rf.mayF n f ln L)]) ∧ Below w.heap.size w w' := by
 have hMAY := May_any n f hn hf a cap ln L hln b capb hcapb w hr hl
 obtain ⟨x, hx⟩ : ∃ x, Rf.mayF n f ln L = x := ⟨_, rfl⟩
 rw [hx] at hMAY hmay
 rw [hx]
 have h0 : (x != 0) = true := by rw [bne_iff_ne]; exact hmay
 clear hx hmay
 go_enter Tryz.func48, Tryz.ntmps48
 go_wp2_with fail
 refine hMAY.mono ?_
 rintro e w1 ⟨rfl, b1⟩
 go_wp2
 go_ret2
 exact ⟨rfl, b1⟩
theorem refFill_says (n : Nat) (f : Nat → ByteArray) (hn : n ≤ 1000000) (hf : Fits 1048576 n f) (a : Option Addr) (cap : Nat) (ln : Nat) (L : Nat → Int) (hln : ln ≤ 1000000) (b : Option Addr) (capb : Nat) (hcapb : ln ≤ capb) (w : World) (hr : RowS w a n f) (hl : RowI .i64 w b ln L) :
  Calls Tryz.prog 48 #[.slice a n cap, .slice b ln capb] w fun e w' => FillSays n f ln L e w' ∧ Below w.heap.size w w' := by
 unfold FillSays
 by_cases h : Rf.mayF n f ln L = 0
 ·refine (refFill_ok n f hf a cap ln L b capb hcapb w hr hl h).mono ?_
  rintro e w' ⟨⟨g, c, rfl, hr', hc, _⟩, hb⟩
  rw [h, Rf.kF_ok]
  exact ⟨⟨g, c, rfl, hr', hc⟩, hb⟩
 ·refine (refFill_no n f hn hf a cap ln L hln b capb hcapb w hr hl h).mono ?_
  rintro e w' ⟨rfl, hb⟩
  rw [Rf.kF_no h]
  exact ⟨⟨none, 0, rfl, RowS.nil _ _ _, Nat.le_refl _⟩, hb⟩
end Go.Proofs.YtdgkhjgnjfgnlaaGreat
