/- The walk of the document's own filling of a row's bytes at one place. -/
import Derived.Test.YtjephdeolifbpaaRef06Sums
namespace Go.Proofs.Ytjephdeolifbpaa
open Go.RowKit

theorem info_i64 : (Try.prog.info? 3).map (fun i => (i.zero, i.size, i.bytes)) = some (some (.int .i64 0), 1, 8) := by kernel_rfl
/-- places as a slice's cells -/
def placeVals (l : List Nat) : List Value := l.map fun d : Nat => Value.int .i64 (d : Int)
theorem placeVals_snoc (l : List Nat) (x : Nat) : placeVals l ++ [.int .i64 (x : Int)] = placeVals (l ++ [x]) := by simp [placeVals]
theorem placeVals_length (l : List Nat) : (placeVals l).length = l.length := by simp [placeVals]
def dataLen (m k : Nat) (L : Nat → Int) : Nat := (Rf.lostD m k L).length

set_option maxRecDepth 100000 in
set_option maxHeartbeats 16000000 in
theorem one_any (m : Nat) (hm : m ≤ 1000) (n : Nat) (hmn : m + 2 = n) (B : Nat → UInt8) (ln : Nat) (L : Nat → Int) (hln : ln ≤ 2) (hok : Rf.okL n ln L = true) (hm16 : m < 16) (g cap : Nat) (b : Option Addr) (capb : Nat) (w0 w : World) (hlow : Below w0.heap.size w0 w)
    (own : w.ownsRow w0.heap.size 5 1 (.slice (some ⟨g, 0, none⟩) n cap) n (byteVals (bl n B))) (hl : RowI .i64 w0 b ln L) :
    Calls Try.prog 23 #[.slice (some ⟨g, 0, none⟩) n cap, .slice b ln capb] w fun e w' =>
      e = .returned (.slice (some ⟨g, 0, none⟩) n cap) ∧ w'.ownsRow w0.heap.size 5 1 (.slice (some ⟨g, 0, none⟩) n cap) n (byteVals (bl n (Rf.fillB m B (Rf.lostD m ln L) (Rf.hasF ln L (m : Int)) (Rf.hasF ln L ((m : Int) + 1))))) ∧ Below w0.heap.size w0 w' := by
  have HHAS : ∀ (x : Int) (W : World), Below w0.heap.size w0 W → Calls Try.prog 31 #[.slice b ln capb, .int .i64 x] W fun e w' => e = .returned (.bool (Rf.hasF ln L x)) ∧ w' = W := fun x W h => has_any ln L (by omega) b capb x W (hl.below h)
  have OWN : Hid (w.ownsRow w0.heap.size 5 1 (.slice (some ⟨g, 0, none⟩) n cap) n (byteVals (bl n B))) := own
  have HLOW : Hid (Below w0.heap.size w0 w) := hlow
  have HG : Hid (w0.heap.size ≤ g) := owns_low own
  have HL : Hid (RowI .i64 w0 b ln L) := hl
  have HN : Hid (m + 2 = n) := hmn
  have HOK : Hid (∀ i, i < ln → 0 ≤ L i ∧ L i < (n : Int) ∧ Rf.hasF i L (L i) = false) := fun i hi => Rf.okL_at hok hi
  have HMX : Hid (Try.prog.follows .mixedOrders = true) := by show _ = _; kernel_rfl
  have e1 : (n : Int) - 2 = (m : Int) := by omega
  have e2 : m < n := by omega
  have e3 : m + 1 < n := by omega
  have hSUM := sums_any m B hm g n cap hmn w (RowB.of_owns own)
  have FIX : Hid (Rf.fillB m B (Rf.lostD m ln L) (Rf.hasF ln L (m : Int)) (Rf.hasF ln L ((m : Int) + 1)) = Rf.fixPQ m (Rf.fixD m B (Rf.lostD m ln L) (Rf.hasF ln L (m : Int))) (Rf.hasF ln L (m : Int)) (Rf.hasF ln L ((m : Int) + 1))) := rfl
  obtain ⟨R, hR⟩ : ∃ R, Rf.fillB m B (Rf.lostD m ln L) (Rf.hasF ln L (m : Int)) (Rf.hasF ln L ((m : Int) + 1)) = R := ⟨_, rfl⟩
  rw [hR] at FIX
  rw [hR]
  obtain ⟨P, hP⟩ : ∃ y, Rf.synP m B = y := ⟨_, rfl⟩
  obtain ⟨Q, hQ⟩ : ∃ y, Rf.synQ m B = y := ⟨_, rfl⟩
  have HP : Hid (Rf.synP m B = P) := hP
  have HQ : Hid (Rf.synQ m B = Q) := hQ
  rw [hP, hQ] at hSUM
  have Pl := P.toNat_lt
  have Ql := Q.toNat_lt
  obtain ⟨i0, hi, hz0, hz1, hz2⟩ := info_parts info_i64
  clear own hlow hl hmn hok hR hP hQ
  go_enter Try.func23, Try.ntmps23
  go_wp2_with fail
  refine hSUM.mono ?_
  rintro e w1 ⟨rfl, s1⟩
  clear hSUM
  have OB : Hid (w1.ownsRow w0.heap.size 5 1 (.slice (some ⟨g, 0, none⟩) n cap) n (byteVals (bl n B))) := ownsRow_below OWN.out s1
  have LO : Hid (Below w0.heap.size w0 w1) := HLOW.out.trans (s1.mono HLOW.out.size)
  have hz1' := LO.out.size
  clear s1
  go_wp2
  go_loopg [8, 9] ln (fun gg u i wr => ∃ (k gd cd dl : Nat), k ≤ ln ∧ gg = ln - k ∧ u = .slice (some ⟨gd, 0, none⟩) dl cd ∧ i = .int .i64 k ∧ dl = (Rf.lostD m k L).length ∧ wr.ownsRow w1.heap.size 3 1 (.slice (some ⟨gd, 0, none⟩) dl cd) dl (placeVals (Rf.lostD m k L)) ∧ Below w1.heap.size w1 wr)
  case atStart => exact ⟨0, w1.heap.size, 0, 0, Nat.zero_le _, rfl, rfl, rfl, rfl, World.ownsRow_made w1 #[] 0 (Nat.le_refl _) (by decide) rfl, (Below.refl _ _).alloc (Nat.le_refl _) _⟩
  case round =>
    obtain ⟨k, gd, cd, dl, hk, rfl, rfl, rfl, hdl, od, hb⟩ := hrel
    have OD : Hid (wr.ownsRow w1.heap.size 3 1 (.slice (some ⟨gd, 0, none⟩) dl cd) dl (placeVals (Rf.lostD m k L))) := od
    have HB : Hid (Below w1.heap.size w1 wr) := hb
    have HDL : Hid (dl = (Rf.lostD m k L).length) := hdl
    have dl2 : dl ≤ 2 := by rw [hdl]; exact Nat.le_trans (Rf.lostD_length m k L) (by omega)
    have hsz := hb.size
    have LOW : Hid (Below w0.heap.size w0 wr) := LO.out.trans (hb.mono hz1')
    clear od hb hdl
    by_cases hkn : k < ln
    · obtain ⟨bb, bo, rfl, hc⟩ := HL.out k hkn
      have hc := (LOW.out.cell (p := ⟨bb, bo + k, none⟩) (World.block_lt_of_cell? w0 _ hc)).trans hc
      obtain ⟨v0, v1, _⟩ := HOK.out k hkn
      obtain ⟨y, hy⟩ := Int.eq_ofNat_of_zero_le v0
      rw [hy] at hc
      have HY : Hid (L k = (y : Int)) := hy
      by_cases hym : (y : Int) < (m : Int)
      · have E : Hid (Rf.lostD m (k + 1) L = Rf.lostD m k L ++ [y]) := by
          show _ = _; rw [Rf.lostD_yes (by rw [hy]; exact hym), hy]; rfl
        have t1 : True := trivial
        clear hy v0 v1
        go_wp2_with (at_builtin; have _t := t1; refine wpList_append_lies _ rfl _ _ 23 rfl w1.heap.size 3 i0 (.int .i64 0) 1 8 Try.underlying23 hi hz0 hz1 hz2 rfl (by decide) (.slice (some ⟨gd, 0, none⟩) dl cd) dl (placeVals (Rf.lostD m k L)) rfl (OD.out.alloc _) ⟨wr.heap.size, 0, none⟩ 1 1 [.int .i64 (y : Int)] rfl rfl (cell_one_new _ _ _) (by simp [Value.oneCell']) (by decide) (by unfold maxLen; omega) (by omega) (by simp; omega) _ rfl ?_; intro g1 c1 w3 own3 grow3 lies3 lt3; rw [placeVals_snoc, ← E.out] at own3; (have OD3 : Hid (w3.ownsRow w1.heap.size 3 1 (.slice (some ⟨g1, 0, none⟩) (dl + 1) c1) (dl + 1) (placeVals (Rf.lostD m (k + 1) L))) := own3); (have HB3 : Hid (Below w1.heap.size w1 w3) := HB.out.trans (below_append OD.out hsz grow3)); clear own3 grow3 lies3 lt3 t1)
        go_roundg (ln - (k + 1))
        case measure => omega
        case rel => exact ⟨k + 1, g1, c1, dl + 1, by omega, rfl, rfl, by go_num, by rw [E.out, List.length_append, HDL.out]; rfl, OD3.out, HB3.out⟩
      · have E : Hid (Rf.lostD m (k + 1) L = Rf.lostD m k L) := Rf.lostD_no (by rw [hy]; exact hym)
        clear hy v0 v1
        go_wp2
        go_roundg (ln - (k + 1))
        case measure => omega
        case rel => exact ⟨k + 1, gd, cd, dl, by omega, rfl, rfl, by go_num, by rw [E.out]; exact HDL.out, by rw [E.out]; exact OD.out, HB.out⟩
    · have hkk : k = ln := by omega
      subst hkk
      have MEM : Hid (∀ d, d ∈ Rf.lostD m k L → d < m) := fun d hd => (Rf.lostD_mem (fun i hi => (HOK.out i hi).1) hd).1
      have OBr : Hid (wr.ownsRow w0.heap.size 5 1 (.slice (some ⟨g, 0, none⟩) n cap) n (byteVals (bl n B))) := ownsRow_below OB.out HB.out
      have LOr : Hid (Below w0.heap.size w0 wr) := LOW.out
      obtain ⟨D, hD⟩ : ∃ D, Rf.lostD m k L = D := ⟨_, rfl⟩
      have HD : Hid (Rf.lostD m k L = D) := hD
      rw [hD] at OD HDL FIX MEM
      clear hD OB LO
      rcases D with _ | ⟨d, _ | ⟨e, _ | ⟨x, r⟩⟩⟩
      · have hdl0 : dl = 0 := HDL.out
        subst hdl0
        have OB := OBr
        have LO := LOr
        have FIX : Hid (R = Rf.fixPQ m B (Rf.hasF k L (m : Int)) (Rf.hasF k L ((m : Int) + 1))) := FIX.out
        go_wp2_with fail
        refine (sums_any m (B) hm g n cap HN.out _ (RowB.of_owns OB.out)).mono ?_
        rintro e v1 ⟨rfl, s1⟩
        have OB1 := ownsRow_below OB.out s1
        have LO1 : Below w0.heap.size w0 v1 := LO.out.trans (s1.mono LO.out.size)
        obtain ⟨P1, hP1⟩ : ∃ y, Rf.synP m (B) = y := ⟨_, rfl⟩
        obtain ⟨Q1, hQ1⟩ : ∃ y, Rf.synQ m (B) = y := ⟨_, rfl⟩
        have HP1 : Hid (Rf.synP m (B) = P1) := hP1
        have HQ1 : Hid (Rf.synQ m (B) = Q1) := hQ1
        rw [hP1, hQ1]
        have OB2 : Hid (v1.ownsRow w0.heap.size 5 1 (.slice (some ⟨g, 0, none⟩) n cap) n (byteVals (bl n (B)))) := OB1
        have LO2 : Hid (Below w0.heap.size w0 v1) := LO1
        have hA := HHAS (m : Int) v1 LO1
        clear s1 hP1 hQ1 OB1
        cases hp : Rf.hasF k L (m : Int) with
        | true =>
          rw [hp] at hA FIX
          clear hp
          go_wp2_with fail
          refine hA.mono ?_
          rintro e v2 ⟨rfl, hv2⟩
          subst v2
          have k1 : v1.cell? ⟨g, m, none⟩ = some (.int .u8 ((B m).toNat : Int)) := RowB.of_owns OB2.out m (by omega)
          have k2 : v1.frozen? ⟨g, m, none⟩ = false := OB2.out.frozenAt m
          obtain ⟨y, hy⟩ : ∃ y, B m = y := ⟨_, rfl⟩
          have HYy : Hid (B m = y) := hy
          rw [hy] at k1
          have x1 := u8_xor_bytes y P1
          have yl := y.toNat_lt
          obtain ⟨r, hr⟩ : ∃ r, y ^^^ P1 = r := ⟨_, rfl⟩
          have HRr : Hid (y ^^^ P1 = r) := hr
          rw [hr] at x1
          have OB3 : Hid ((v1.setCell ⟨g, m, none⟩ (.int .u8 (r.toNat : Int))).ownsRow w0.heap.size 5 1 (.slice (some ⟨g, 0, none⟩) n cap) n (byteVals (bl n (Gfm.upd (B) m r)))) := by
            have h := (OB2.out.stored m (.int .u8 (r.toNat : Int))).1
            rw [bl_set] at h
            exact h
          have LO3 : Hid (Below w0.heap.size w0 (v1.setCell ⟨g, m, none⟩ (.int .u8 (r.toNat : Int)))) := LO2.out.setCell (p := ⟨g, m, none⟩) HG.out _
          clear hy hr
          have hB := HHAS ((m : Int) + 1) _ LO3.out
          cases hq : Rf.hasF k L ((m : Int) + 1) with
          | true =>
            rw [hq] at hB FIX
            clear hq
            go_wp2_with fail
            refine hB.mono ?_
            rintro e v3 ⟨rfl, hv3⟩
            subst v3
            have j1 : (v1.setCell ⟨g, m, none⟩ (.int .u8 (r.toNat : Int))).cell? ⟨g, m + 1, none⟩ = some (.int .u8 ((B (m + 1)).toNat : Int)) := by have h := RowB.of_owns OB3.out (m + 1) (by omega); rw [Gfm.upd_other _ _ (by omega)] at h; exact h
            have j2 : (v1.setCell ⟨g, m, none⟩ (.int .u8 (r.toNat : Int))).frozen? ⟨g, m + 1, none⟩ = false := OB3.out.frozenAt (m + 1)
            obtain ⟨z, hz⟩ : ∃ z, B (m + 1) = z := ⟨_, rfl⟩
            have HZz : Hid (B (m + 1) = z) := hz
            rw [hz] at j1
            have x2 := u8_xor_bytes z Q1
            have zl := z.toNat_lt
            obtain ⟨t, ht⟩ : ∃ t, z ^^^ Q1 = t := ⟨_, rfl⟩
            have HTt : Hid (z ^^^ Q1 = t) := ht
            rw [ht] at x2
            have OB5 : Hid (((v1.setCell ⟨g, m, none⟩ (.int .u8 (r.toNat : Int))).setCell ⟨g, m + 1, none⟩ (.int .u8 (t.toNat : Int))).ownsRow w0.heap.size 5 1 (.slice (some ⟨g, 0, none⟩) n cap) n (byteVals (bl n (Gfm.upd (Gfm.upd (B) m r) (m + 1) t)))) := by
              have h := (OB3.out.stored (m + 1) (.int .u8 (t.toNat : Int))).1
              rw [bl_set] at h
              exact h
            have LO5 : Hid (Below w0.heap.size w0 ((v1.setCell ⟨g, m, none⟩ (.int .u8 (r.toNat : Int))).setCell ⟨g, m + 1, none⟩ (.int .u8 (t.toNat : Int)))) := LO3.out.setCell (p := ⟨g, m + 1, none⟩) HG.out _
            clear hz ht
            go_wp2
            go_ret
            refine ⟨rfl, ?_, LO5.out⟩
            rw [FIX.out, Rf.fixPQ_tt, HP1.out, HYy.out, HRr.out, HQ1.out, HZz.out, HTt.out]
            exact OB5.out
          | false =>
            rw [hq] at hB FIX
            clear hq
            go_wp2_with fail
            refine hB.mono ?_
            rintro e v3 ⟨rfl, hv3⟩
            subst v3
            go_wp2
            go_ret
            refine ⟨rfl, ?_, LO3.out⟩
            rw [FIX.out, Rf.fixPQ_tf, HP1.out, HYy.out, HRr.out]
            exact OB3.out
        | false =>
          rw [hp] at hA FIX
          clear hp
          go_wp2_with fail
          refine hA.mono ?_
          rintro e v2 ⟨rfl, hv2⟩
          subst v2
          have hB := HHAS ((m : Int) + 1) _ LO2.out
          cases hq : Rf.hasF k L ((m : Int) + 1) with
          | true =>
            rw [hq] at hB FIX
            clear hq
            go_wp2_with fail
            refine hB.mono ?_
            rintro e v3 ⟨rfl, hv3⟩
            subst v3
            have j1 : v1.cell? ⟨g, m + 1, none⟩ = some (.int .u8 ((B (m + 1)).toNat : Int)) := RowB.of_owns OB2.out (m + 1) (by omega)
            have j2 : v1.frozen? ⟨g, m + 1, none⟩ = false := OB2.out.frozenAt (m + 1)
            obtain ⟨z, hz⟩ : ∃ z, B (m + 1) = z := ⟨_, rfl⟩
            have HZz : Hid (B (m + 1) = z) := hz
            rw [hz] at j1
            have x2 := u8_xor_bytes z Q1
            have zl := z.toNat_lt
            obtain ⟨t, ht⟩ : ∃ t, z ^^^ Q1 = t := ⟨_, rfl⟩
            have HTt : Hid (z ^^^ Q1 = t) := ht
            rw [ht] at x2
            have OB5 : Hid ((v1.setCell ⟨g, m + 1, none⟩ (.int .u8 (t.toNat : Int))).ownsRow w0.heap.size 5 1 (.slice (some ⟨g, 0, none⟩) n cap) n (byteVals (bl n (Gfm.upd (B) (m + 1) t)))) := by
              have h := (OB2.out.stored (m + 1) (.int .u8 (t.toNat : Int))).1
              rw [bl_set] at h
              exact h
            have LO5 : Hid (Below w0.heap.size w0 (v1.setCell ⟨g, m + 1, none⟩ (.int .u8 (t.toNat : Int)))) := LO2.out.setCell (p := ⟨g, m + 1, none⟩) HG.out _
            clear hz ht
            go_wp2
            go_ret
            refine ⟨rfl, ?_, LO5.out⟩
            rw [FIX.out, Rf.fixPQ_ft, HQ1.out, HZz.out, HTt.out]
            exact OB5.out
          | false =>
            rw [hq] at hB FIX
            clear hq
            go_wp2_with fail
            refine hB.mono ?_
            rintro e v3 ⟨rfl, hv3⟩
            subst v3
            go_wp2
            go_ret
            refine ⟨rfl, ?_, LO2.out⟩
            rw [FIX.out, Rf.fixPQ_ff]
            exact OB2.out
      · have hdl1 : dl = 1 := HDL.out
        subst hdl1
        have hdm : d < m := MEM.out d (by simp)
        have hdn : d < n := by omega
        have cd0 : wr.cell? ⟨gd, 0, none⟩ = some (.int .i64 (d : Int)) := OD.out.cellAt 0 (by omega)
        have hA9 := HHAS (m : Int) wr LOW.out
        cases hp : Rf.hasF k L (m : Int) with
        | false =>
          have HPK : Hid (Rf.hasF k L (m : Int) = false) := hp
          have FIX : Hid (R = Rf.fixPQ m (Gfm.upd B d P) (Rf.hasF k L (m : Int)) (Rf.hasF k L ((m : Int) + 1))) := by
            show _ = _; rw [FIX.out, HPK.out, ← HP.out]; rfl
          rw [hp] at hA9
          have kd1 : wr.cell? ⟨g, d, none⟩ = some (.int .u8 ((B d).toNat : Int)) := RowB.of_owns OBr.out d hdn
          have kd2 : wr.frozen? ⟨g, d, none⟩ = false := OBr.out.frozenAt d
          have OB : Hid ((wr.setCell ⟨g, d, none⟩ (.int .u8 (P.toNat : Int))).ownsRow w0.heap.size 5 1 (.slice (some ⟨g, 0, none⟩) n cap) n (byteVals (bl n (Gfm.upd B d P)))) := by
            have h := (OBr.out.stored d (.int .u8 (P.toNat : Int))).1
            rw [bl_set] at h
            exact h
          have LO : Hid (Below w0.heap.size w0 (wr.setCell ⟨g, d, none⟩ (.int .u8 (P.toNat : Int)))) := LOW.out.setCell (p := ⟨g, d, none⟩) HG.out _
          clear hp
          go_wp2_with fail
          refine hA9.mono ?_
          rintro e v0 ⟨rfl, hv0⟩
          subst v0
          clear hA9
          go_wp2_with fail
          refine (sums_any m (Gfm.upd B d P) hm g n cap HN.out _ (RowB.of_owns OB.out)).mono ?_
          rintro e v1 ⟨rfl, s1⟩
          have OB1 := ownsRow_below OB.out s1
          have LO1 : Below w0.heap.size w0 v1 := LO.out.trans (s1.mono LO.out.size)
          obtain ⟨P1, hP1⟩ : ∃ y, Rf.synP m (Gfm.upd B d P) = y := ⟨_, rfl⟩
          obtain ⟨Q1, hQ1⟩ : ∃ y, Rf.synQ m (Gfm.upd B d P) = y := ⟨_, rfl⟩
          have HP1 : Hid (Rf.synP m (Gfm.upd B d P) = P1) := hP1
          have HQ1 : Hid (Rf.synQ m (Gfm.upd B d P) = Q1) := hQ1
          rw [hP1, hQ1]
          have OB2 : Hid (v1.ownsRow w0.heap.size 5 1 (.slice (some ⟨g, 0, none⟩) n cap) n (byteVals (bl n (Gfm.upd B d P)))) := OB1
          have LO2 : Hid (Below w0.heap.size w0 v1) := LO1
          have hA := HHAS (m : Int) v1 LO1
          clear s1 hP1 hQ1 OB1
          rw [HPK.out] at hA FIX
          go_wp2_with fail
          refine hA.mono ?_
          rintro e v2 ⟨rfl, hv2⟩
          subst v2
          have hB := HHAS ((m : Int) + 1) _ LO2.out
          cases hq : Rf.hasF k L ((m : Int) + 1) with
          | true =>
            rw [hq] at hB FIX
            clear hq
            go_wp2_with fail
            refine hB.mono ?_
            rintro e v3 ⟨rfl, hv3⟩
            subst v3
            have j1 : v1.cell? ⟨g, m + 1, none⟩ = some (.int .u8 ((Gfm.upd B d P (m + 1)).toNat : Int)) := RowB.of_owns OB2.out (m + 1) (by omega)
            have j2 : v1.frozen? ⟨g, m + 1, none⟩ = false := OB2.out.frozenAt (m + 1)
            obtain ⟨z, hz⟩ : ∃ z, Gfm.upd B d P (m + 1) = z := ⟨_, rfl⟩
            have HZz : Hid (Gfm.upd B d P (m + 1) = z) := hz
            rw [hz] at j1
            have x2 := u8_xor_bytes z Q1
            have zl := z.toNat_lt
            obtain ⟨t, ht⟩ : ∃ t, z ^^^ Q1 = t := ⟨_, rfl⟩
            have HTt : Hid (z ^^^ Q1 = t) := ht
            rw [ht] at x2
            have OB5 : Hid ((v1.setCell ⟨g, m + 1, none⟩ (.int .u8 (t.toNat : Int))).ownsRow w0.heap.size 5 1 (.slice (some ⟨g, 0, none⟩) n cap) n (byteVals (bl n (Gfm.upd (Gfm.upd B d P) (m + 1) t)))) := by
              have h := (OB2.out.stored (m + 1) (.int .u8 (t.toNat : Int))).1
              rw [bl_set] at h
              exact h
            have LO5 : Hid (Below w0.heap.size w0 (v1.setCell ⟨g, m + 1, none⟩ (.int .u8 (t.toNat : Int)))) := LO2.out.setCell (p := ⟨g, m + 1, none⟩) HG.out _
            clear hz ht
            go_wp2
            go_ret
            refine ⟨rfl, ?_, LO5.out⟩
            rw [FIX.out, Rf.fixPQ_ft, HQ1.out, HZz.out, HTt.out]
            exact OB5.out
          | false =>
            rw [hq] at hB FIX
            clear hq
            go_wp2_with fail
            refine hB.mono ?_
            rintro e v3 ⟨rfl, hv3⟩
            subst v3
            go_wp2
            go_ret
            refine ⟨rfl, ?_, LO2.out⟩
            rw [FIX.out, Rf.fixPQ_ff]
            exact OB2.out
        | true =>
          have HPK : Hid (Rf.hasF k L (m : Int) = true) := hp
          obtain ⟨S, hS⟩ : ∃ S, Rf.solve1 d Q = S := ⟨_, rfl⟩
          have HS : Hid (Rf.solve1 d Q = S) := hS
          have FIX : Hid (R = Rf.fixPQ m (Gfm.upd B d S) (Rf.hasF k L (m : Int)) (Rf.hasF k L ((m : Int) + 1))) := by
            show _ = _; rw [FIX.out, HPK.out, ← HS.out, ← HQ.out]; rfl
          rw [hp] at hA9
          clear hp hS
          go_wp2_with fail
          refine hA9.mono ?_
          rintro e v0 ⟨rfl, hv0⟩
          subst v0
          clear hA9
          go_wp2
          go_loopg [10] 256 (fun gg i wr => ∃ x : Nat, x ≤ 256 ∧ gg = 256 - x ∧ i = .int .i64 x ∧ wr.ownsRow w0.heap.size 5 1 (.slice (some ⟨g, 0, none⟩) n cap) n (byteVals (bl n (Rf.tried S B (Gfm.upd B d S) x))) ∧ wr.ownsRow w1.heap.size 3 1 (.slice (some ⟨gd, 0, none⟩) 1 cd) 1 (placeVals [d]) ∧ Below w0.heap.size w0 wr)
          case atStart => exact ⟨0, by omega, rfl, rfl, by rw [Rf.tried_zero]; exact OBr.out, OD.out, LOr.out⟩
          case round =>
            obtain ⟨x, hx, rfl, rfl, ob, od, lo⟩ := hrel
            have OBx : Hid (wr.ownsRow w0.heap.size 5 1 (.slice (some ⟨g, 0, none⟩) n cap) n (byteVals (bl n (Rf.tried S B (Gfm.upd B d S) x)))) := ob
            have ODx : Hid (wr.ownsRow w1.heap.size 3 1 (.slice (some ⟨gd, 0, none⟩) 1 cd) 1 (placeVals [d])) := od
            have LOx : Hid (Below w0.heap.size w0 wr) := lo
            have cdx : wr.cell? ⟨gd, 0, none⟩ = some (.int .i64 (d : Int)) := od.cellAt 0 (by omega)
            clear ob od lo cd0
            by_cases h256 : x < 256
            · have hE : ∀ W, Calls Try.prog 49 #[.int .i64 (d : Int)] W fun e w' => e = .returned (.int .u8 (Gfm.pE d : Nat)) ∧ w' = W := fun W => refExp_any (d : Int) W
              have hM := fun W => refMul_any x (Gfm.pE d) h256 (Gfm.pE_lt d) W
              have hpl := Gfm.pE_lt d
              have hml : Gfm.mul x (Gfm.pE d) < 256 := Gfm.mul_lt h256
              have hval : Gfm.mul x (Gfm.pE d) = (Gfm.mulU (UInt8.ofNat x) (Gfm.pE d)).toNat := by rw [Gfm.mulU_toNat, Rf.ofNat_lt h256]
              by_cases hit : x = S.toNat
              · have e9 : ((Gfm.mul x (Gfm.pE d) : Nat) : Int) = (Q.toNat : Int) := by
                  rw [hval, Rf.of_toNat hit, (Rf.solve1_iff d S Q).2 HS.out.symm]
                have hq9 : (((Gfm.mul x (Gfm.pE d) : Nat) : Int) == (Q.toNat : Int)) = true := by rw [beq_iff_eq]; exact e9
                have HT : Hid (Rf.tried S B (Gfm.upd B d S) x = B ∧ Rf.tried S B (Gfm.upd B d S) (x + 1) = Gfm.upd B d S) := Rf.tried_hit S _ _ hit
                have kd1 : wr.cell? ⟨g, d, none⟩ = some (.int .u8 (((Rf.tried S B (Gfm.upd B d S) x) d).toNat : Int)) := RowB.of_owns OBx.out d hdn
                have kd2 : wr.frozen? ⟨g, d, none⟩ = false := OBx.out.frozenAt d
                have st := OBx.out.stored d (.int .u8 (S.toNat : Int))
                rw [bl_set, HT.out.1] at st
                have OBy : Hid ((wr.setCell ⟨g, d, none⟩ (.int .u8 (x : Int))).ownsRow w0.heap.size 5 1 (.slice (some ⟨g, 0, none⟩) n cap) n (byteVals (bl n (Rf.tried S B (Gfm.upd B d S) (x + 1))))) := by
                  show World.ownsRow _ _ _ _ _ _ _; rw [HT.out.2, hit]; exact st.1
                have ODy : Hid ((wr.setCell ⟨g, d, none⟩ (.int .u8 (x : Int))).ownsRow w1.heap.size 3 1 (.slice (some ⟨gd, 0, none⟩) 1 cd) 1 (placeVals [d])) := by
                  show World.ownsRow _ _ _ _ _ _ _; rw [hit]; exact ODx.out.kept st.2 (ownsRow_apart ODx.out OBx.out (by decide))
                have LOy : Hid (Below w0.heap.size w0 (wr.setCell ⟨g, d, none⟩ (.int .u8 (x : Int)))) := LOx.out.setCell (p := ⟨g, d, none⟩) HG.out _
                clear hval e9 hit st
                obtain ⟨z, hz⟩ : ∃ z, Gfm.mul x (Gfm.pE d) = z := ⟨_, rfl⟩
                obtain ⟨t, ht⟩ : ∃ t, Gfm.pE d = t := ⟨_, rfl⟩
                rw [hz] at hM hq9 hml
                rw [ht] at hE hM hpl
                clear hz ht
                go_wp2_with fail
                refine (hE _).mono ?_
                rintro e v3 ⟨rfl, hv3⟩
                subst v3
                go_wp2_with fail
                refine (hM _).mono ?_
                rintro e v3 ⟨rfl, hv3⟩
                subst v3
                go_wp2
                go_roundg (256 - (x + 1))
                case measure => omega
                case rel => exact ⟨x + 1, by omega, rfl, by go_num, OBy.out, ODy.out, LOy.out⟩
              · have hq9 : (((Gfm.mul x (Gfm.pE d) : Nat) : Int) == (Q.toNat : Int)) = false := by
                  rw [beq_eq_false_iff_ne]; intro h
                  have h2 : Gfm.mulU (UInt8.ofNat x) (Gfm.pE d) = Q := UInt8.toNat_inj.1 (by rw [← hval]; omega)
                  have h3 := (Rf.solve1_iff d _ Q).1 h2
                  rw [HS.out] at h3
                  exact hit (by rw [← h3, Rf.ofNat_lt h256])
                have OBy : Hid (wr.ownsRow w0.heap.size 5 1 (.slice (some ⟨g, 0, none⟩) n cap) n (byteVals (bl n (Rf.tried S B (Gfm.upd B d S) (x + 1))))) := by
                  show World.ownsRow _ _ _ _ _ _ _; rw [Rf.tried_miss S _ _ hit]; exact OBx.out
                clear hval hit
                obtain ⟨z, hz⟩ : ∃ z, Gfm.mul x (Gfm.pE d) = z := ⟨_, rfl⟩
                obtain ⟨t, ht⟩ : ∃ t, Gfm.pE d = t := ⟨_, rfl⟩
                rw [hz] at hM hq9 hml
                rw [ht] at hE hM hpl
                clear hz ht
                go_wp2_with fail
                refine (hE _).mono ?_
                rintro e v3 ⟨rfl, hv3⟩
                subst v3
                go_wp2_with fail
                refine (hM _).mono ?_
                rintro e v3 ⟨rfl, hv3⟩
                subst v3
                go_wp2
                go_roundg (256 - (x + 1))
                case measure => omega
                case rel => exact ⟨x + 1, by omega, rfl, by go_num, OBy.out, ODx.out, LOx.out⟩
            · have hxx : x = 256 := by omega
              subst hxx
              have OB : Hid (wr.ownsRow w0.heap.size 5 1 (.slice (some ⟨g, 0, none⟩) n cap) n (byteVals (bl n (Gfm.upd B d S)))) := by
                show World.ownsRow _ _ _ _ _ _ _; have h := OBx.out; rw [Rf.tried_all] at h; exact h
              have LO := LOx
              go_wp2_with fail
              refine (sums_any m (Gfm.upd B d S) hm g n cap HN.out _ (RowB.of_owns OB.out)).mono ?_
              rintro e v1 ⟨rfl, s1⟩
              have OB1 := ownsRow_below OB.out s1
              have LO1 : Below w0.heap.size w0 v1 := LO.out.trans (s1.mono LO.out.size)
              obtain ⟨P1, hP1⟩ : ∃ y, Rf.synP m (Gfm.upd B d S) = y := ⟨_, rfl⟩
              obtain ⟨Q1, hQ1⟩ : ∃ y, Rf.synQ m (Gfm.upd B d S) = y := ⟨_, rfl⟩
              have HP1 : Hid (Rf.synP m (Gfm.upd B d S) = P1) := hP1
              have HQ1 : Hid (Rf.synQ m (Gfm.upd B d S) = Q1) := hQ1
              rw [hP1, hQ1]
              have OB2 : Hid (v1.ownsRow w0.heap.size 5 1 (.slice (some ⟨g, 0, none⟩) n cap) n (byteVals (bl n (Gfm.upd B d S)))) := OB1
              have LO2 : Hid (Below w0.heap.size w0 v1) := LO1
              have hA := HHAS (m : Int) v1 LO1
              clear s1 hP1 hQ1 OB1
              rw [HPK.out] at hA FIX
              go_wp2_with fail
              refine hA.mono ?_
              rintro e v2 ⟨rfl, hv2⟩
              subst v2
              have k1 : v1.cell? ⟨g, m, none⟩ = some (.int .u8 ((Gfm.upd B d S m).toNat : Int)) := RowB.of_owns OB2.out m (by omega)
              have k2 : v1.frozen? ⟨g, m, none⟩ = false := OB2.out.frozenAt m
              obtain ⟨y, hy⟩ : ∃ y, Gfm.upd B d S m = y := ⟨_, rfl⟩
              have HYy : Hid (Gfm.upd B d S m = y) := hy
              rw [hy] at k1
              have x1 := u8_xor_bytes y P1
              have yl := y.toNat_lt
              obtain ⟨r, hr⟩ : ∃ r, y ^^^ P1 = r := ⟨_, rfl⟩
              have HRr : Hid (y ^^^ P1 = r) := hr
              rw [hr] at x1
              have OB3 : Hid ((v1.setCell ⟨g, m, none⟩ (.int .u8 (r.toNat : Int))).ownsRow w0.heap.size 5 1 (.slice (some ⟨g, 0, none⟩) n cap) n (byteVals (bl n (Gfm.upd (Gfm.upd B d S) m r)))) := by
                have h := (OB2.out.stored m (.int .u8 (r.toNat : Int))).1
                rw [bl_set] at h
                exact h
              have LO3 : Hid (Below w0.heap.size w0 (v1.setCell ⟨g, m, none⟩ (.int .u8 (r.toNat : Int)))) := LO2.out.setCell (p := ⟨g, m, none⟩) HG.out _
              clear hy hr
              have hB := HHAS ((m : Int) + 1) _ LO3.out
              cases hq : Rf.hasF k L ((m : Int) + 1) with
              | true =>
                rw [hq] at hB FIX
                clear hq
                go_wp2_with fail
                refine hB.mono ?_
                rintro e v3 ⟨rfl, hv3⟩
                subst v3
                have j1 : (v1.setCell ⟨g, m, none⟩ (.int .u8 (r.toNat : Int))).cell? ⟨g, m + 1, none⟩ = some (.int .u8 ((Gfm.upd B d S (m + 1)).toNat : Int)) := by have h := RowB.of_owns OB3.out (m + 1) (by omega); rw [Gfm.upd_other _ _ (by omega)] at h; exact h
                have j2 : (v1.setCell ⟨g, m, none⟩ (.int .u8 (r.toNat : Int))).frozen? ⟨g, m + 1, none⟩ = false := OB3.out.frozenAt (m + 1)
                obtain ⟨z, hz⟩ : ∃ z, Gfm.upd B d S (m + 1) = z := ⟨_, rfl⟩
                have HZz : Hid (Gfm.upd B d S (m + 1) = z) := hz
                rw [hz] at j1
                have x2 := u8_xor_bytes z Q1
                have zl := z.toNat_lt
                obtain ⟨t, ht⟩ : ∃ t, z ^^^ Q1 = t := ⟨_, rfl⟩
                have HTt : Hid (z ^^^ Q1 = t) := ht
                rw [ht] at x2
                have OB5 : Hid (((v1.setCell ⟨g, m, none⟩ (.int .u8 (r.toNat : Int))).setCell ⟨g, m + 1, none⟩ (.int .u8 (t.toNat : Int))).ownsRow w0.heap.size 5 1 (.slice (some ⟨g, 0, none⟩) n cap) n (byteVals (bl n (Gfm.upd (Gfm.upd (Gfm.upd B d S) m r) (m + 1) t)))) := by
                  have h := (OB3.out.stored (m + 1) (.int .u8 (t.toNat : Int))).1
                  rw [bl_set] at h
                  exact h
                have LO5 : Hid (Below w0.heap.size w0 ((v1.setCell ⟨g, m, none⟩ (.int .u8 (r.toNat : Int))).setCell ⟨g, m + 1, none⟩ (.int .u8 (t.toNat : Int)))) := LO3.out.setCell (p := ⟨g, m + 1, none⟩) HG.out _
                clear hz ht
                go_wp2
                go_ret
                refine ⟨rfl, ?_, LO5.out⟩
                rw [FIX.out, Rf.fixPQ_tt, HP1.out, HYy.out, HRr.out, HQ1.out, HZz.out, HTt.out]
                exact OB5.out
              | false =>
                rw [hq] at hB FIX
                clear hq
                go_wp2_with fail
                refine hB.mono ?_
                rintro e v3 ⟨rfl, hv3⟩
                subst v3
                go_wp2
                go_ret
                refine ⟨rfl, ?_, LO3.out⟩
                rw [FIX.out, Rf.fixPQ_tf, HP1.out, HYy.out, HRr.out]
                exact OB3.out
      · have hdl2 : dl = 2 := HDL.out
        subst hdl2
        have hdm : d < m := MEM.out d (by simp)
        have hem : e < m := MEM.out e (by simp)
        have hdn : d < n := by omega
        have hen : e < n := by omega
        have hde : d ≠ e := Rf.lostD_two hln HOK.out HD.out
        obtain ⟨S, hS⟩ : ∃ S, Rf.solve2 d e P Q = S := ⟨_, rfl⟩
        have HS : Hid (Rf.solve2 d e P Q = S) := hS
        obtain ⟨C, hC⟩ : ∃ C, Gfm.upd (Gfm.upd B d S) e (S ^^^ P) = C := ⟨_, rfl⟩
        have HC : Hid (Gfm.upd (Gfm.upd B d S) e (S ^^^ P) = C) := hC
        have FIX : Hid (R = Rf.fixPQ m C (Rf.hasF k L (m : Int)) (Rf.hasF k L ((m : Int) + 1))) := by
          show _ = _; rw [FIX.out, ← HC.out, ← HS.out, ← HQ.out, ← HP.out]; rfl
        have SOLVE : Hid (∀ X : UInt8, Gfm.mulU X (Gfm.pE d) ^^^ Gfm.mulU (X ^^^ P) (Gfm.pE e) = Q ↔ X = S) := fun X => by
          rw [← HS.out]; exact Rf.solve2_iff hde (by omega) (by omega) X P Q
        clear hS hC
        go_wp2
        go_loopg [11, 12] 256 (fun gg i _ wr => ∃ x : Nat, x ≤ 256 ∧ gg = 256 - x ∧ i = .int .i64 x ∧ wr.ownsRow w0.heap.size 5 1 (.slice (some ⟨g, 0, none⟩) n cap) n (byteVals (bl n (Rf.tried S B C x))) ∧ wr.ownsRow w1.heap.size 3 1 (.slice (some ⟨gd, 0, none⟩) 2 cd) 2 (placeVals [d, e]) ∧ Below w0.heap.size w0 wr)
        case atStart => exact ⟨0, by omega, rfl, rfl, by rw [Rf.tried_zero]; exact OBr.out, OD.out, LOr.out⟩
        case round =>
          obtain ⟨x, hx, rfl, rfl, ob, od, lo⟩ := hrel
          have OBx : Hid (wr.ownsRow w0.heap.size 5 1 (.slice (some ⟨g, 0, none⟩) n cap) n (byteVals (bl n (Rf.tried S B C x)))) := ob
          have ODx : Hid (wr.ownsRow w1.heap.size 3 1 (.slice (some ⟨gd, 0, none⟩) 2 cd) 2 (placeVals [d, e])) := od
          have LOx : Hid (Below w0.heap.size w0 wr) := lo
          have cdx : wr.cell? ⟨gd, 0, none⟩ = some (.int .i64 (d : Int)) := od.cellAt 0 (by omega)
          have cdy : wr.cell? ⟨gd, 1, none⟩ = some (.int .i64 (e : Int)) := od.cellAt 1 (by omega)
          clear ob od lo
          by_cases h256 : x < 256
          · obtain ⟨X, hX⟩ : ∃ X : UInt8, x = X.toNat := ⟨UInt8.ofNat x, (Rf.ofNat_lt h256).symm⟩
            subst hX
            have x1 := u8_xor_bytes X P
            have hE1 : ∀ W, Calls Try.prog 49 #[.int .i64 (d : Int)] W fun e w' => e = .returned (.int .u8 (Gfm.pE d : Nat)) ∧ w' = W := fun W => refExp_any (d : Int) W
            have hE2 : ∀ W, Calls Try.prog 49 #[.int .i64 (e : Int)] W fun e' w' => e' = .returned (.int .u8 (Gfm.pE e : Nat)) ∧ w' = W := fun W => refExp_any (e : Int) W
            have hM1 := fun W => refMul_u8 X (Gfm.pE d) (Gfm.pE_lt d) W
            have hM2 := fun W => refMul_u8 (X ^^^ P) (Gfm.pE e) (Gfm.pE_lt e) W
            have x2 := u8_xor_bytes (Gfm.mulU X (Gfm.pE d)) (Gfm.mulU (X ^^^ P) (Gfm.pE e))
            have hp1 := Gfm.pE_lt d
            have hp2 := Gfm.pE_lt e
            have SX := SOLVE.out X
            obtain ⟨Y, hY⟩ : ∃ Y, X ^^^ P = Y := ⟨_, rfl⟩
            have HYx : Hid (X ^^^ P = Y) := hY
            rw [hY] at x1 hM2 x2 SX
            obtain ⟨M1, hM1e⟩ : ∃ y, Gfm.mulU X (Gfm.pE d) = y := ⟨_, rfl⟩
            obtain ⟨M2, hM2e⟩ : ∃ y, Gfm.mulU Y (Gfm.pE e) = y := ⟨_, rfl⟩
            rw [hM1e] at hM1 x2 SX
            rw [hM2e] at hM2 x2 SX
            obtain ⟨Z, hZ⟩ : ∃ y, M1 ^^^ M2 = y := ⟨_, rfl⟩
            rw [hZ] at x2 SX
            obtain ⟨t1, ht1⟩ : ∃ t, Gfm.pE d = t := ⟨_, rfl⟩
            obtain ⟨t2, ht2⟩ : ∃ t, Gfm.pE e = t := ⟨_, rfl⟩
            rw [ht1] at hE1 hM1 hp1
            rw [ht2] at hE2 hM2 hp2
            have Xl := X.toNat_lt
            have wX : IntKind.u8.wrap (X.toNat : Int) = (X.toNat : Int) := by rw [IntKind.wrap_u8]; omega
            have Yl := Y.toNat_lt
            have M1l := M1.toNat_lt
            have M2l := M2.toNat_lt
            have Zl := Z.toNat_lt
            have hS0 : wr.cell? ⟨gd, 0, none⟩ = some (.int .i64 (d : Int)) ∧ wr.cell? ⟨gd, 1, none⟩ = some (.int .i64 (e : Int)) ∧ Below wr.heap.size wr wr.drew := ⟨cdx, cdy, (Below.refl _ _).drew⟩
            have hsx := LOx.out.size
            clear hY hM1e hM2e hZ ht1 ht2
            by_cases hit : X = S
            · have hq9 : ((Z.toNat : Int) == (Q.toNat : Int)) = true := by rw [beq_iff_eq, SX.2 hit]
              have HT : Hid (Rf.tried S B C X.toNat = B ∧ Rf.tried S B C (X.toNat + 1) = C) := Rf.tried_hit S _ _ (by rw [hit])
              have HXS : Hid (X = S) := hit
              clear SX hit
              go_wp2_with fail
              refine region_det (fun W => W.cell? ⟨gd, 0, none⟩ = some (.int .i64 (d : Int)) ∧ W.cell? ⟨gd, 1, none⟩ = some (.int .i64 (e : Int)) ∧ Below wr.heap.size wr W) HMX.out (by kernel_rfl) hS0 ?_
              refine det_read 0 (v := ?vx1) rfl (by kernel_rfl) rfl ?hyx1 ?restx1
              case hyx1 => (intro wS hSw; (try dsimp only at hSw); go_simp; try with_reducible rfl)
              try simp only [Act.put, List.setIfInBounds_toArray, List.set_cons_zero, List.set_cons_succ]
              refine det_read 1 (v := ?vx2) rfl (by kernel_rfl) rfl ?hyx2 ?restx2
              case hyx2 => (intro wS hSw; (try dsimp only at hSw); go_simp; try with_reducible rfl)
              try simp only [Act.put, List.setIfInBounds_toArray, List.set_cons_zero, List.set_cons_succ]
              refine det_read 2 (v := ?vx3) rfl (by kernel_rfl) rfl ?hyx3 ?restx3
              case hyx3 => (intro wS hSw; (try dsimp only at hSw); go_simp; try with_reducible rfl)
              try simp only [Act.put, List.setIfInBounds_toArray, List.set_cons_zero, List.set_cons_succ]
              refine det_read 3 (v := ?vx4) rfl (by kernel_rfl) rfl ?hyx4 ?restx4
              case hyx4 => (intro wS hSw; (try dsimp only at hSw); go_simp; try with_reducible rfl)
              try simp only [Act.put, List.setIfInBounds_toArray, List.set_cons_zero, List.set_cons_succ]
              refine det_read 4 (v := ?vx5) rfl (by kernel_rfl) rfl ?hyx5 ?restx5
              case hyx5 => (intro wS hSw; (try dsimp only at hSw); go_simp; try with_reducible rfl)
              try simp only [Act.put, List.setIfInBounds_toArray, List.set_cons_zero, List.set_cons_succ]
              refine det_call 5 rfl (by kernel_rfl) rfl ?hyx25 (fun W h => (hE1 W).mono fun _ _ ⟨e, hw⟩ => ⟨e, by rw [hw]; exact h⟩) ?restx25
              case hyx25 => (intro wS hSw; go_simp; try with_reducible rfl)
              try simp only [Act.put, List.setIfInBounds_toArray, List.set_cons_zero, List.set_cons_succ]
              refine det_call 6 rfl (by kernel_rfl) rfl ?hyx26 (fun W h => (hM1 W).mono fun _ _ ⟨e, hw⟩ => ⟨e, by rw [hw]; exact h⟩) ?restx26
              case hyx26 => (intro wS hSw; go_simp; try with_reducible rfl)
              try simp only [Act.put, List.setIfInBounds_toArray, List.set_cons_zero, List.set_cons_succ]
              refine det_read 7 (v := ?vx6) rfl (by kernel_rfl) rfl ?hyx6 ?restx6
              case hyx6 => (intro wS hSw; (try dsimp only at hSw); go_simp; try with_reducible rfl)
              try simp only [Act.put, List.setIfInBounds_toArray, List.set_cons_zero, List.set_cons_succ]
              refine det_read 8 (v := ?vx7) rfl (by kernel_rfl) rfl ?hyx7 ?restx7
              case hyx7 => (intro wS hSw; (try dsimp only at hSw); go_simp; try with_reducible rfl)
              try simp only [Act.put, List.setIfInBounds_toArray, List.set_cons_zero, List.set_cons_succ]
              refine det_read 9 (v := ?vx8) rfl (by kernel_rfl) rfl ?hyx8 ?restx8
              case hyx8 => (intro wS hSw; (try dsimp only at hSw); go_simp; try with_reducible rfl)
              try simp only [Act.put, List.setIfInBounds_toArray, List.set_cons_zero, List.set_cons_succ]
              refine det_read 10 (v := ?vx9) rfl (by kernel_rfl) rfl ?hyx9 ?restx9
              case hyx9 => (intro wS hSw; (try dsimp only at hSw); go_simp; try with_reducible rfl)
              try simp only [Act.put, List.setIfInBounds_toArray, List.set_cons_zero, List.set_cons_succ]
              refine det_call 11 rfl (by kernel_rfl) rfl ?hyx27 (fun W h => (hE2 W).mono fun _ _ ⟨e, hw⟩ => ⟨e, by rw [hw]; exact h⟩) ?restx27
              case hyx27 => (intro wS hSw; go_simp; try with_reducible rfl)
              try simp only [Act.put, List.setIfInBounds_toArray, List.set_cons_zero, List.set_cons_succ]
              refine det_call 12 rfl (by kernel_rfl) rfl ?hyx28 (fun W h => (hM2 W).mono fun _ _ ⟨e, hw⟩ => ⟨e, by rw [hw]; exact h⟩) ?restx28
              case hyx28 => (intro wS hSw; go_simp; try with_reducible rfl)
              try simp only [Act.put, List.setIfInBounds_toArray, List.set_cons_zero, List.set_cons_succ]
              refine det_read 13 (v := ?vx10) rfl (by kernel_rfl) rfl ?hyx10 ?restx10
              case hyx10 => (intro wS hSw; (try dsimp only at hSw); go_simp; try with_reducible rfl)
              try simp only [Act.put, List.setIfInBounds_toArray, List.set_cons_zero, List.set_cons_succ]
              refine det_read 14 (v := ?vx11) rfl (by kernel_rfl) rfl ?hyx11 ?restx11
              case hyx11 => (intro wS hSw; (try dsimp only at hSw); go_simp; try with_reducible rfl)
              try simp only [Act.put, List.setIfInBounds_toArray, List.set_cons_zero, List.set_cons_succ]
              refine det_read 15 (v := ?vx12) rfl (by kernel_rfl) rfl ?hyx12 ?restx12
              case hyx12 => (intro wS hSw; (try dsimp only at hSw); go_simp; try with_reducible rfl)
              try simp only [Act.put, List.setIfInBounds_toArray, List.set_cons_zero, List.set_cons_succ]
              refine det_done (by kernel_rfl) ?_
              rintro v2 ⟨c0, c1, bW⟩
              have OBv := ownsRow_below OBx.out bW
              have ODv := ownsRow_below ODx.out bW
              have LOv : Below w0.heap.size w0 v2 := LOx.out.trans (bW.mono hsx)
              rw [HT.out.1] at OBv
              have kd1 : v2.cell? ⟨g, d, none⟩ = some (.int .u8 ((B d).toNat : Int)) := RowB.of_owns OBv d hdn
              have kd2 : v2.frozen? ⟨g, d, none⟩ = false := OBv.frozenAt d
              have st := OBv.stored d (.int .u8 (X.toNat : Int))
              rw [bl_set] at st
              have ODw := ODv.kept st.2 (ownsRow_apart ODv OBv (by decide))
              obtain ⟨u1, hu1⟩ : ∃ u1, v2.setCell ⟨g, d, none⟩ (.int .u8 (X.toNat : Int)) = u1 := ⟨_, rfl⟩
              have st1 := st.1
              have c1' : (v2.setCell ⟨g, d, none⟩ (.int .u8 (X.toNat : Int))).cell? ⟨gd, 1, none⟩ = some (.int .i64 (e : Int)) := ODw.cellAt 1 (by omega)
              have ke1 : (v2.setCell ⟨g, d, none⟩ (.int .u8 (X.toNat : Int))).cell? ⟨g, e, none⟩ = some (.int .u8 (((Gfm.upd B d X) e).toNat : Int)) := RowB.of_owns st1 e hen
              have ke2 : (v2.setCell ⟨g, d, none⟩ (.int .u8 (X.toNat : Int))).frozen? ⟨g, e, none⟩ = false := st1.frozenAt e
              have st2 := st1.stored e (.int .u8 (Y.toNat : Int))
              rw [bl_set] at st2
              have OBy : Hid (((v2.setCell ⟨g, d, none⟩ (.int .u8 (X.toNat : Int))).setCell ⟨g, e, none⟩ (.int .u8 (Y.toNat : Int))).ownsRow w0.heap.size 5 1 (.slice (some ⟨g, 0, none⟩) n cap) n (byteVals (bl n (Rf.tried S B C (X.toNat + 1))))) := by
                show World.ownsRow _ _ _ _ _ _ _; rw [HT.out.2, ← HC.out, ← HXS.out, HYx.out]; exact st2.1
              have ODy : Hid (((v2.setCell ⟨g, d, none⟩ (.int .u8 (X.toNat : Int))).setCell ⟨g, e, none⟩ (.int .u8 (Y.toNat : Int))).ownsRow w1.heap.size 3 1 (.slice (some ⟨gd, 0, none⟩) 2 cd) 2 (placeVals [d, e])) :=
                ODw.kept st2.2 (ownsRow_apart ODw st1 (by decide))
              have LOy : Hid (Below w0.heap.size w0 ((v2.setCell ⟨g, d, none⟩ (.int .u8 (X.toNat : Int))).setCell ⟨g, e, none⟩ (.int .u8 (Y.toNat : Int)))) := (LOv.setCell (p := ⟨g, d, none⟩) HG.out _).setCell (p := ⟨g, e, none⟩) HG.out _
              clear st st1 st2 ODw ODv OBv LOv bW hu1
              go_wp2
              go_roundg (256 - (X.toNat + 1))
              case measure => omega
              case rel => exact ⟨X.toNat + 1, by omega, rfl, by go_num, OBy.out, ODy.out, LOy.out⟩
            · have hq9 : ((Z.toNat : Int) == (Q.toNat : Int)) = false := by
                rw [beq_eq_false_iff_ne]; intro h; exact hit (SX.1 (UInt8.toNat_inj.1 (by omega)))
              have HTm : Hid (Rf.tried S B C (X.toNat + 1) = Rf.tried S B C X.toNat) := Rf.tried_miss S _ _ (fun h => hit (UInt8.toNat_inj.1 h))
              clear SX hit
              go_wp2_with fail
              refine region_det (fun W => W.cell? ⟨gd, 0, none⟩ = some (.int .i64 (d : Int)) ∧ W.cell? ⟨gd, 1, none⟩ = some (.int .i64 (e : Int)) ∧ Below wr.heap.size wr W) HMX.out (by kernel_rfl) hS0 ?_
              refine det_read 0 (v := ?vx13) rfl (by kernel_rfl) rfl ?hyx13 ?restx13
              case hyx13 => (intro wS hSw; (try dsimp only at hSw); go_simp; try with_reducible rfl)
              try simp only [Act.put, List.setIfInBounds_toArray, List.set_cons_zero, List.set_cons_succ]
              refine det_read 1 (v := ?vx14) rfl (by kernel_rfl) rfl ?hyx14 ?restx14
              case hyx14 => (intro wS hSw; (try dsimp only at hSw); go_simp; try with_reducible rfl)
              try simp only [Act.put, List.setIfInBounds_toArray, List.set_cons_zero, List.set_cons_succ]
              refine det_read 2 (v := ?vx15) rfl (by kernel_rfl) rfl ?hyx15 ?restx15
              case hyx15 => (intro wS hSw; (try dsimp only at hSw); go_simp; try with_reducible rfl)
              try simp only [Act.put, List.setIfInBounds_toArray, List.set_cons_zero, List.set_cons_succ]
              refine det_read 3 (v := ?vx16) rfl (by kernel_rfl) rfl ?hyx16 ?restx16
              case hyx16 => (intro wS hSw; (try dsimp only at hSw); go_simp; try with_reducible rfl)
              try simp only [Act.put, List.setIfInBounds_toArray, List.set_cons_zero, List.set_cons_succ]
              refine det_read 4 (v := ?vx17) rfl (by kernel_rfl) rfl ?hyx17 ?restx17
              case hyx17 => (intro wS hSw; (try dsimp only at hSw); go_simp; try with_reducible rfl)
              try simp only [Act.put, List.setIfInBounds_toArray, List.set_cons_zero, List.set_cons_succ]
              refine det_call 5 rfl (by kernel_rfl) rfl ?hyx29 (fun W h => (hE1 W).mono fun _ _ ⟨e, hw⟩ => ⟨e, by rw [hw]; exact h⟩) ?restx29
              case hyx29 => (intro wS hSw; go_simp; try with_reducible rfl)
              try simp only [Act.put, List.setIfInBounds_toArray, List.set_cons_zero, List.set_cons_succ]
              refine det_call 6 rfl (by kernel_rfl) rfl ?hyx30 (fun W h => (hM1 W).mono fun _ _ ⟨e, hw⟩ => ⟨e, by rw [hw]; exact h⟩) ?restx30
              case hyx30 => (intro wS hSw; go_simp; try with_reducible rfl)
              try simp only [Act.put, List.setIfInBounds_toArray, List.set_cons_zero, List.set_cons_succ]
              refine det_read 7 (v := ?vx18) rfl (by kernel_rfl) rfl ?hyx18 ?restx18
              case hyx18 => (intro wS hSw; (try dsimp only at hSw); go_simp; try with_reducible rfl)
              try simp only [Act.put, List.setIfInBounds_toArray, List.set_cons_zero, List.set_cons_succ]
              refine det_read 8 (v := ?vx19) rfl (by kernel_rfl) rfl ?hyx19 ?restx19
              case hyx19 => (intro wS hSw; (try dsimp only at hSw); go_simp; try with_reducible rfl)
              try simp only [Act.put, List.setIfInBounds_toArray, List.set_cons_zero, List.set_cons_succ]
              refine det_read 9 (v := ?vx20) rfl (by kernel_rfl) rfl ?hyx20 ?restx20
              case hyx20 => (intro wS hSw; (try dsimp only at hSw); go_simp; try with_reducible rfl)
              try simp only [Act.put, List.setIfInBounds_toArray, List.set_cons_zero, List.set_cons_succ]
              refine det_read 10 (v := ?vx21) rfl (by kernel_rfl) rfl ?hyx21 ?restx21
              case hyx21 => (intro wS hSw; (try dsimp only at hSw); go_simp; try with_reducible rfl)
              try simp only [Act.put, List.setIfInBounds_toArray, List.set_cons_zero, List.set_cons_succ]
              refine det_call 11 rfl (by kernel_rfl) rfl ?hyx31 (fun W h => (hE2 W).mono fun _ _ ⟨e, hw⟩ => ⟨e, by rw [hw]; exact h⟩) ?restx31
              case hyx31 => (intro wS hSw; go_simp; try with_reducible rfl)
              try simp only [Act.put, List.setIfInBounds_toArray, List.set_cons_zero, List.set_cons_succ]
              refine det_call 12 rfl (by kernel_rfl) rfl ?hyx32 (fun W h => (hM2 W).mono fun _ _ ⟨e, hw⟩ => ⟨e, by rw [hw]; exact h⟩) ?restx32
              case hyx32 => (intro wS hSw; go_simp; try with_reducible rfl)
              try simp only [Act.put, List.setIfInBounds_toArray, List.set_cons_zero, List.set_cons_succ]
              refine det_read 13 (v := ?vx22) rfl (by kernel_rfl) rfl ?hyx22 ?restx22
              case hyx22 => (intro wS hSw; (try dsimp only at hSw); go_simp; try with_reducible rfl)
              try simp only [Act.put, List.setIfInBounds_toArray, List.set_cons_zero, List.set_cons_succ]
              refine det_read 14 (v := ?vx23) rfl (by kernel_rfl) rfl ?hyx23 ?restx23
              case hyx23 => (intro wS hSw; (try dsimp only at hSw); go_simp; try with_reducible rfl)
              try simp only [Act.put, List.setIfInBounds_toArray, List.set_cons_zero, List.set_cons_succ]
              refine det_read 15 (v := ?vx24) rfl (by kernel_rfl) rfl ?hyx24 ?restx24
              case hyx24 => (intro wS hSw; (try dsimp only at hSw); go_simp; try with_reducible rfl)
              try simp only [Act.put, List.setIfInBounds_toArray, List.set_cons_zero, List.set_cons_succ]
              refine det_done (by kernel_rfl) ?_
              rintro v2 ⟨_, _, bW⟩
              have OBy : Hid (v2.ownsRow w0.heap.size 5 1 (.slice (some ⟨g, 0, none⟩) n cap) n (byteVals (bl n (Rf.tried S B C (X.toNat + 1))))) := by
                show World.ownsRow _ _ _ _ _ _ _; rw [HTm.out]; exact ownsRow_below OBx.out bW
              have ODy : Hid (v2.ownsRow w1.heap.size 3 1 (.slice (some ⟨gd, 0, none⟩) 2 cd) 2 (placeVals [d, e])) := ownsRow_below ODx.out bW
              have LOy : Hid (Below w0.heap.size w0 v2) := LOx.out.trans (bW.mono hsx)
              clear bW
              go_wp2
              go_roundg (256 - (X.toNat + 1))
              case measure => omega
              case rel => exact ⟨X.toNat + 1, by omega, rfl, by go_num, OBy.out, ODy.out, LOy.out⟩
          · have hxx : x = 256 := by omega
            subst hxx
            have OB : Hid (wr.ownsRow w0.heap.size 5 1 (.slice (some ⟨g, 0, none⟩) n cap) n (byteVals (bl n C))) := by
              show World.ownsRow _ _ _ _ _ _ _; have h := OBx.out; rw [Rf.tried_all] at h; exact h
            have LO := LOx
            go_wp2_with fail
            refine (sums_any m (C) hm g n cap HN.out _ (RowB.of_owns OB.out)).mono ?_
            rintro e v1 ⟨rfl, s1⟩
            have OB1 := ownsRow_below OB.out s1
            have LO1 : Below w0.heap.size w0 v1 := LO.out.trans (s1.mono LO.out.size)
            obtain ⟨P1, hP1⟩ : ∃ y, Rf.synP m (C) = y := ⟨_, rfl⟩
            obtain ⟨Q1, hQ1⟩ : ∃ y, Rf.synQ m (C) = y := ⟨_, rfl⟩
            have HP1 : Hid (Rf.synP m (C) = P1) := hP1
            have HQ1 : Hid (Rf.synQ m (C) = Q1) := hQ1
            rw [hP1, hQ1]
            have OB2 : Hid (v1.ownsRow w0.heap.size 5 1 (.slice (some ⟨g, 0, none⟩) n cap) n (byteVals (bl n (C)))) := OB1
            have LO2 : Hid (Below w0.heap.size w0 v1) := LO1
            have hA := HHAS (m : Int) v1 LO1
            clear s1 hP1 hQ1 OB1
            cases hp : Rf.hasF k L (m : Int) with
            | true =>
              rw [hp] at hA FIX
              clear hp
              go_wp2_with fail
              refine hA.mono ?_
              rintro e v2 ⟨rfl, hv2⟩
              subst v2
              have k1 : v1.cell? ⟨g, m, none⟩ = some (.int .u8 ((C m).toNat : Int)) := RowB.of_owns OB2.out m (by omega)
              have k2 : v1.frozen? ⟨g, m, none⟩ = false := OB2.out.frozenAt m
              obtain ⟨y, hy⟩ : ∃ y, C m = y := ⟨_, rfl⟩
              have HYy : Hid (C m = y) := hy
              rw [hy] at k1
              have x1 := u8_xor_bytes y P1
              have yl := y.toNat_lt
              obtain ⟨r, hr⟩ : ∃ r, y ^^^ P1 = r := ⟨_, rfl⟩
              have HRr : Hid (y ^^^ P1 = r) := hr
              rw [hr] at x1
              have OB3 : Hid ((v1.setCell ⟨g, m, none⟩ (.int .u8 (r.toNat : Int))).ownsRow w0.heap.size 5 1 (.slice (some ⟨g, 0, none⟩) n cap) n (byteVals (bl n (Gfm.upd (C) m r)))) := by
                have h := (OB2.out.stored m (.int .u8 (r.toNat : Int))).1
                rw [bl_set] at h
                exact h
              have LO3 : Hid (Below w0.heap.size w0 (v1.setCell ⟨g, m, none⟩ (.int .u8 (r.toNat : Int)))) := LO2.out.setCell (p := ⟨g, m, none⟩) HG.out _
              clear hy hr
              have hB := HHAS ((m : Int) + 1) _ LO3.out
              cases hq : Rf.hasF k L ((m : Int) + 1) with
              | true =>
                rw [hq] at hB FIX
                clear hq
                go_wp2_with fail
                refine hB.mono ?_
                rintro e v3 ⟨rfl, hv3⟩
                subst v3
                have j1 : (v1.setCell ⟨g, m, none⟩ (.int .u8 (r.toNat : Int))).cell? ⟨g, m + 1, none⟩ = some (.int .u8 ((C (m + 1)).toNat : Int)) := by have h := RowB.of_owns OB3.out (m + 1) (by omega); rw [Gfm.upd_other _ _ (by omega)] at h; exact h
                have j2 : (v1.setCell ⟨g, m, none⟩ (.int .u8 (r.toNat : Int))).frozen? ⟨g, m + 1, none⟩ = false := OB3.out.frozenAt (m + 1)
                obtain ⟨z, hz⟩ : ∃ z, C (m + 1) = z := ⟨_, rfl⟩
                have HZz : Hid (C (m + 1) = z) := hz
                rw [hz] at j1
                have x2 := u8_xor_bytes z Q1
                have zl := z.toNat_lt
                obtain ⟨t, ht⟩ : ∃ t, z ^^^ Q1 = t := ⟨_, rfl⟩
                have HTt : Hid (z ^^^ Q1 = t) := ht
                rw [ht] at x2
                have OB5 : Hid (((v1.setCell ⟨g, m, none⟩ (.int .u8 (r.toNat : Int))).setCell ⟨g, m + 1, none⟩ (.int .u8 (t.toNat : Int))).ownsRow w0.heap.size 5 1 (.slice (some ⟨g, 0, none⟩) n cap) n (byteVals (bl n (Gfm.upd (Gfm.upd (C) m r) (m + 1) t)))) := by
                  have h := (OB3.out.stored (m + 1) (.int .u8 (t.toNat : Int))).1
                  rw [bl_set] at h
                  exact h
                have LO5 : Hid (Below w0.heap.size w0 ((v1.setCell ⟨g, m, none⟩ (.int .u8 (r.toNat : Int))).setCell ⟨g, m + 1, none⟩ (.int .u8 (t.toNat : Int)))) := LO3.out.setCell (p := ⟨g, m + 1, none⟩) HG.out _
                clear hz ht
                go_wp2
                go_ret
                refine ⟨rfl, ?_, LO5.out⟩
                rw [FIX.out, Rf.fixPQ_tt, HP1.out, HYy.out, HRr.out, HQ1.out, HZz.out, HTt.out]
                exact OB5.out
              | false =>
                rw [hq] at hB FIX
                clear hq
                go_wp2_with fail
                refine hB.mono ?_
                rintro e v3 ⟨rfl, hv3⟩
                subst v3
                go_wp2
                go_ret
                refine ⟨rfl, ?_, LO3.out⟩
                rw [FIX.out, Rf.fixPQ_tf, HP1.out, HYy.out, HRr.out]
                exact OB3.out
            | false =>
              rw [hp] at hA FIX
              clear hp
              go_wp2_with fail
              refine hA.mono ?_
              rintro e v2 ⟨rfl, hv2⟩
              subst v2
              have hB := HHAS ((m : Int) + 1) _ LO2.out
              cases hq : Rf.hasF k L ((m : Int) + 1) with
              | true =>
                rw [hq] at hB FIX
                clear hq
                go_wp2_with fail
                refine hB.mono ?_
                rintro e v3 ⟨rfl, hv3⟩
                subst v3
                have j1 : v1.cell? ⟨g, m + 1, none⟩ = some (.int .u8 ((C (m + 1)).toNat : Int)) := RowB.of_owns OB2.out (m + 1) (by omega)
                have j2 : v1.frozen? ⟨g, m + 1, none⟩ = false := OB2.out.frozenAt (m + 1)
                obtain ⟨z, hz⟩ : ∃ z, C (m + 1) = z := ⟨_, rfl⟩
                have HZz : Hid (C (m + 1) = z) := hz
                rw [hz] at j1
                have x2 := u8_xor_bytes z Q1
                have zl := z.toNat_lt
                obtain ⟨t, ht⟩ : ∃ t, z ^^^ Q1 = t := ⟨_, rfl⟩
                have HTt : Hid (z ^^^ Q1 = t) := ht
                rw [ht] at x2
                have OB5 : Hid ((v1.setCell ⟨g, m + 1, none⟩ (.int .u8 (t.toNat : Int))).ownsRow w0.heap.size 5 1 (.slice (some ⟨g, 0, none⟩) n cap) n (byteVals (bl n (Gfm.upd (C) (m + 1) t)))) := by
                  have h := (OB2.out.stored (m + 1) (.int .u8 (t.toNat : Int))).1
                  rw [bl_set] at h
                  exact h
                have LO5 : Hid (Below w0.heap.size w0 (v1.setCell ⟨g, m + 1, none⟩ (.int .u8 (t.toNat : Int)))) := LO2.out.setCell (p := ⟨g, m + 1, none⟩) HG.out _
                clear hz ht
                go_wp2
                go_ret
                refine ⟨rfl, ?_, LO5.out⟩
                rw [FIX.out, Rf.fixPQ_ft, HQ1.out, HZz.out, HTt.out]
                exact OB5.out
              | false =>
                rw [hq] at hB FIX
                clear hq
                go_wp2_with fail
                refine hB.mono ?_
                rintro e v3 ⟨rfl, hv3⟩
                subst v3
                go_wp2
                go_ret
                refine ⟨rfl, ?_, LO2.out⟩
                rw [FIX.out, Rf.fixPQ_ff]
                exact OB2.out
      · exfalso
        have h1 := HDL.out
        have h2 := Rf.lostD_length m k L
        rw [HD.out] at h2
        simp at h2
        omega
end Go.Proofs.Ytjephdeolifbpaa
