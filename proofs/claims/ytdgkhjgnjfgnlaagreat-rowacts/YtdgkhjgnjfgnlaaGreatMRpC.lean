import Derived.Test.YtdgkhjgnjfgnlaaGreatMRpB
import Derived.Test.YtdgkhjgnjfgnlaaGreatMRwD
import Derived.Test.YtdgkhjgnjfgnlaaGreatMDrvC
import Derived.Deep.LoopGhost
namespace Go.Proofs.YtdgkhjgnjfgnlaaGreat
open Go.RowKit
attribute [local go_sem] Oper.semAt_some
section
variable {c k r : Nat} {da ba : Option Addr} {dn dcap bn bcap : Nat} {C : Nat → Ro.Col} {bf : Nat → Int}
theorem pRead16_any (hok : Lay.ok (c : Int) (k : Int) (r : Int)) (hdn : dn ≤ 1000000) (row off : Int) (w : World) (h : PrSet w da dn ba bn C bf) :
  Calls Tryz.prog 12 #[.agg #[.int .i64 (c : Int), .int .i64 (k : Int), .int .i64 (r : Int), .slice da dn dcap, .slice ba bn bcap], .int .i64 row, .int .i64 off] w (RdSays w (Ro.readE c k r dn bn C bf row off) (Ro.readN c k r dn bn C bf row off) (Ro.oneX c k C bf row off) (Ro.readL c k r dn bn C bf row off)) := by
 by_cases hc : Ro.chk c k r dn bn C row off = 0
 ·obtain ⟨h1, h2, ⟨⟨r1, r2⟩, o1, o2⟩, _⟩ := Ro.chk_yes hc
  subst h1
  subst h2
  obtain ⟨R, rfl⟩ : ∃ R : Nat, row = (R : Int) := ⟨row.toNat, by omega⟩
  obtain ⟨O, rfl⟩ : ∃ O : Nat, off = (O : Int) := ⟨off.toNat, by omega⟩
  exact read16_yes (dcap := dcap) (bcap := bcap) hok R O w h hc
 ·have hE : Ro.readE c k r dn bn C bf row off = Ro.chk c k r dn bn C row off := by unfold Ro.readE; rw [if_neg hc]
  unfold Ro.readN Ro.readL
  rw [hE, if_neg hc, if_neg hc]
  refine (read16_no (dcap := dcap) (bcap := bcap) hok hdn row off w h hc).mono ?_
  rintro e w' ⟨rfl, hb⟩
  exact ⟨⟨none, 0, none, 0, rfl, RowS.nil _ _ _, Nat.le_refl _, fun j hj => absurd hj (Nat.not_lt_zero _), Nat.le_refl _⟩, hb⟩
theorem pLost16_any (hok : Lay.ok (c : Int) (k : Int) (r : Int)) (hdn : dn ≤ 1000000) (row : Int) (w : World) (h : PrSet w da dn ba bn C bf) :
  Calls Tryz.prog 18 #[.agg #[.int .i64 (c : Int), .int .i64 (k : Int), .int .i64 (r : Int), .slice da dn dcap, .slice ba bn bcap], .int .i64 row] w (LsAns w (Ro.lostE c k r dn bn C row) (Ro.lostL c k r dn bn C bf row)) := by
 by_cases hc : Ro.chk c k r dn bn C row 0 = 0
 ·obtain ⟨h1, h2, ⟨⟨r1, r2⟩, _⟩, _⟩ := Ro.chk_yes hc
  subst h1
  subst h2
  obtain ⟨R, rfl⟩ : ∃ R : Nat, row = (R : Int) := ⟨row.toNat, by omega⟩
  unfold Ro.lostE Ro.lostL
  rw [if_pos hc, hc]
  exact lost16_yes (dcap := dcap) (bcap := bcap) hok R 0 rfl w h hc
 ·unfold Ro.lostE Ro.lostL
  rw [if_neg hc]
  refine (lost16_no (dcap := dcap) (bcap := bcap) hok hdn row w h hc).mono ?_
  rintro e w' ⟨rfl, hb⟩
  exact ⟨⟨none, 0, rfl, fun j hj => absurd hj (Nat.not_lt_zero _), Nat.le_refl _⟩, hb⟩
theorem Ro.one_fitsP {w : World} (h : PrSet w da dn ba bn C bf) (hc : 0 < c) (hdn : dn = c) (row off : Int) : Fits 1048576 c (Ro.oneX c k C bf row off) := by
 intro q _
 have hz := Ro.colN_lt (row := row.toNat) (role := q) hc
 unfold Ro.oneX
 split
 ·exact Nat.zero_le _
 ·cases hC : C (Ro.colN c row.toNat q) with
  | none => exact Nat.zero_le _
  | some x =>
   obtain ⟨p, D⟩ := x
   obtain ⟨G, hG⟩ := h.drv _ p D (by omega) hC
   show (txt (D.readS (4 + row * k + off))).size ≤ _
   have h64 := Dr.read_len hG.ok (4 + row * k + off)
   have e : (txt (D.readS (4 + row * k + off))).size = (D.readS (4 + row * k + off)).length := by simp [txt, ByteArray.size]
   omega
set_option maxRecDepth 100000 in
set_option maxHeartbeats 4000000 in
theorem pFilled16_any (hok : Lay.ok (c : Int) (k : Int) (r : Int)) (hdn : dn ≤ 1000000) (row off : Int) (w : World) (h : PrSet w da dn ba bn C bf) :
  Calls Tryz.prog 14 #[.agg #[.int .i64 (c : Int), .int .i64 (k : Int), .int .i64 (r : Int), .slice da dn dcap, .slice ba bn bcap], .int .i64 row, .int .i64 off] w
   (FdSays w (Ro.filledE c k r dn bn C bf row off) (Ro.filledN c k r dn bn C bf row off) (Ro.filledF c k r dn bn C bf row off) (Ro.filledL c k r dn bn C bf row off)) := by
 have X0 : Hid (At5 w w.heap.size c k r (.slice da dn dcap) (.slice ba bn bcap) (w.alloc (.cells #[.int .i64 (c : Int), .int .i64 (k : Int), .int .i64 (r : Int), .slice da dn dcap, .slice ba bn bcap] 30))) := At5.new _ _ _ _ _ _ _
 have hrd := pRead16_any (dcap := dcap) (bcap := bcap) hok hdn row off _ (h.below X0.out.2.2.2.2.2)
 have hlast : w.heap.size < (w.alloc (.cells #[.int .i64 (c : Int), .int .i64 (k : Int), .int .i64 (r : Int), .slice da dn dcap, .slice ba bn bcap] 30)).heap.size := World.block_lt_of_cell? _ _ X0.out.1
 have hc10 : c ≤ 10 := by have := hok.1; omega
 by_cases hE : Ro.readE c k r dn bn C bf row off = 0
 ·have hN : Ro.readN c k r dn bn C bf row off = c := if_pos hE
  have hdc : dn = c := by
   refine (Ro.chk_yes (c := c) (k := k) (r := r) (dn := dn) (bn := bn) (C := C) (row := row) (off := off) ?_).1
   by_cases hc : Ro.chk c k r dn bn C row off = 0
   ·exact hc
   ·unfold Ro.readE at hE; rw [if_neg hc] at hE; exact absurd hE hc
  have hfit : Fits 1048576 c (Ro.oneX c k C bf row off) := Ro.one_fitsP h (by have := hok.1; omega) hdc row off
  rw [hE, hN] at hrd
  have e1 : Ro.filledE c k r dn bn C bf row off = Rf.mayF c (Ro.oneX c k C bf row off) (Ro.readL c k r dn bn C bf row off).length (Ro.lostF c k r dn bn C bf row off) := if_pos hE
  have hll := Ro.readL_len (c := c) (k := k) (r := r) (dn := dn) (bn := bn) (C := C) (bf := bf) row off
  unfold Ro.filledN Ro.filledL Ro.filledF
  rw [e1]
  obtain ⟨L, hL⟩ : ∃ L, Ro.readL c k r dn bn C bf row off = L := ⟨_, rfl⟩
  have hLF : Ro.lostF c k r dn bn C bf row off = fun j => L.getD j 0 := by funext j; unfold Ro.lostF; rw [hL]
  rw [hL] at hrd hll ⊢
  rw [hLF]
  obtain ⟨f, hf⟩ : ∃ f, Ro.oneX c k C bf row off = f := ⟨_, rfl⟩
  rw [hf] at hrd hfit ⊢
  have HFL : Hid (∀ W a cap b capb, c ≤ cap → L.length ≤ capb → RowS W a c f → RowI .i64 W b L.length (fun j => L.getD j 0) → Calls Tryz.prog 47 #[.slice a c cap, .slice b L.length capb] W fun e w' => FillSays c f L.length (fun j => L.getD j 0) e w' ∧ Below W.heap.size W w') := fun W a cap b capb hca hb hr hl => Fill_says c f (by omega) hfit a cap hca L.length _ (by omega) b capb hb W hr hl
  unfold FillSays at HFL
  obtain ⟨y, hy⟩ : ∃ y, Rf.mayF c f L.length (fun j => L.getD j 0) = y := ⟨_, rfl⟩
  obtain ⟨F, hF⟩ : ∃ F, Rf.fillF c f L.length (fun j => L.getD j 0) = F := ⟨_, rfl⟩
  rw [hy] at HFL ⊢
  rw [hF] at HFL ⊢
  obtain ⟨ln, hln⟩ : ∃ ln, L.length = ln := ⟨_, rfl⟩
  have HLN : Hid (L.length = ln) := hln
  have HRD : Hid (Calls Tryz.prog 12 #[.agg #[.int .i64 (c : Int), .int .i64 (k : Int), .int .i64 (r : Int), .slice da dn dcap, .slice ba bn bcap], .int .i64 row, .int .i64 off] (w.alloc (.cells #[.int .i64 (c : Int), .int .i64 (k : Int), .int .i64 (r : Int), .slice da dn dcap, .slice ba bn bcap] 30)) (RdSays (w.alloc (.cells #[.int .i64 (c : Int), .int .i64 (k : Int), .int .i64 (r : Int), .slice da dn dcap, .slice ba bn bcap] 30)) 0 c f L)) := hrd
  obtain ⟨k0, k1, k2, k3, k4, _⟩ := X0.out
  by_cases hy0 : y = 0
  ·have HN1 : Hid ((if y = 0 then c else 0) = c ∧ (if y = 0 then L else []) = L) := ⟨if_pos hy0, if_pos hy0⟩
   rw [HN1.out.1, HN1.out.2]
   subst hy0
   have HK : Hid (Rf.kF c 0 = c) := Rf.kF_ok c
   clear hrd h hfit hf hy hF hL hLF e1 hE hN hln hdc hok HN1
   go_enter Tryz.func14, Tryz.ntmps14
   go_wp2_with fail
   refine HRD.out.mono ?_
   rintro e w1 ⟨⟨al, cl, ai, ci, rfl, hr1, hcl1, hi1, hc1⟩, hb1⟩
   have B1 : Hid (Below w.heap.size w w1) := (X0.out.kept hb1).2.2.2.2.2
   have hfl := HFL.out w1 al cl ai ci hcl1 hc1 hr1 hi1
   have HF1 : Hid (Calls Tryz.prog 47 #[.slice al c cl, .slice ai L.length ci] w1 fun e w' => (∃ g c_1, e = .returned (.tuple #[.slice g (Rf.kF c 0) c_1, .int .i64 0]) ∧ RowS w' g (Rf.kF c 0) F ∧ Rf.kF c 0 ≤ c_1) ∧ Below w1.heap.size w1 w') := hfl
   have HI1 : Hid (RowI .i64 w1 ai L.length (fun j => L.getD j 0) ∧ L.length ≤ ci) := ⟨hi1, hc1⟩
   clear hr1 hi1 hc1 hcl1 hb1 hfl HFL HRD X0 k0 k1 k2 k3 k4 hlast
   go_wp2_with fail
   refine HF1.out.mono ?_
   rintro e w2 ⟨⟨g, c2, rfl, hr2, hc2⟩, hb2⟩
   rw [HK.out] at hr2 hc2 ⊢
   have B2 : Hid (Below w.heap.size w w2) := B1.out.trans (hb2.mono B1.out.size)
   have HR2 : Hid (RowS w2 g c F ∧ c ≤ c2 ∧ RowI .i64 w2 ai L.length (fun j => L.getD j 0)) := ⟨hr2, hc2, HI1.out.1.below hb2⟩
   clear hr2 hc2 hb2
   go_wp2
   go_ret3
   exact ⟨⟨g, c2, ai, ci, rfl, HR2.out.1, HR2.out.2.1, HR2.out.2.2, HI1.out.2⟩, B2.out⟩
  ·have HN1 : Hid ((if y = 0 then c else 0) = 0 ∧ (if y = 0 then L else []) = []) := ⟨if_neg hy0, if_neg hy0⟩
   rw [HN1.out.1, HN1.out.2]
   have v1 : (y != 0) = true := by rw [bne_iff_ne]; exact hy0
   have HK : Hid (Rf.kF c y = 0) := Rf.kF_no hy0
   clear hrd h hfit hf hy hF hL hLF e1 hE hN hln hdc hok HN1 hy0
   go_enter Tryz.func14, Tryz.ntmps14
   go_wp2_with fail
   refine HRD.out.mono ?_
   rintro e w1 ⟨⟨al, cl, ai, ci, rfl, hr1, hcl1, hi1, hc1⟩, hb1⟩
   have B1 : Hid (Below w.heap.size w w1) := (X0.out.kept hb1).2.2.2.2.2
   have hfl := HFL.out w1 al cl ai ci hcl1 hc1 hr1 hi1
   have HF1 : Hid (Calls Tryz.prog 47 #[.slice al c cl, .slice ai L.length ci] w1 fun e w' => (∃ g c_1, e = .returned (.tuple #[.slice g (Rf.kF c y) c_1, .int .i64 y]) ∧ RowS w' g (Rf.kF c y) F ∧ Rf.kF c y ≤ c_1) ∧ Below w1.heap.size w1 w') := hfl
   clear hr1 hi1 hc1 hcl1 hb1 hfl HFL HRD X0 k0 k1 k2 k3 k4 hlast
   go_wp2_with fail
   refine HF1.out.mono ?_
   rintro e w2 ⟨⟨g, c2, rfl, _, _⟩, hb2⟩
   have B2 : Hid (Below w.heap.size w w2) := B1.out.trans (hb2.mono B1.out.size)
   rw [HK.out]
   clear hb2
   go_wp2
   go_ret3
   exact ⟨⟨none, 0, none, 0, rfl, RowS.nil _ _ _, Nat.le_refl _, RowI.nil _ _ _ _, Nat.le_refl _⟩, B2.out⟩
 ·have e1 : Ro.filledE c k r dn bn C bf row off = ((Ro.readE c k r dn bn C bf row off : Nat) : Int) := if_neg hE
  unfold Ro.filledN Ro.filledL
  rw [e1, if_neg (by omega), if_neg (by omega)]
  obtain ⟨E, hEE⟩ : ∃ E, Ro.readE c k r dn bn C bf row off = E := ⟨_, rfl⟩
  rw [hEE] at hrd hE ⊢
  have v1 : ((E : Int) != 0) = true := by rw [bne_iff_ne]; omega
  have HRD : Hid (Calls Tryz.prog 12 #[.agg #[.int .i64 (c : Int), .int .i64 (k : Int), .int .i64 (r : Int), .slice da dn dcap, .slice ba bn bcap], .int .i64 row, .int .i64 off] (w.alloc (.cells #[.int .i64 (c : Int), .int .i64 (k : Int), .int .i64 (r : Int), .slice da dn dcap, .slice ba bn bcap] 30)) (RdSays (w.alloc (.cells #[.int .i64 (c : Int), .int .i64 (k : Int), .int .i64 (r : Int), .slice da dn dcap, .slice ba bn bcap] 30)) E (Ro.readN c k r dn bn C bf row off) (Ro.oneX c k C bf row off) (Ro.readL c k r dn bn C bf row off))) := hrd
  obtain ⟨k0, k1, k2, k3, k4, _⟩ := X0.out
  clear hrd h e1 hEE hE hok
  go_enter Tryz.func14, Tryz.ntmps14
  go_wp2_with fail
  refine HRD.out.mono ?_
  rintro e w1 ⟨⟨al, cl, ai, ci, rfl, _, _, _, _⟩, hb1⟩
  have B1 : Hid (Below w.heap.size w w1) := (X0.out.kept hb1).2.2.2.2.2
  clear hb1
  go_wp2
  go_ret3
  exact ⟨⟨none, 0, none, 0, rfl, RowS.nil _ _ _, Nat.le_refl _, RowI.nil _ _ _ _, Nat.le_refl _⟩, B1.out⟩
end
end Go.Proofs.YtdgkhjgnjfgnlaaGreat
namespace Go.Proofs.YtdgkhjgnjfgnlaaGreat
open Go.RowKit
attribute [local go_sem] Oper.semAt_some
theorem keep_p7 {w W W' : World} {b : Nat} {x0 x1 x2 x3 x4 x5 x6 : Value} (hb : Below W.heap.size W W')
  (h : W.cell? ⟨b, 0, none⟩ = some x0 ∧ W.cell? ⟨b, 1, none⟩ = some x1 ∧ W.cell? ⟨b, 2, none⟩ = some x2 ∧ W.cell? ⟨b, 3, none⟩ = some x3 ∧ W.cell? ⟨b, 4, none⟩ = some x4 ∧ W.cell? ⟨b, 5, none⟩ = some x5 ∧ W.cell? ⟨b, 6, none⟩ = some x6 ∧ Below w.heap.size w W) :
  W'.cell? ⟨b, 0, none⟩ = some x0 ∧ W'.cell? ⟨b, 1, none⟩ = some x1 ∧ W'.cell? ⟨b, 2, none⟩ = some x2 ∧ W'.cell? ⟨b, 3, none⟩ = some x3 ∧ W'.cell? ⟨b, 4, none⟩ = some x4 ∧ W'.cell? ⟨b, 5, none⟩ = some x5 ∧ W'.cell? ⟨b, 6, none⟩ = some x6 ∧ Below w.heap.size w W' := by
 obtain ⟨h0, h1, h2, h3, h4, h5, h6, h7⟩ := h
 have hl := World.block_lt_of_cell? W _ h0
 exact ⟨(hb.cell (p := ⟨b, 0, none⟩) hl).trans h0, (hb.cell (p := ⟨b, 1, none⟩) hl).trans h1, (hb.cell (p := ⟨b, 2, none⟩) hl).trans h2, (hb.cell (p := ⟨b, 3, none⟩) hl).trans h3, (hb.cell (p := ⟨b, 4, none⟩) hl).trans h4, (hb.cell (p := ⟨b, 5, none⟩) hl).trans h5, (hb.cell (p := ⟨b, 6, none⟩) hl).trans h6, h7.trans (hb.mono h7.size)⟩
theorem p7_low {w W : World} {b : Nat} {x0 x1 x2 x3 x4 x5 x6 : Value}
  (h : W.cell? ⟨b, 0, none⟩ = some x0 ∧ W.cell? ⟨b, 1, none⟩ = some x1 ∧ W.cell? ⟨b, 2, none⟩ = some x2 ∧ W.cell? ⟨b, 3, none⟩ = some x3 ∧ W.cell? ⟨b, 4, none⟩ = some x4 ∧ W.cell? ⟨b, 5, none⟩ = some x5 ∧ W.cell? ⟨b, 6, none⟩ = some x6 ∧ Below w.heap.size w W) : Below w.heap.size w W := h.2.2.2.2.2.2.2
section
variable {c k r : Nat} {da ba : Option Addr} {dn dcap bn bcap : Nat} {C : Nat → Ro.Col} {bf : Nat → Int}
set_option maxRecDepth 100000 in
set_option maxHeartbeats 4000000 in
theorem pSector16_no (hok : Lay.ok (c : Int) (k : Int) (r : Int)) (hdn : dn ≤ 1000000) (row off i : Int) (w : World) (h : PrSet w da dn ba bn C bf) (hno : Ro.chk c k r dn bn C row off ≠ 0) :
  Calls Tryz.prog 16 #[.agg #[.int .i64 (c : Int), .int .i64 (k : Int), .int .i64 (r : Int), .slice da dn dcap, .slice ba bn bcap], .int .i64 row, .int .i64 off, .int .i64 i] w fun e w' => e = .returned (.tuple #[.string ⟨#[]⟩, .int .i64 (Ro.chk c k r dn bn C row off : Nat)]) ∧ Below w.heap.size w w' := by
 have X0 : Hid (At5 w w.heap.size c k r (.slice da dn dcap) (.slice ba bn bcap) ((w.alloc (.cells #[.int .i64 (c : Int), .int .i64 (k : Int), .int .i64 (r : Int), .slice da dn dcap, .slice ba bn bcap] 30)))) := At5.new _ _ _ _ _ _ _
 have hp := placeOf16_no (dcap := dcap) (bcap := bcap) hok hdn row off _ (h.below X0.out.2.2.2.2.2) hno
 obtain ⟨E, hE⟩ : ∃ E, Ro.chk c k r dn bn C row off = E := ⟨_, rfl⟩
 rw [hE] at hp hno ⊢
 have hne : ((E : Int) != 0) = true := by rw [bne_iff_ne]; omega
 have HP : Hid (Calls Tryz.prog 39 #[.agg #[.int .i64 (c : Int), .int .i64 (k : Int), .int .i64 (r : Int), .slice da dn dcap, .slice ba bn bcap], .int .i64 row, .int .i64 off] ((w.alloc (.cells #[.int .i64 (c : Int), .int .i64 (k : Int), .int .i64 (r : Int), .slice da dn dcap, .slice ba bn bcap] 30))) fun e w' => e = .returned (.tuple #[.agg #[.int .i64 0, .int .i64 0, .int .i64 0, .slice none 0 0, .slice none 0 0, .int .i64 0, .int .i64 0], .int .i64 (E : Nat)]) ∧ Below ((w.alloc (.cells #[.int .i64 (c : Int), .int .i64 (k : Int), .int .i64 (r : Int), .slice da dn dcap, .slice ba bn bcap] 30))).heap.size ((w.alloc (.cells #[.int .i64 (c : Int), .int .i64 (k : Int), .int .i64 (r : Int), .slice da dn dcap, .slice ba bn bcap] 30))) w') := hp
 have hlast : w.heap.size < ((w.alloc (.cells #[.int .i64 (c : Int), .int .i64 (k : Int), .int .i64 (r : Int), .slice da dn dcap, .slice ba bn bcap] 30))).heap.size := World.block_lt_of_cell? _ _ X0.out.1
 obtain ⟨k0, k1, k2, k3, k4, _⟩ := X0.out
 clear hp hE h hok hno
 go_enter Tryz.func16, Tryz.ntmps16
 go_wp2_with fail
 refine HP.out.mono ?_
 rintro e w1 ⟨rfl, hb1⟩
 have B1 : Hid (Below w.heap.size w w1) := (X0.out.kept hb1).2.2.2.2.2
 clear hb1 k0 k1 k2 k3 k4 hlast
 go_wp2
 go_ret2
 exact ⟨rfl, B1.out.alloc B1.out.size _⟩
set_option maxRecDepth 100000 in
set_option maxHeartbeats 4000000 in
theorem pSector16_out (hok : Lay.ok (c : Int) (k : Int) (r : Int)) (row off : Nat) (i : Int) (w : World) (h : PrSet w da c ba c C bf) (hyes : Ro.chk c k r c c C (row : Int) (off : Int) = 0) (hi : Ro.secB c i = false) :
  Calls Tryz.prog 16 #[.agg #[.int .i64 (c : Int), .int .i64 (k : Int), .int .i64 (r : Int), .slice da c dcap, .slice ba c bcap], .int .i64 (row : Int), .int .i64 (off : Int), .int .i64 i] w fun e w' => e = .returned (.tuple #[.string ⟨#[]⟩, .int .i64 70]) ∧ Below w.heap.size w w' := by
 have h1 : 4 ≤ c := by have := hok.1; omega
 have h2 : c ≤ 10 := by have := hok.1; omega
 obtain ⟨m, hm⟩ : ∃ m, c - 2 = m := ⟨_, rfl⟩
 have HD : Hid (∀ W, Calls Tryz.prog 50 #[.agg #[.int .i64 (c : Int), .int .i64 (k : Int), .int .i64 (r : Int), .slice da c dcap, .slice ba c bcap, .int .i64 (row : Int), .int .i64 (off : Int)]] W fun e w' => e = .returned (.int .i64 (m : Int)) ∧ Below W.heap.size W w') := fun W => by
  rw [← hm]; exact data16_any hok row off W
 have X0 : Hid (At5 w w.heap.size c k r (.slice da c dcap) (.slice ba c bcap) ((w.alloc (.cells #[.int .i64 (c : Int), .int .i64 (k : Int), .int .i64 (r : Int), .slice da c dcap, .slice ba c bcap] 30)))) := At5.new _ _ _ _ _ _ _
 have hp := placeOf16_yes (dcap := dcap) (bcap := bcap) hok (by omega) (row : Int) (off : Int) _ (h.below X0.out.2.2.2.2.2) hyes
 have HP : Hid (Calls Tryz.prog 39 #[.agg #[.int .i64 (c : Int), .int .i64 (k : Int), .int .i64 (r : Int), .slice da c dcap, .slice ba c bcap], .int .i64 (row : Int), .int .i64 (off : Int)] ((w.alloc (.cells #[.int .i64 (c : Int), .int .i64 (k : Int), .int .i64 (r : Int), .slice da c dcap, .slice ba c bcap] 30))) fun e w' => e = .returned (.tuple #[.agg #[.int .i64 (c : Int), .int .i64 (k : Int), .int .i64 (r : Int), .slice da c dcap, .slice ba c bcap, .int .i64 (row : Int), .int .i64 (off : Int)], .int .i64 0]) ∧ Below ((w.alloc (.cells #[.int .i64 (c : Int), .int .i64 (k : Int), .int .i64 (r : Int), .slice da c dcap, .slice ba c bcap] 30))).heap.size ((w.alloc (.cells #[.int .i64 (c : Int), .int .i64 (k : Int), .int .i64 (r : Int), .slice da c dcap, .slice ba c bcap] 30))) w') := hp
 have hlast : w.heap.size < ((w.alloc (.cells #[.int .i64 (c : Int), .int .i64 (k : Int), .int .i64 (r : Int), .slice da c dcap, .slice ba c bcap] 30))).heap.size := World.block_lt_of_cell? _ _ X0.out.1
 obtain ⟨k0, k1, k2, k3, k4, _⟩ := X0.out
 have hm8 : m ≤ 8 := by omega
 have hm1 : 1 ≤ m := by omega
 have HBT : Hid (∀ W, Calls Tryz.prog 49 #[.int .i64 0, .int .i64 i, .int .i64 ((m : Int) - 1)] W fun e w' => e = .returned (.bool false) ∧ w' = W) := fun W => by
  have h := between16_any 0 i ((m : Int) - 1) W
  rwa [show (decide (0 ≤ i) && decide (i ≤ (m : Int) - 1)) = false from by
   rw [← hi]; unfold Ro.secB; congr 1; exact decide_eq_decide.2 (by omega)] at h
 clear hp hok h hyes hi hm
 go_enter Tryz.func16, Tryz.ntmps16
 go_wp2_with fail
 refine HP.out.mono ?_
 rintro e w1 ⟨rfl, hb1⟩
 have R1 : Hid (At5 w w.heap.size c k r (.slice da c dcap) (.slice ba c bcap) w1) := X0.out.kept hb1
 have hl1 : w.heap.size < w1.heap.size := World.block_lt_of_cell? _ _ R1.out.1
 have P1 : Hid (Box7 (w1.alloc (.cells #[.int .i64 (c : Int), .int .i64 (k : Int), .int .i64 (r : Int), .slice da c dcap, .slice ba c bcap, .int .i64 (row : Int), .int .i64 (off : Int)] 77)) w1.heap.size (.int .i64 (c : Int)) (.int .i64 (k : Int)) (.int .i64 (r : Int)) (.slice da c dcap) (.slice ba c bcap) (.int .i64 (row : Int)) (.int .i64 (off : Int))) := Box7.new w1 _ _ _ _ _ _ _ _
 have Q1 : Hid (At5 w w.heap.size c k r (.slice da c dcap) (.slice ba c bcap) (w1.alloc (.cells #[.int .i64 (c : Int), .int .i64 (k : Int), .int .i64 (r : Int), .slice da c dcap, .slice ba c bcap, .int .i64 (row : Int), .int .i64 (off : Int)] 77))) := R1.out.kept ((Below.refl _ _).alloc (Nat.le_refl _) _)
 clear hb1 k0 k1 k2 k3 k4 hlast
 obtain ⟨m0, m1, m2, m3, m4, m5, m6, _⟩ := P1.out
 obtain ⟨s0, s1, s2, s3, s4, _⟩ := Q1.out
 have hq1 : w1.heap.size < (w1.alloc (.cells #[.int .i64 (c : Int), .int .i64 (k : Int), .int .i64 (r : Int), .slice da c dcap, .slice ba c bcap, .int .i64 (row : Int), .int .i64 (off : Int)] 77)).heap.size := P1.out.lt
 have hq2 : w.heap.size < (w1.alloc (.cells #[.int .i64 (c : Int), .int .i64 (k : Int), .int .i64 (r : Int), .slice da c dcap, .slice ba c bcap, .int .i64 (row : Int), .int .i64 (off : Int)] 77)).heap.size := World.block_lt_of_cell? _ _ Q1.out.1
 go_wp2_with fail
 refine (HD.out _).mono ?_
 rintro e w2 ⟨rfl, hb2⟩
 have Q2 : Hid (At5 w w.heap.size c k r (.slice da c dcap) (.slice ba c bcap) w2) := Q1.out.kept hb2
 have P2 : Hid (Box7 w2 w1.heap.size (.int .i64 (c : Int)) (.int .i64 (k : Int)) (.int .i64 (r : Int)) (.slice da c dcap) (.slice ba c bcap) (.int .i64 (row : Int)) (.int .i64 (off : Int))) := P1.out.kept hb2
 clear hb2 m0 m1 m2 m3 m4 m5 m6 s0 s1 s2 s3 s4 hq1 hq2
 go_wp2_with (go_at_call 49; refine (HBT.out _).mono ?_; rintro e w3 ⟨rfl, h3⟩; have h3' := h3.symm; subst h3'; clear h3)
 go_ret2
 exact ⟨rfl, Q2.out.2.2.2.2.2⟩
set_option maxRecDepth 100000 in
set_option maxHeartbeats 8000000 in
theorem pSector16_yes (hok : Lay.ok (c : Int) (k : Int) (r : Int)) (row off i : Nat) (hic : i + 2 < c) (w : World) (h : PrSet w da c ba c C bf) (hyes : Ro.chk c k r c c C (row : Int) (off : Int) = 0) :
  Calls Tryz.prog 16 #[.agg #[.int .i64 (c : Int), .int .i64 (k : Int), .int .i64 (r : Int), .slice da c dcap, .slice ba c bcap], .int .i64 (row : Int), .int .i64 (off : Int), .int .i64 (i : Int)] w fun e w' => e = .returned (.tuple #[.string (Ro.secX0 c k r c c C bf (row : Int) (off : Int) i), .int .i64 (Ro.secE0 c k r c c C bf (row : Int) (off : Int) i)]) ∧ Below w.heap.size w w' := by
 have hin := (Ro.chk_yes hyes).2.2.1
 have hr : row < r := by omega
 have ho : off < k := by omega
 have h1 : 4 ≤ c := by have := hok.1; omega
 have h2 : c ≤ 10 := by have := hok.1; omega
 obtain ⟨m, hm⟩ : ∃ m, c - 2 = m := ⟨_, rfl⟩
 have HD : Hid (∀ W, Calls Tryz.prog 50 #[.agg #[.int .i64 (c : Int), .int .i64 (k : Int), .int .i64 (r : Int), .slice da c dcap, .slice ba c bcap, .int .i64 (row : Int), .int .i64 (off : Int)]] W fun e w' => e = .returned (.int .i64 (m : Int)) ∧ Below W.heap.size W w') := fun W => by
  rw [← hm]; exact data16_any hok row off W
 have X0 : Hid (At5 w w.heap.size c k r (.slice da c dcap) (.slice ba c bcap) ((w.alloc (.cells #[.int .i64 (c : Int), .int .i64 (k : Int), .int .i64 (r : Int), .slice da c dcap, .slice ba c bcap] 30)))) := At5.new _ _ _ _ _ _ _
 have hp := placeOf16_yes (dcap := dcap) (bcap := bcap) hok (by omega) (row : Int) (off : Int) _ (h.below X0.out.2.2.2.2.2) hyes
 have HP : Hid (Calls Tryz.prog 39 #[.agg #[.int .i64 (c : Int), .int .i64 (k : Int), .int .i64 (r : Int), .slice da c dcap, .slice ba c bcap], .int .i64 (row : Int), .int .i64 (off : Int)] ((w.alloc (.cells #[.int .i64 (c : Int), .int .i64 (k : Int), .int .i64 (r : Int), .slice da c dcap, .slice ba c bcap] 30))) fun e w' => e = .returned (.tuple #[.agg #[.int .i64 (c : Int), .int .i64 (k : Int), .int .i64 (r : Int), .slice da c dcap, .slice ba c bcap, .int .i64 (row : Int), .int .i64 (off : Int)], .int .i64 0]) ∧ Below ((w.alloc (.cells #[.int .i64 (c : Int), .int .i64 (k : Int), .int .i64 (r : Int), .slice da c dcap, .slice ba c bcap] 30))).heap.size ((w.alloc (.cells #[.int .i64 (c : Int), .int .i64 (k : Int), .int .i64 (r : Int), .slice da c dcap, .slice ba c bcap] 30))) w') := hp
 have hlast : w.heap.size < ((w.alloc (.cells #[.int .i64 (c : Int), .int .i64 (k : Int), .int .i64 (r : Int), .slice da c dcap, .slice ba c bcap] 30))).heap.size := World.block_lt_of_cell? _ _ X0.out.1
 obtain ⟨k0, k1, k2, k3, k4, _⟩ := X0.out
 have hm8 : m ≤ 8 := by omega
 have hm1 : 1 ≤ m := by omega
 have HBT : Hid (∀ W, Calls Tryz.prog 49 #[.int .i64 0, .int .i64 (i : Int), .int .i64 ((m : Int) - 1)] W fun e w' => e = .returned (.bool true) ∧ w' = W) := fun W => by
  have h := between16_any 0 (i : Int) ((m : Int) - 1) W
  rwa [show (decide ((0 : Int) ≤ (i : Int)) && decide ((i : Int) ≤ (m : Int) - 1)) = true from by
   rw [Bool.and_eq_true, decide_eq_true_eq, decide_eq_true_eq]; omega] at h
 have hic2 : i < c := by omega
 obtain ⟨z, hz⟩ : ∃ z, Ro.colN c row i = z := ⟨_, rfl⟩
 have hzc : z < c := by rw [← hz]; exact Ro.colN_lt (by omega)
 have hco := fun (W : World) => column16_any (da := da) (ba := ba) (dcap := dcap) (bcap := bcap) hok row off i hr hic2 W
 rw [hz] at hco
 have HCO : Hid (∀ W, Calls Tryz.prog 51 #[.agg #[.int .i64 (c : Int), .int .i64 (k : Int), .int .i64 (r : Int), .slice da c dcap, .slice ba c bcap, .int .i64 (row : Int), .int .i64 (off : Int)], .int .i64 (i : Int)] W fun e w' => e = .returned (.int .i64 (z : Int)) ∧ Below W.heap.size W w') := hco
 have hrd := fun (W : World) (hW : Below w.heap.size w W) => read16_any (da := da) (ba := ba) (dcap := dcap) (bcap := bcap) hok row off hr ho z hzc W (h.below hW)
 have hXi : Ro.oneX c k C bf (row : Int) (off : Int) i = Ro.rdX k C bf (row : Int) (off : Int) z := by rw [Ro.oneX_rd, Int.toNat_natCast, hz]
 have hEi : Ro.oneE c k C bf (row : Int) (off : Int) i = Ro.rdE k C bf (row : Int) (off : Int) z := by rw [Ro.oneE_rd, Int.toNat_natCast, hz]
 unfold Ro.secX0 Ro.secE0
 rw [hXi, hEi]
 obtain ⟨E, hE⟩ : ∃ E, Ro.rdE k C bf (row : Int) (off : Int) z = E := ⟨_, rfl⟩
 obtain ⟨X, hX⟩ : ∃ X, Ro.rdX k C bf (row : Int) (off : Int) z = X := ⟨_, rfl⟩
 rw [hE, hX] at hrd ⊢
 have HRD : Hid (∀ W, Below w.heap.size w W → Calls Tryz.prog 41 #[.agg #[.int .i64 (c : Int), .int .i64 (k : Int), .int .i64 (r : Int), .slice da c dcap, .slice ba c bcap, .int .i64 (row : Int), .int .i64 (off : Int)], .int .i64 (z : Int)] W fun e w' => e = .returned (.tuple #[.string X, .int .i64 (E : Nat)]) ∧ Below W.heap.size W w') := hrd
 have hfd : ∀ W, Below w.heap.size w W → Calls Tryz.prog 14 #[.agg #[.int .i64 (c : Int), .int .i64 (k : Int), .int .i64 (r : Int), .slice da c dcap, .slice ba c bcap], .int .i64 (row : Int), .int .i64 (off : Int)] W (FdSays W (Ro.filledE c k r c c C bf (row : Int) (off : Int)) (Ro.filledN c k r c c C bf (row : Int) (off : Int)) (Ro.filledF c k r c c C bf (row : Int) (off : Int)) (Ro.filledL c k r c c C bf (row : Int) (off : Int))) := fun W hW => pFilled16_any hok (by omega) (row : Int) (off : Int) W (h.below hW)
 have hNN : Ro.filledN c k r c c C bf (row : Int) (off : Int) = (if Ro.filledE c k r c c C bf (row : Int) (off : Int) = 0 then c else 0) := rfl
 obtain ⟨y, hy⟩ : ∃ y, Ro.filledE c k r c c C bf (row : Int) (off : Int) = y := ⟨_, rfl⟩
 obtain ⟨F, hF⟩ : ∃ F, Ro.filledF c k r c c C bf (row : Int) (off : Int) = F := ⟨_, rfl⟩
 obtain ⟨LL, hLL⟩ : ∃ LL, Ro.filledL c k r c c C bf (row : Int) (off : Int) = LL := ⟨_, rfl⟩
 rw [hy] at hfd hNN ⊢
 rw [hF] at hfd ⊢
 rw [hNN, hLL] at hfd
 obtain ⟨N7, hN7⟩ : ∃ N7, (if y = 0 then c else 0) = N7 := ⟨_, rfl⟩
 rw [hN7] at hfd
 have HFD : Hid (∀ W, Below w.heap.size w W → Calls Tryz.prog 14 #[.agg #[.int .i64 (c : Int), .int .i64 (k : Int), .int .i64 (r : Int), .slice da c dcap, .slice ba c bcap], .int .i64 (row : Int), .int .i64 (off : Int)] W (FdSays W y N7 F LL)) := hfd
 have HN7 : Hid ((if y = 0 then c else 0) = N7) := hN7
 have hii : (i : Int) < (c : Int) := by omega
 by_cases h41 : E = 41
 ·have v1 : ((E : Int) != 41) = false := by rw [h41]; rfl
  rw [if_pos h41, if_pos h41]
  by_cases hy0 : y = 0
  ·subst hy0
   have HN : Hid (N7 = c) := by show _ = _; rw [← HN7.out]; exact if_pos rfl
   rw [if_pos rfl]
   clear hp hok h hyes hm hin hr ho hz hzc hco hrd hXi hEi hE hX hfd hNN hy hF hLL hN7 h41 hic
   go_enter Tryz.func16, Tryz.ntmps16
   go_wp2_with fail
   refine HP.out.mono ?_
   rintro e w1 ⟨rfl, hb1⟩
   have R1 : Hid (At5 w w.heap.size c k r (.slice da c dcap) (.slice ba c bcap) w1) := X0.out.kept hb1
   have hl1 : w.heap.size < w1.heap.size := World.block_lt_of_cell? _ _ R1.out.1
   have P1 : Hid (Box7 (w1.alloc (.cells #[.int .i64 (c : Int), .int .i64 (k : Int), .int .i64 (r : Int), .slice da c dcap, .slice ba c bcap, .int .i64 (row : Int), .int .i64 (off : Int)] 77)) w1.heap.size (.int .i64 (c : Int)) (.int .i64 (k : Int)) (.int .i64 (r : Int)) (.slice da c dcap) (.slice ba c bcap) (.int .i64 (row : Int)) (.int .i64 (off : Int))) := Box7.new w1 _ _ _ _ _ _ _ _
   have Q1 : Hid (At5 w w.heap.size c k r (.slice da c dcap) (.slice ba c bcap) (w1.alloc (.cells #[.int .i64 (c : Int), .int .i64 (k : Int), .int .i64 (r : Int), .slice da c dcap, .slice ba c bcap, .int .i64 (row : Int), .int .i64 (off : Int)] 77))) := R1.out.kept ((Below.refl _ _).alloc (Nat.le_refl _) _)
   clear hb1 k0 k1 k2 k3 k4 hlast
   obtain ⟨m0, m1, m2, m3, m4, m5, m6, _⟩ := P1.out
   obtain ⟨s0, s1, s2, s3, s4, _⟩ := Q1.out
   have hq1 : w1.heap.size < (w1.alloc (.cells #[.int .i64 (c : Int), .int .i64 (k : Int), .int .i64 (r : Int), .slice da c dcap, .slice ba c bcap, .int .i64 (row : Int), .int .i64 (off : Int)] 77)).heap.size := P1.out.lt
   have hq2 : w.heap.size < (w1.alloc (.cells #[.int .i64 (c : Int), .int .i64 (k : Int), .int .i64 (r : Int), .slice da c dcap, .slice ba c bcap, .int .i64 (row : Int), .int .i64 (off : Int)] 77)).heap.size := World.block_lt_of_cell? _ _ Q1.out.1
   go_wp2_with fail
   refine (HD.out _).mono ?_
   rintro e w2 ⟨rfl, hb2⟩
   have Q2 : Hid (At5 w w.heap.size c k r (.slice da c dcap) (.slice ba c bcap) w2) := Q1.out.kept hb2
   have P2 : Hid (Box7 w2 w1.heap.size (.int .i64 (c : Int)) (.int .i64 (k : Int)) (.int .i64 (r : Int)) (.slice da c dcap) (.slice ba c bcap) (.int .i64 (row : Int)) (.int .i64 (off : Int))) := P1.out.kept hb2
   clear hb2 m0 m1 m2 m3 m4 m5 m6 s0 s1 s2 s3 s4 hq1 hq2
   obtain ⟨n0, n1, n2, n3, n4, n5, n6, _⟩ := P2.out
   have hn1 : w1.heap.size < w2.heap.size := P2.out.lt
   obtain ⟨s0, s1, s2, s3, s4, _⟩ := Q2.out
   have hn2 : w.heap.size < w2.heap.size := World.block_lt_of_cell? _ _ s0
   go_wp2_with (go_at_call 49; refine (HBT.out _).mono ?_; rintro e w3 ⟨rfl, h3⟩; have h3' := h3.symm; subst h3'; clear h3)
   have hS0 : w2.drew.cell? ⟨w1.heap.size, 0, none⟩ = some (.int .i64 (c : Int)) ∧ w2.drew.cell? ⟨w1.heap.size, 1, none⟩ = some (.int .i64 (k : Int)) ∧ w2.drew.cell? ⟨w1.heap.size, 2, none⟩ = some (.int .i64 (r : Int)) ∧ w2.drew.cell? ⟨w1.heap.size, 3, none⟩ = some (.slice da c dcap) ∧ w2.drew.cell? ⟨w1.heap.size, 4, none⟩ = some (.slice ba c bcap) ∧ w2.drew.cell? ⟨w1.heap.size, 5, none⟩ = some (.int .i64 (row : Int)) ∧ w2.drew.cell? ⟨w1.heap.size, 6, none⟩ = some (.int .i64 (off : Int)) ∧ Below w2.heap.size w2 w2.drew := ⟨n0, n1, n2, n3, n4, n5, n6, (Below.refl _ w2).drew⟩
   go_region_held3 (fun W => W.cell? ⟨w1.heap.size, 0, none⟩ = some (.int .i64 (c : Int)) ∧ W.cell? ⟨w1.heap.size, 1, none⟩ = some (.int .i64 (k : Int)) ∧ W.cell? ⟨w1.heap.size, 2, none⟩ = some (.int .i64 (r : Int)) ∧ W.cell? ⟨w1.heap.size, 3, none⟩ = some (.slice da c dcap) ∧ W.cell? ⟨w1.heap.size, 4, none⟩ = some (.slice ba c bcap) ∧ W.cell? ⟨w1.heap.size, 5, none⟩ = some (.int .i64 (row : Int)) ∧ W.cell? ⟨w1.heap.size, 6, none⟩ = some (.int .i64 (off : Int)) ∧ Below w2.heap.size w2 W) (first | exact hS0 | assumption) (first | (go_at_call 51; refine (HCO.out _).mono ?_; rintro e w4 ⟨rfl, hb4⟩; have hs4 := keep_p7 hb4 (by assumption); have hl4 : w1.heap.size < w4.heap.size := World.block_lt_of_cell? _ _ hs4.1; clear hb4) | (go_at_call 41; refine (HRD.out _ (Q2.out.2.2.2.2.2.trans ((p7_low (by assumption)).mono Q2.out.2.2.2.2.2.size))).mono ?_; rintro e w5 ⟨rfl, hb5⟩; have hs5 := keep_p7 hb5 (by assumption); have R5 : Hid (At5 w w.heap.size c k r (.slice da c dcap) (.slice ba c bcap) w5) := Q2.out.kept (p7_low hs5); obtain ⟨t0, t1, t2, t3, t4, _⟩ := R5.out; have hl5 : w.heap.size < w5.heap.size := World.block_lt_of_cell? _ _ t0; clear hb5))
   all_goals
    go_wp2_with fail
    refine (HFD.out _ R5.out.2.2.2.2.2).mono ?_
    rintro e w7 ⟨⟨al, cl, ai, ci, rfl, hr7, hc7, _, _⟩, hb7⟩
    rw [HN.out] at hr7 hc7 ⊢
    have B7 : Hid (Below w.heap.size w w7) := (R5.out.kept hb7).2.2.2.2.2
    obtain ⟨ab, ao, rfl, hcell7⟩ := hr7 i hic2
    clear hb7 hr7
    go_wp2
    go_ret2
    exact ⟨rfl, B7.out⟩
  ·have v2 : (y != 0) = true := by rw [bne_iff_ne]; exact hy0
   rw [if_neg hy0]
   clear hp hok h hyes hm hin hr ho hz hzc hco hrd hXi hEi hE hX hfd hNN hy hF hLL hN7 h41 hic hy0
   go_enter Tryz.func16, Tryz.ntmps16
   go_wp2_with fail
   refine HP.out.mono ?_
   rintro e w1 ⟨rfl, hb1⟩
   have R1 : Hid (At5 w w.heap.size c k r (.slice da c dcap) (.slice ba c bcap) w1) := X0.out.kept hb1
   have hl1 : w.heap.size < w1.heap.size := World.block_lt_of_cell? _ _ R1.out.1
   have P1 : Hid (Box7 (w1.alloc (.cells #[.int .i64 (c : Int), .int .i64 (k : Int), .int .i64 (r : Int), .slice da c dcap, .slice ba c bcap, .int .i64 (row : Int), .int .i64 (off : Int)] 77)) w1.heap.size (.int .i64 (c : Int)) (.int .i64 (k : Int)) (.int .i64 (r : Int)) (.slice da c dcap) (.slice ba c bcap) (.int .i64 (row : Int)) (.int .i64 (off : Int))) := Box7.new w1 _ _ _ _ _ _ _ _
   have Q1 : Hid (At5 w w.heap.size c k r (.slice da c dcap) (.slice ba c bcap) (w1.alloc (.cells #[.int .i64 (c : Int), .int .i64 (k : Int), .int .i64 (r : Int), .slice da c dcap, .slice ba c bcap, .int .i64 (row : Int), .int .i64 (off : Int)] 77))) := R1.out.kept ((Below.refl _ _).alloc (Nat.le_refl _) _)
   clear hb1 k0 k1 k2 k3 k4 hlast
   obtain ⟨m0, m1, m2, m3, m4, m5, m6, _⟩ := P1.out
   obtain ⟨s0, s1, s2, s3, s4, _⟩ := Q1.out
   have hq1 : w1.heap.size < (w1.alloc (.cells #[.int .i64 (c : Int), .int .i64 (k : Int), .int .i64 (r : Int), .slice da c dcap, .slice ba c bcap, .int .i64 (row : Int), .int .i64 (off : Int)] 77)).heap.size := P1.out.lt
   have hq2 : w.heap.size < (w1.alloc (.cells #[.int .i64 (c : Int), .int .i64 (k : Int), .int .i64 (r : Int), .slice da c dcap, .slice ba c bcap, .int .i64 (row : Int), .int .i64 (off : Int)] 77)).heap.size := World.block_lt_of_cell? _ _ Q1.out.1
   go_wp2_with fail
   refine (HD.out _).mono ?_
   rintro e w2 ⟨rfl, hb2⟩
   have Q2 : Hid (At5 w w.heap.size c k r (.slice da c dcap) (.slice ba c bcap) w2) := Q1.out.kept hb2
   have P2 : Hid (Box7 w2 w1.heap.size (.int .i64 (c : Int)) (.int .i64 (k : Int)) (.int .i64 (r : Int)) (.slice da c dcap) (.slice ba c bcap) (.int .i64 (row : Int)) (.int .i64 (off : Int))) := P1.out.kept hb2
   clear hb2 m0 m1 m2 m3 m4 m5 m6 s0 s1 s2 s3 s4 hq1 hq2
   obtain ⟨n0, n1, n2, n3, n4, n5, n6, _⟩ := P2.out
   have hn1 : w1.heap.size < w2.heap.size := P2.out.lt
   obtain ⟨s0, s1, s2, s3, s4, _⟩ := Q2.out
   have hn2 : w.heap.size < w2.heap.size := World.block_lt_of_cell? _ _ s0
   go_wp2_with (go_at_call 49; refine (HBT.out _).mono ?_; rintro e w3 ⟨rfl, h3⟩; have h3' := h3.symm; subst h3'; clear h3)
   have hS0 : w2.drew.cell? ⟨w1.heap.size, 0, none⟩ = some (.int .i64 (c : Int)) ∧ w2.drew.cell? ⟨w1.heap.size, 1, none⟩ = some (.int .i64 (k : Int)) ∧ w2.drew.cell? ⟨w1.heap.size, 2, none⟩ = some (.int .i64 (r : Int)) ∧ w2.drew.cell? ⟨w1.heap.size, 3, none⟩ = some (.slice da c dcap) ∧ w2.drew.cell? ⟨w1.heap.size, 4, none⟩ = some (.slice ba c bcap) ∧ w2.drew.cell? ⟨w1.heap.size, 5, none⟩ = some (.int .i64 (row : Int)) ∧ w2.drew.cell? ⟨w1.heap.size, 6, none⟩ = some (.int .i64 (off : Int)) ∧ Below w2.heap.size w2 w2.drew := ⟨n0, n1, n2, n3, n4, n5, n6, (Below.refl _ w2).drew⟩
   go_region_held3 (fun W => W.cell? ⟨w1.heap.size, 0, none⟩ = some (.int .i64 (c : Int)) ∧ W.cell? ⟨w1.heap.size, 1, none⟩ = some (.int .i64 (k : Int)) ∧ W.cell? ⟨w1.heap.size, 2, none⟩ = some (.int .i64 (r : Int)) ∧ W.cell? ⟨w1.heap.size, 3, none⟩ = some (.slice da c dcap) ∧ W.cell? ⟨w1.heap.size, 4, none⟩ = some (.slice ba c bcap) ∧ W.cell? ⟨w1.heap.size, 5, none⟩ = some (.int .i64 (row : Int)) ∧ W.cell? ⟨w1.heap.size, 6, none⟩ = some (.int .i64 (off : Int)) ∧ Below w2.heap.size w2 W) (first | exact hS0 | assumption) (first | (go_at_call 51; refine (HCO.out _).mono ?_; rintro e w4 ⟨rfl, hb4⟩; have hs4 := keep_p7 hb4 (by assumption); have hl4 : w1.heap.size < w4.heap.size := World.block_lt_of_cell? _ _ hs4.1; clear hb4) | (go_at_call 41; refine (HRD.out _ (Q2.out.2.2.2.2.2.trans ((p7_low (by assumption)).mono Q2.out.2.2.2.2.2.size))).mono ?_; rintro e w5 ⟨rfl, hb5⟩; have hs5 := keep_p7 hb5 (by assumption); have R5 : Hid (At5 w w.heap.size c k r (.slice da c dcap) (.slice ba c bcap) w5) := Q2.out.kept (p7_low hs5); obtain ⟨t0, t1, t2, t3, t4, _⟩ := R5.out; have hl5 : w.heap.size < w5.heap.size := World.block_lt_of_cell? _ _ t0; clear hb5))
   all_goals
    go_wp2_with fail
    refine (HFD.out _ R5.out.2.2.2.2.2).mono ?_
    rintro e w7 ⟨⟨al, cl, ai, ci, rfl, _, _, _, _⟩, hb7⟩
    have B7 : Hid (Below w.heap.size w w7) := (R5.out.kept hb7).2.2.2.2.2
    clear hb7
    go_wp2
    go_ret2
    exact ⟨rfl, B7.out⟩
 ·have v1 : ((E : Int) != 41) = true := by rw [bne_iff_ne]; omega
  rw [if_neg h41, if_neg h41]
  clear hp hok h hyes hm hin hr ho hz hzc hco hrd hXi hEi hE hX hfd hNN hy hF hLL hN7 h41 hic
  go_enter Tryz.func16, Tryz.ntmps16
  go_wp2_with fail
  refine HP.out.mono ?_
  rintro e w1 ⟨rfl, hb1⟩
  have R1 : Hid (At5 w w.heap.size c k r (.slice da c dcap) (.slice ba c bcap) w1) := X0.out.kept hb1
  have hl1 : w.heap.size < w1.heap.size := World.block_lt_of_cell? _ _ R1.out.1
  have P1 : Hid (Box7 (w1.alloc (.cells #[.int .i64 (c : Int), .int .i64 (k : Int), .int .i64 (r : Int), .slice da c dcap, .slice ba c bcap, .int .i64 (row : Int), .int .i64 (off : Int)] 77)) w1.heap.size (.int .i64 (c : Int)) (.int .i64 (k : Int)) (.int .i64 (r : Int)) (.slice da c dcap) (.slice ba c bcap) (.int .i64 (row : Int)) (.int .i64 (off : Int))) := Box7.new w1 _ _ _ _ _ _ _ _
  have Q1 : Hid (At5 w w.heap.size c k r (.slice da c dcap) (.slice ba c bcap) (w1.alloc (.cells #[.int .i64 (c : Int), .int .i64 (k : Int), .int .i64 (r : Int), .slice da c dcap, .slice ba c bcap, .int .i64 (row : Int), .int .i64 (off : Int)] 77))) := R1.out.kept ((Below.refl _ _).alloc (Nat.le_refl _) _)
  clear hb1 k0 k1 k2 k3 k4 hlast
  obtain ⟨m0, m1, m2, m3, m4, m5, m6, _⟩ := P1.out
  obtain ⟨s0, s1, s2, s3, s4, _⟩ := Q1.out
  have hq1 : w1.heap.size < (w1.alloc (.cells #[.int .i64 (c : Int), .int .i64 (k : Int), .int .i64 (r : Int), .slice da c dcap, .slice ba c bcap, .int .i64 (row : Int), .int .i64 (off : Int)] 77)).heap.size := P1.out.lt
  have hq2 : w.heap.size < (w1.alloc (.cells #[.int .i64 (c : Int), .int .i64 (k : Int), .int .i64 (r : Int), .slice da c dcap, .slice ba c bcap, .int .i64 (row : Int), .int .i64 (off : Int)] 77)).heap.size := World.block_lt_of_cell? _ _ Q1.out.1
  go_wp2_with fail
  refine (HD.out _).mono ?_
  rintro e w2 ⟨rfl, hb2⟩
  have Q2 : Hid (At5 w w.heap.size c k r (.slice da c dcap) (.slice ba c bcap) w2) := Q1.out.kept hb2
  have P2 : Hid (Box7 w2 w1.heap.size (.int .i64 (c : Int)) (.int .i64 (k : Int)) (.int .i64 (r : Int)) (.slice da c dcap) (.slice ba c bcap) (.int .i64 (row : Int)) (.int .i64 (off : Int))) := P1.out.kept hb2
  clear hb2 m0 m1 m2 m3 m4 m5 m6 s0 s1 s2 s3 s4 hq1 hq2
  obtain ⟨n0, n1, n2, n3, n4, n5, n6, _⟩ := P2.out
  have hn1 : w1.heap.size < w2.heap.size := P2.out.lt
  obtain ⟨s0, s1, s2, s3, s4, _⟩ := Q2.out
  have hn2 : w.heap.size < w2.heap.size := World.block_lt_of_cell? _ _ s0
  go_wp2_with (go_at_call 49; refine (HBT.out _).mono ?_; rintro e w3 ⟨rfl, h3⟩; have h3' := h3.symm; subst h3'; clear h3)
  have hS0 : w2.drew.cell? ⟨w1.heap.size, 0, none⟩ = some (.int .i64 (c : Int)) ∧ w2.drew.cell? ⟨w1.heap.size, 1, none⟩ = some (.int .i64 (k : Int)) ∧ w2.drew.cell? ⟨w1.heap.size, 2, none⟩ = some (.int .i64 (r : Int)) ∧ w2.drew.cell? ⟨w1.heap.size, 3, none⟩ = some (.slice da c dcap) ∧ w2.drew.cell? ⟨w1.heap.size, 4, none⟩ = some (.slice ba c bcap) ∧ w2.drew.cell? ⟨w1.heap.size, 5, none⟩ = some (.int .i64 (row : Int)) ∧ w2.drew.cell? ⟨w1.heap.size, 6, none⟩ = some (.int .i64 (off : Int)) ∧ Below w2.heap.size w2 w2.drew := ⟨n0, n1, n2, n3, n4, n5, n6, (Below.refl _ w2).drew⟩
  go_region_held3 (fun W => W.cell? ⟨w1.heap.size, 0, none⟩ = some (.int .i64 (c : Int)) ∧ W.cell? ⟨w1.heap.size, 1, none⟩ = some (.int .i64 (k : Int)) ∧ W.cell? ⟨w1.heap.size, 2, none⟩ = some (.int .i64 (r : Int)) ∧ W.cell? ⟨w1.heap.size, 3, none⟩ = some (.slice da c dcap) ∧ W.cell? ⟨w1.heap.size, 4, none⟩ = some (.slice ba c bcap) ∧ W.cell? ⟨w1.heap.size, 5, none⟩ = some (.int .i64 (row : Int)) ∧ W.cell? ⟨w1.heap.size, 6, none⟩ = some (.int .i64 (off : Int)) ∧ Below w2.heap.size w2 W) (first | exact hS0 | assumption) (first | (go_at_call 51; refine (HCO.out _).mono ?_; rintro e w4 ⟨rfl, hb4⟩; have hs4 := keep_p7 hb4 (by assumption); have hl4 : w1.heap.size < w4.heap.size := World.block_lt_of_cell? _ _ hs4.1; clear hb4) | (go_at_call 41; refine (HRD.out _ (Q2.out.2.2.2.2.2.trans ((p7_low (by assumption)).mono Q2.out.2.2.2.2.2.size))).mono ?_; rintro e w5 ⟨rfl, hb5⟩; have hs5 := keep_p7 hb5 (by assumption); have R5 : Hid (At5 w w.heap.size c k r (.slice da c dcap) (.slice ba c bcap) w5) := Q2.out.kept (p7_low hs5); obtain ⟨t0, t1, t2, t3, t4, _⟩ := R5.out; have hl5 : w.heap.size < w5.heap.size := World.block_lt_of_cell? _ _ t0; clear hb5))
  all_goals
   go_wp2
   go_ret2
   exact ⟨rfl, R5.out.2.2.2.2.2⟩
theorem pSector16_any (hok : Lay.ok (c : Int) (k : Int) (r : Int)) (hdn : dn ≤ 1000000) (row off i : Int) (w : World) (h : PrSet w da dn ba bn C bf) :
  Calls Tryz.prog 16 #[.agg #[.int .i64 (c : Int), .int .i64 (k : Int), .int .i64 (r : Int), .slice da dn dcap, .slice ba bn bcap], .int .i64 row, .int .i64 off, .int .i64 i] w fun e w' => e = .returned (.tuple #[.string (Ro.secX c k r dn bn C bf row off i), .int .i64 (Ro.secE c k r dn bn C bf row off i)]) ∧ Below w.heap.size w w' := by
 unfold Ro.secX Ro.secE
 by_cases hc : Ro.chk c k r dn bn C row off = 0
 ·rw [if_pos hc, if_pos hc]
  obtain ⟨h1, h2, ⟨⟨r1, r2⟩, o1, o2⟩, _⟩ := Ro.chk_yes hc
  subst h1
  subst h2
  obtain ⟨R, rfl⟩ : ∃ R : Nat, row = (R : Int) := ⟨row.toNat, by omega⟩
  obtain ⟨O, rfl⟩ : ∃ O : Nat, off = (O : Int) := ⟨off.toNat, by omega⟩
  cases hi : Ro.secB bn i with
  | false => exact pSector16_out (dcap := dcap) (bcap := bcap) hok R O i w h hc hi
  | true =>
   unfold Ro.secB at hi
   rw [Bool.and_eq_true, decide_eq_true_eq, decide_eq_true_eq] at hi
   obtain ⟨I, rfl⟩ : ∃ I : Nat, i = (I : Int) := ⟨i.toNat, by omega⟩
   rw [if_pos rfl, if_pos rfl, Int.toNat_natCast]
   exact pSector16_yes (dcap := dcap) (bcap := bcap) hok R O I (by omega) w h hc
 ·rw [if_neg hc, if_neg hc]
  exact pSector16_no (dcap := dcap) (bcap := bcap) hok hdn row off i w h hc
end
end Go.Proofs.YtdgkhjgnjfgnlaaGreat
namespace Go.Proofs.YtdgkhjgnjfgnlaaGreat
open Go.RowKit
attribute [local go_sem] Oper.semAt_some
theorem Many.call2 {P : Program} {f : FuncId} {args : Array Value} {w W : World} {B m : Nat} {T : Nat → Thing} (h : Many w B m T) (hW : Below w.heap.size w W) {i : Nat} (hi : i < m) (T' : Thing) {Q : Ending → Prop}
  (hc : ∀ F, (T i).is W F → Calls P f args W fun e w' => Q e ∧ T'.is w' (Plus F W.heap.size) ∧ Only F W w') :
  Calls P f args W fun e w' => Q e ∧ Many w' B m (swap1 T i T') ∧ Only (fun k => B ≤ k ∧ k < w.heap.size) W w' ∧ ∀ j, j < m → j ≠ i → ∀ g n cap t L, T j = rowT t (.slice (some ⟨g, 0, none⟩) n cap) L → w'.heap[g]? = W.heap[g]? := by
 obtain ⟨F, h1, h2, h3, h4⟩ := h
 refine (hc (F i) ((T i).below (h1 i hi) hW)).mono fun e w' ⟨q, ht, ho⟩ => ?_
 refine ⟨q, (Many.turned hi (fun j hj => (T j).below (h1 j hj) hW) (fun j hj k hk => ⟨(h2 j hj k hk).1, Nat.lt_of_lt_of_le (h2 j hj k hk).2 hW.size⟩) h3 (Nat.le_trans h4 hW.size) ht ho).1, ho.mono (h2 i hi), fun j hj hne g n cap t L e => ?_⟩
 have hj1 := h1 j hj
 rw [e] at hj1
 have hF := hj1.2 g rfl
 exact ho.block g (Nat.lt_of_lt_of_le (h2 j hj g hF).2 hW.size) (h3 j i hj hi hne g hF)
theorem pWr16 {w : World} {p : Nat} {D : Dr} {F : Nat → Prop} (h : DriveAt w p D F) (i : Int) (hlen : ∀ j, (D.writes j).length ≤ 1000000) (s : ByteArray) :
    Calls Tryz.prog 66 #[.pointer (some ⟨p, 0, none⟩), .int .i64 i, .string s] w fun e w' => e = .returned (.int .i64 (D.takeE i s.size : Nat)) ∧ DriveAt w' p (D.wrote i s) (Plus F w.heap.size) ∧ Only F w w' := by
  unfold Dr.wrote
  by_cases hr : D.takeE i s.size = 0
  · have hr1 : D.reachE i = 0 := by
      unfold Dr.takeE at hr
      by_cases h0 : D.reachE i = 0
      · exact h0
      · rw [if_neg h0] at hr; exact absurd hr h0
    obtain ⟨_, hb⟩ := Dr.reach_has hr1
    obtain ⟨j, rfl, hj⟩ := Dr.hasB_nat hb
    rw [hr, if_pos rfl, Int.toNat_natCast]
    exact write_yes h j s hr hj (hlen j)
  · rw [if_neg hr]
    refine (write_no h i s hr).mono ?_
    rintro e w' ⟨rfl, rfl⟩
    exact ⟨rfl, h.mono fun k hk => .inl hk, Only.refl _ _⟩
theorem pFl16 {w : World} {p : Nat} {D : Dr} {F : Nat → Prop} (h : DriveAt w p D F) (hlen : ∀ j, (D.writes j).length ≤ 1000000) :
  Calls Tryz.prog 69 #[.pointer (some ⟨p, 0, none⟩)] w fun e w' => e = .returned (.int .i64 (D.runsE : Nat)) ∧ DriveAt w' p D.flushed (Plus F w.heap.size) ∧ Only F w w' := by
 unfold Dr.flushed
 by_cases hr : D.runsE = 0
 ·rw [hr, if_pos rfl]
  exact (flush_yes h hr hlen).mono fun e w' ⟨h1, h2, h3⟩ => ⟨h1, h2.mono fun k hk => .inl hk, h3⟩
 ·rw [if_neg hr]
  refine (flush_no h hr).mono ?_
  rintro e w' ⟨rfl, rfl⟩
  exact ⟨rfl, h.mono fun k hk => .inl hk, Only.refl _ _⟩
section
variable {c k r : Nat} {w : World} {B m : Nat} {T : Nat → Thing} {ri bi o : Nat} {da ba : Option Addr} {dn dcap bn bcap : Nat} {C : Nat → Ro.Col} {bf : Nat → Int}
theorem PrM.same (h : PrM w B m T ri bi o da dn dcap ba bn bcap C bf) {w' : World} (hb : Below w.heap.size w w') (E : Nat) : PrAns w B m T o dn E C (.returned (.int .i64 (E : Int))) w' :=
 ⟨rfl, (h.many.below hb).congr fun j _ => (spread_same h.drv j).symm, Only.of_below hb _⟩
theorem PrM.call2 (h : PrM w B m T ri bi o da dn dcap ba bn bcap C bf) {W : World} (hW : Below w.heap.size w W) {z p : Nat} {D D' : Dr} (hz : z < dn) (hC : C z = some (p, D)) {b1 o1 : Nat} (hda : da = some ⟨b1, o1, none⟩) {f : FuncId} {args : Array Value} {Q : Ending → Prop}
  (hc : ∀ G, DriveAt W p D G → Calls Tryz.prog f args W fun e w' => Q e ∧ DriveAt w' p D' (Plus G W.heap.size) ∧ Only G W w') :
  Calls Tryz.prog f args W fun e w' => Q e ∧ Many w' B m (spread T o dn (fun i => prC (swap1 C z (some (p, D')) i))) ∧ Only (fun k => B ≤ k ∧ k < w.heap.size) W w' ∧ w'.heap[b1]? = W.heap[b1]? := by
 have ho := h.ho
 have hri := h.hri
 have hro := h.ro
 refine (h.many.call2 hW (i := o + z) (by omega) (drvT p D') (Q := Q) (fun F hF => ?_)).mono ?_
 ·rw [h.drv z hz, hC] at hF
  exact hc F hF
 ·rintro e w' ⟨hq, hm, hO, hR⟩
  refine ⟨hq, hm.congr fun j _ => ?_, hO, ?_⟩
  ·have hsp : ∀ j, spread T o dn (fun i => prC (C i)) j = T j := spread_same h.drv
   have e1 : swap1 T (o + z) (drvT p D') j = swap1 (spread T o dn (fun i => prC (C i))) (o + z) (drvT p D') j := by unfold swap1; rw [hsp j]
   rw [e1, spread_put _ _ _ _ hz]
   unfold spread
   split
   ·unfold swap1
    by_cases hj : j - o = z
    ·show (if j - o = z then drvT p D' else prC (C (j - o))) = prC (if j - o = z then some (p, D') else C (j - o))
     rw [if_pos hj, if_pos hj]; rfl
    ·show (if j - o = z then drvT p D' else prC (C (j - o))) = prC (if j - o = z then some (p, D') else C (j - o))
     rw [if_neg hj, if_neg hj]
   ·rfl
  ·obtain ⟨L, e2, hl, hL⟩ := h.row
   obtain ⟨F, hF, _⟩ := h.many.look hri
   rw [e2] at hF
   obtain ⟨g, cp, hv, _⟩ := rowT_at hF (hL z hz)
   rw [hv] at e2
   injection hv with hv1 _ _
   rw [hda] at hv1
   injection hv1 with hv1
   injection hv1 with hv1 _
   rw [hv1]
   exact hR ri hri (by omega) g _ _ _ _ e2
set_option maxRecDepth 100000 in
set_option maxHeartbeats 4000000 in
theorem pWrite16_no (h : PrSet w da dn ba bn C bf) (hok : Lay.ok (c : Int) (k : Int) (r : Int)) (hdn : dn ≤ 1000000) (row off role : Int) (s : ByteArray) (hno : Ro.chk c k r dn bn C row off ≠ 0) :
  Calls Tryz.prog 27 #[.agg #[.int .i64 (c : Int), .int .i64 (k : Int), .int .i64 (r : Int), .slice da dn dcap, .slice ba bn bcap], .int .i64 row, .int .i64 off, .int .i64 role, .string s] w fun e w' => e = .returned (.int .i64 (Ro.chk c k r dn bn C row off : Nat)) ∧ Below w.heap.size w w' := by
 have X0 : Hid (At5 w w.heap.size c k r (.slice da dn dcap) (.slice ba bn bcap) ((w.alloc (.cells #[.int .i64 (c : Int), .int .i64 (k : Int), .int .i64 (r : Int), .slice da dn dcap, .slice ba bn bcap] 30)))) := At5.new _ _ _ _ _ _ _
 have hp := placeOf16_no (dcap := dcap) (bcap := bcap) hok hdn row off _ (h.below X0.out.2.2.2.2.2) hno
 obtain ⟨E, hE⟩ : ∃ E, Ro.chk c k r dn bn C row off = E := ⟨_, rfl⟩
 rw [hE] at hp hno ⊢
 have hne : ((E : Int) != 0) = true := by rw [bne_iff_ne]; omega
 have HP : Hid (Calls Tryz.prog 39 #[.agg #[.int .i64 (c : Int), .int .i64 (k : Int), .int .i64 (r : Int), .slice da dn dcap, .slice ba bn bcap], .int .i64 row, .int .i64 off] ((w.alloc (.cells #[.int .i64 (c : Int), .int .i64 (k : Int), .int .i64 (r : Int), .slice da dn dcap, .slice ba bn bcap] 30))) fun e w' => e = .returned (.tuple #[.agg #[.int .i64 0, .int .i64 0, .int .i64 0, .slice none 0 0, .slice none 0 0, .int .i64 0, .int .i64 0], .int .i64 (E : Nat)]) ∧ Below ((w.alloc (.cells #[.int .i64 (c : Int), .int .i64 (k : Int), .int .i64 (r : Int), .slice da dn dcap, .slice ba bn bcap] 30))).heap.size ((w.alloc (.cells #[.int .i64 (c : Int), .int .i64 (k : Int), .int .i64 (r : Int), .slice da dn dcap, .slice ba bn bcap] 30))) w') := hp
 have hlast : w.heap.size < ((w.alloc (.cells #[.int .i64 (c : Int), .int .i64 (k : Int), .int .i64 (r : Int), .slice da dn dcap, .slice ba bn bcap] 30))).heap.size := World.block_lt_of_cell? _ _ X0.out.1
 obtain ⟨k0, k1, k2, k3, k4, _⟩ := X0.out
 clear hp hE h hok hno
 go_enter Tryz.func27, Tryz.ntmps27
 go_wp2_with fail
 refine HP.out.mono ?_
 rintro e w1 ⟨rfl, hb1⟩
 have B1 : Hid (Below w.heap.size w w1) := (X0.out.kept hb1).2.2.2.2.2
 clear hb1 k0 k1 k2 k3 k4 hlast
 go_wp2
 go_ret
 exact ⟨rfl, B1.out.alloc B1.out.size _⟩
set_option maxRecDepth 100000 in
set_option maxHeartbeats 4000000 in
theorem pWrite16_out (h : PrM w B m T ri bi o da c dcap ba c bcap C bf) (hok : Lay.ok (c : Int) (k : Int) (r : Int)) (row off : Nat) (role : Int) (s : ByteArray) (hyes : Ro.chk c k r c c C (row : Int) (off : Int) = 0) (hi : Ro.roleB c role = false) :
  Calls Tryz.prog 27 #[.agg #[.int .i64 (c : Int), .int .i64 (k : Int), .int .i64 (r : Int), .slice da c dcap, .slice ba c bcap], .int .i64 (row : Int), .int .i64 (off : Int), .int .i64 role, .string s] w fun e w' => e = .returned (.int .i64 70) ∧ Below w.heap.size w w' := by
 have h1 : 4 ≤ c := by have := hok.1; omega
 have h2 : c ≤ 10 := by have := hok.1; omega
 have X0 : Hid (At5 w w.heap.size c k r (.slice da c dcap) (.slice ba c bcap) ((w.alloc (.cells #[.int .i64 (c : Int), .int .i64 (k : Int), .int .i64 (r : Int), .slice da c dcap, .slice ba c bcap] 30)))) := At5.new _ _ _ _ _ _ _
 have hp := placeOf16_yes (dcap := dcap) (bcap := bcap) hok (by omega) (row : Int) (off : Int) _ (h.set.below X0.out.2.2.2.2.2) hyes
 have HP : Hid (Calls Tryz.prog 39 #[.agg #[.int .i64 (c : Int), .int .i64 (k : Int), .int .i64 (r : Int), .slice da c dcap, .slice ba c bcap], .int .i64 (row : Int), .int .i64 (off : Int)] ((w.alloc (.cells #[.int .i64 (c : Int), .int .i64 (k : Int), .int .i64 (r : Int), .slice da c dcap, .slice ba c bcap] 30))) fun e w' => e = .returned (.tuple #[.agg #[.int .i64 (c : Int), .int .i64 (k : Int), .int .i64 (r : Int), .slice da c dcap, .slice ba c bcap, .int .i64 (row : Int), .int .i64 (off : Int)], .int .i64 0]) ∧ Below ((w.alloc (.cells #[.int .i64 (c : Int), .int .i64 (k : Int), .int .i64 (r : Int), .slice da c dcap, .slice ba c bcap] 30))).heap.size ((w.alloc (.cells #[.int .i64 (c : Int), .int .i64 (k : Int), .int .i64 (r : Int), .slice da c dcap, .slice ba c bcap] 30))) w') := hp
 have hlast : w.heap.size < ((w.alloc (.cells #[.int .i64 (c : Int), .int .i64 (k : Int), .int .i64 (r : Int), .slice da c dcap, .slice ba c bcap] 30))).heap.size := World.block_lt_of_cell? _ _ X0.out.1
 obtain ⟨k0, k1, k2, k3, k4, _⟩ := X0.out
 have HBT : Hid (∀ W, Calls Tryz.prog 49 #[.int .i64 0, .int .i64 role, .int .i64 ((c : Int) - 1)] W fun e w' => e = .returned (.bool false) ∧ w' = W) := fun W => by
  have h := between16_any 0 role ((c : Int) - 1) W
  rwa [show (decide (0 ≤ role) && decide (role ≤ (c : Int) - 1)) = false from by
   rw [← hi]; unfold Ro.roleB; congr 1; exact decide_eq_decide.2 (by omega)] at h
 clear hp hok h hyes hi
 go_enter Tryz.func27, Tryz.ntmps27
 go_wp2_with fail
 refine HP.out.mono ?_
 rintro e w1 ⟨rfl, hb1⟩
 have R1 : Hid (At5 w w.heap.size c k r (.slice da c dcap) (.slice ba c bcap) w1) := X0.out.kept hb1
 have hl1 : w.heap.size < w1.heap.size := World.block_lt_of_cell? _ _ R1.out.1
 have P1 : Hid (Box7 (w1.alloc (.cells #[.int .i64 (c : Int), .int .i64 (k : Int), .int .i64 (r : Int), .slice da c dcap, .slice ba c bcap, .int .i64 (row : Int), .int .i64 (off : Int)] 77)) w1.heap.size (.int .i64 (c : Int)) (.int .i64 (k : Int)) (.int .i64 (r : Int)) (.slice da c dcap) (.slice ba c bcap) (.int .i64 (row : Int)) (.int .i64 (off : Int))) := Box7.new w1 _ _ _ _ _ _ _ _
 have Q1 : Hid (At5 w w.heap.size c k r (.slice da c dcap) (.slice ba c bcap) (w1.alloc (.cells #[.int .i64 (c : Int), .int .i64 (k : Int), .int .i64 (r : Int), .slice da c dcap, .slice ba c bcap, .int .i64 (row : Int), .int .i64 (off : Int)] 77))) := R1.out.kept ((Below.refl _ _).alloc (Nat.le_refl _) _)
 clear hb1 k0 k1 k2 k3 k4 hlast
 obtain ⟨m0, m1, m2, m3, m4, m5, m6, _⟩ := P1.out
 obtain ⟨s0, s1, s2, s3, s4, _⟩ := Q1.out
 have hq1 : w1.heap.size < (w1.alloc (.cells #[.int .i64 (c : Int), .int .i64 (k : Int), .int .i64 (r : Int), .slice da c dcap, .slice ba c bcap, .int .i64 (row : Int), .int .i64 (off : Int)] 77)).heap.size := P1.out.lt
 have hq2 : w.heap.size < (w1.alloc (.cells #[.int .i64 (c : Int), .int .i64 (k : Int), .int .i64 (r : Int), .slice da c dcap, .slice ba c bcap, .int .i64 (row : Int), .int .i64 (off : Int)] 77)).heap.size := World.block_lt_of_cell? _ _ Q1.out.1
 go_wp2_with (go_at_call 49; refine (HBT.out _).mono ?_; rintro e w3 ⟨rfl, h3⟩; have h3' := h3.symm; subst h3'; clear h3)
 go_ret
 exact ⟨rfl, Q1.out.2.2.2.2.2⟩
set_option maxRecDepth 100000 in
set_option maxHeartbeats 8000000 in
theorem pWrite16_yes (h : PrM w B m T ri bi o da c dcap ba c bcap C bf) (hok : Lay.ok (c : Int) (k : Int) (r : Int)) (hlen : ∀ i x, C i = some x → ∀ j, (x.2.writes j).length ≤ 1000000) (row off role : Nat) (hro : role < c) (s : ByteArray) (hyes : Ro.chk c k r c c C (row : Int) (off : Int) = 0) :
  Calls Tryz.prog 27 #[.agg #[.int .i64 (c : Int), .int .i64 (k : Int), .int .i64 (r : Int), .slice da c dcap, .slice ba c bcap], .int .i64 (row : Int), .int .i64 (off : Int), .int .i64 (role : Int), .string s] w
   (PrAns w B m T o c (Ro.colE k (row : Int) (off : Int) s (C (Ro.colN c row role))) (swap1 C (Ro.colN c row role) (Ro.colC k (row : Int) (off : Int) s (C (Ro.colN c row role))))) := by
 have hin := (Ro.chk_yes hyes).2.2.1
 have hr : row < r := by omega
 have ho : off < k := by omega
 have h1 : 4 ≤ c := by have := hok.1; omega
 have h2 : c ≤ 10 := by have := hok.1; omega
 have X0 : Hid (At5 w w.heap.size c k r (.slice da c dcap) (.slice ba c bcap) ((w.alloc (.cells #[.int .i64 (c : Int), .int .i64 (k : Int), .int .i64 (r : Int), .slice da c dcap, .slice ba c bcap] 30)))) := At5.new _ _ _ _ _ _ _
 have hp := placeOf16_yes (dcap := dcap) (bcap := bcap) hok (by omega) (row : Int) (off : Int) _ (h.set.below X0.out.2.2.2.2.2) hyes
 have HP : Hid (Calls Tryz.prog 39 #[.agg #[.int .i64 (c : Int), .int .i64 (k : Int), .int .i64 (r : Int), .slice da c dcap, .slice ba c bcap], .int .i64 (row : Int), .int .i64 (off : Int)] ((w.alloc (.cells #[.int .i64 (c : Int), .int .i64 (k : Int), .int .i64 (r : Int), .slice da c dcap, .slice ba c bcap] 30))) fun e w' => e = .returned (.tuple #[.agg #[.int .i64 (c : Int), .int .i64 (k : Int), .int .i64 (r : Int), .slice da c dcap, .slice ba c bcap, .int .i64 (row : Int), .int .i64 (off : Int)], .int .i64 0]) ∧ Below ((w.alloc (.cells #[.int .i64 (c : Int), .int .i64 (k : Int), .int .i64 (r : Int), .slice da c dcap, .slice ba c bcap] 30))).heap.size ((w.alloc (.cells #[.int .i64 (c : Int), .int .i64 (k : Int), .int .i64 (r : Int), .slice da c dcap, .slice ba c bcap] 30))) w') := hp
 have hlast : w.heap.size < ((w.alloc (.cells #[.int .i64 (c : Int), .int .i64 (k : Int), .int .i64 (r : Int), .slice da c dcap, .slice ba c bcap] 30))).heap.size := World.block_lt_of_cell? _ _ X0.out.1
 obtain ⟨k0, k1, k2, k3, k4, _⟩ := X0.out
 have HBT : Hid (∀ W, Calls Tryz.prog 49 #[.int .i64 0, .int .i64 (role : Int), .int .i64 ((c : Int) - 1)] W fun e w' => e = .returned (.bool true) ∧ w' = W) := fun W => by
  have h := between16_any 0 (role : Int) ((c : Int) - 1) W
  rwa [show (decide ((0 : Int) ≤ (role : Int)) && decide ((role : Int) ≤ (c : Int) - 1)) = true from by
   rw [Bool.and_eq_true, decide_eq_true_eq, decide_eq_true_eq]; omega] at h
 obtain ⟨z, hz⟩ : ∃ z, Ro.colN c row role = z := ⟨_, rfl⟩
 have hzc : z < c := by rw [← hz]; exact Ro.colN_lt (by omega)
 have hco := fun (W : World) => column16_any (da := da) (ba := ba) (dcap := dcap) (bcap := bcap) hok row off role hr hro W
 rw [hz] at hco ⊢
 have HCO : Hid (∀ W, Calls Tryz.prog 51 #[.agg #[.int .i64 (c : Int), .int .i64 (k : Int), .int .i64 (r : Int), .slice da c dcap, .slice ba c bcap, .int .i64 (row : Int), .int .i64 (off : Int)], .int .i64 (role : Int)] W fun e w' => e = .returned (.int .i64 (z : Int)) ∧ Below W.heap.size W w') := hco
 have hgo := fun (W : World) (hW : Below w.heap.size w W) => gone16_any (c := c) (k := k) (r := r) (da := da) (ba := ba) (dcap := dcap) (bcap := bcap) (bf := bf) z hzc W (h.set.below hW)
 have hzi : (z : Int) < (c : Int) := by omega
 have H : Hid (PrM w B m T ri bi o da c dcap ba c bcap C bf) := h
 have hcell := h.set.row z hzc
 have hsw : ∀ x, C z = x → swap1 C z x = C := fun x e => by
  funext j; unfold swap1; split
  ·rename_i hj; rw [hj, e]
  ·rfl
 cases hgb : Ro.goneB (C z) with
 | true =>
  have e1 : Ro.colE k (row : Int) (off : Int) s (C z) = 40 := by
   cases hC : C z with
   | none => rfl
   | some x => rw [hC] at hgb; exact if_pos hgb
  have e2 : Ro.colC k (row : Int) (off : Int) s (C z) = C z := by
   cases hC : C z with
   | none => rfl
   | some x => rw [hC] at hgb; exact if_pos hgb
  rw [e1, e2, hsw _ rfl]
  rw [hgb] at hgo
  have HGO : Hid (∀ W, Below w.heap.size w W → Calls Tryz.prog 65 #[.agg #[.int .i64 (c : Int), .int .i64 (k : Int), .int .i64 (r : Int), .slice da c dcap, .slice ba c bcap], .int .i64 (z : Int)] W fun e w' => e = .returned (.bool true) ∧ Below W.heap.size W w') := hgo
  clear hp hok h hyes hlen hin hr ho hz hzc hco hgo hcell hsw hgb e1 e2 hro
  go_enter Tryz.func27, Tryz.ntmps27
  go_wp2_with fail
  refine HP.out.mono ?_
  rintro e w1 ⟨rfl, hb1⟩
  have R1 : Hid (At5 w w.heap.size c k r (.slice da c dcap) (.slice ba c bcap) w1) := X0.out.kept hb1
  have hl1 : w.heap.size < w1.heap.size := World.block_lt_of_cell? _ _ R1.out.1
  have P1 : Hid (Box7 (w1.alloc (.cells #[.int .i64 (c : Int), .int .i64 (k : Int), .int .i64 (r : Int), .slice da c dcap, .slice ba c bcap, .int .i64 (row : Int), .int .i64 (off : Int)] 77)) w1.heap.size (.int .i64 (c : Int)) (.int .i64 (k : Int)) (.int .i64 (r : Int)) (.slice da c dcap) (.slice ba c bcap) (.int .i64 (row : Int)) (.int .i64 (off : Int))) := Box7.new w1 _ _ _ _ _ _ _ _
  have Q1 : Hid (At5 w w.heap.size c k r (.slice da c dcap) (.slice ba c bcap) (w1.alloc (.cells #[.int .i64 (c : Int), .int .i64 (k : Int), .int .i64 (r : Int), .slice da c dcap, .slice ba c bcap, .int .i64 (row : Int), .int .i64 (off : Int)] 77))) := R1.out.kept ((Below.refl _ _).alloc (Nat.le_refl _) _)
  clear hb1 k0 k1 k2 k3 k4 hlast
  obtain ⟨m0, m1, m2, m3, m4, m5, m6, _⟩ := P1.out
  obtain ⟨s0, s1, s2, s3, s4, _⟩ := Q1.out
  have hq1 : w1.heap.size < (w1.alloc (.cells #[.int .i64 (c : Int), .int .i64 (k : Int), .int .i64 (r : Int), .slice da c dcap, .slice ba c bcap, .int .i64 (row : Int), .int .i64 (off : Int)] 77)).heap.size := P1.out.lt
  have hq2 : w.heap.size < (w1.alloc (.cells #[.int .i64 (c : Int), .int .i64 (k : Int), .int .i64 (r : Int), .slice da c dcap, .slice ba c bcap, .int .i64 (row : Int), .int .i64 (off : Int)] 77)).heap.size := World.block_lt_of_cell? _ _ Q1.out.1
  go_wp2_with (go_at_call 49; refine (HBT.out _).mono ?_; rintro e w3 ⟨rfl, h3⟩; have h3' := h3.symm; subst h3'; clear h3)
  refine (HCO.out _).mono ?_
  rintro e w2 ⟨rfl, hb2⟩
  have Q2 : Hid (At5 w w.heap.size c k r (.slice da c dcap) (.slice ba c bcap) w2) := Q1.out.kept hb2
  have P2 : Hid (Box7 w2 w1.heap.size (.int .i64 (c : Int)) (.int .i64 (k : Int)) (.int .i64 (r : Int)) (.slice da c dcap) (.slice ba c bcap) (.int .i64 (row : Int)) (.int .i64 (off : Int))) := P1.out.kept hb2
  clear hb2 m0 m1 m2 m3 m4 m5 m6 s0 s1 s2 s3 s4 hq1 hq2
  obtain ⟨n0, n1, n2, n3, n4, n5, n6, _⟩ := P2.out
  have hn1 : w1.heap.size < w2.heap.size := P2.out.lt
  go_wp2_with fail
  refine (HGO.out _ Q2.out.2.2.2.2.2).mono ?_
  rintro e w3 ⟨rfl, hb3⟩
  have B3 : Hid (Below w.heap.size w w3) := (Q2.out.kept hb3).2.2.2.2.2
  have P3 : Hid (Box7 w3 w1.heap.size (.int .i64 (c : Int)) (.int .i64 (k : Int)) (.int .i64 (r : Int)) (.slice da c dcap) (.slice ba c bcap) (.int .i64 (row : Int)) (.int .i64 (off : Int))) := P2.out.kept hb3
  clear hb3 n0 n1 n2 n3 n4 n5 n6 hn1
  go_wp2_with fail
  go_ret
  exact H.out.same B3.out 40
 | false =>
  cases hC : C z with
  | none => rw [hC] at hgb; cases hgb
  | some x =>
   obtain ⟨p, D⟩ := x
   rw [hC] at hcell hgb hgo
   have hd : D.dead = false := hgb
   rw [show Ro.goneB (some (p, D)) = false from hgb] at hgo
   obtain ⟨b1, o1, rfl, hpc⟩ := hcell
   simp only [Ro.ptr] at hpc
   have HP1 : Hid (w.cell? ⟨b1, o1 + z, none⟩ = some (.pointer (some ⟨p, 0, none⟩))) := hpc
   have hlb := World.block_lt_of_cell? w _ hpc
   have e1 : Ro.colE k (row : Int) (off : Int) s (some (p, D)) = D.takeE (4 + (row : Int) * (k : Int) + (off : Int)) s.size := by show (if D.dead then 40 else _) = _; rw [hd]; rfl
   have e2 : Ro.colC k (row : Int) (off : Int) s (some (p, D)) = some (p, D.wrote (4 + (row : Int) * (k : Int) + (off : Int)) s) := by show (if D.dead then some (p, D) else _) = _; rw [hd]; rfl
   rw [e1, e2]
   have hwl := hlen z (p, D) hC
   have hse := fun W => sector16_any (da := some ⟨b1, o1, none⟩) (ba := ba) (dcap := dcap) (bcap := bcap) hok row off hr ho W
   obtain ⟨sc, hsc⟩ : ∃ sc, 4 + (row : Int) * (k : Int) + (off : Int) = sc := ⟨_, rfl⟩
   rw [hsc] at hse ⊢
   have HSE : Hid (∀ W, Calls Tryz.prog 67 #[.agg #[.int .i64 (c : Int), .int .i64 (k : Int), .int .i64 (r : Int), .slice (some ⟨b1, o1, none⟩) c dcap, .slice ba c bcap, .int .i64 (row : Int), .int .i64 (off : Int)]] W fun e w' => e = .returned (.int .i64 sc) ∧ Below W.heap.size W w') := hse
   have HGO : Hid (∀ W, Below w.heap.size w W → Calls Tryz.prog 65 #[.agg #[.int .i64 (c : Int), .int .i64 (k : Int), .int .i64 (r : Int), .slice (some ⟨b1, o1, none⟩) c dcap, .slice ba c bcap], .int .i64 (z : Int)] W fun e w' => e = .returned (.bool false) ∧ Below W.heap.size W w') := hgo
   have HWR : Hid (∀ W, Below w.heap.size w W → Calls Tryz.prog 66 #[.pointer (some ⟨p, 0, none⟩), .int .i64 sc, .string s] W fun e w' => e = .returned (.int .i64 (D.takeE sc s.size : Nat)) ∧ Many w' B m (spread T o c (fun i => prC (swap1 C z (some (p, D.wrote sc s)) i))) ∧ Only (fun k => B ≤ k ∧ k < w.heap.size) W w' ∧ w'.heap[b1]? = W.heap[b1]?) := fun W hW =>
    H.out.call2 hW hzc hC rfl (fun G hG => pWr16 hG sc hwl s)
   obtain ⟨tk, htk⟩ : ∃ tk, D.takeE sc s.size = tk := ⟨_, rfl⟩
   rw [htk] at HWR ⊢
   clear hp hok h hyes hlen hin hr ho hz hzc hco hgo hsw hgb e1 e2 hro hpc hC hd hwl hse hsc htk
   go_enter Tryz.func27, Tryz.ntmps27
   go_wp2_with fail
   refine HP.out.mono ?_
   rintro e w1 ⟨rfl, hb1⟩
   have R1 : Hid (At5 w w.heap.size c k r (.slice (some ⟨b1, o1, none⟩) c dcap) (.slice ba c bcap) w1) := X0.out.kept hb1
   have hl1 : w.heap.size < w1.heap.size := World.block_lt_of_cell? _ _ R1.out.1
   have P1 : Hid (Box7 (w1.alloc (.cells #[.int .i64 (c : Int), .int .i64 (k : Int), .int .i64 (r : Int), .slice (some ⟨b1, o1, none⟩) c dcap, .slice ba c bcap, .int .i64 (row : Int), .int .i64 (off : Int)] 77)) w1.heap.size (.int .i64 (c : Int)) (.int .i64 (k : Int)) (.int .i64 (r : Int)) (.slice (some ⟨b1, o1, none⟩) c dcap) (.slice ba c bcap) (.int .i64 (row : Int)) (.int .i64 (off : Int))) := Box7.new w1 _ _ _ _ _ _ _ _
   have Q1 : Hid (At5 w w.heap.size c k r (.slice (some ⟨b1, o1, none⟩) c dcap) (.slice ba c bcap) (w1.alloc (.cells #[.int .i64 (c : Int), .int .i64 (k : Int), .int .i64 (r : Int), .slice (some ⟨b1, o1, none⟩) c dcap, .slice ba c bcap, .int .i64 (row : Int), .int .i64 (off : Int)] 77))) := R1.out.kept ((Below.refl _ _).alloc (Nat.le_refl _) _)
   clear hb1 k0 k1 k2 k3 k4 hlast
   obtain ⟨m0, m1, m2, m3, m4, m5, m6, _⟩ := P1.out
   obtain ⟨s0, s1, s2, s3, s4, _⟩ := Q1.out
   have hq1 : w1.heap.size < (w1.alloc (.cells #[.int .i64 (c : Int), .int .i64 (k : Int), .int .i64 (r : Int), .slice (some ⟨b1, o1, none⟩) c dcap, .slice ba c bcap, .int .i64 (row : Int), .int .i64 (off : Int)] 77)).heap.size := P1.out.lt
   have hq2 : w.heap.size < (w1.alloc (.cells #[.int .i64 (c : Int), .int .i64 (k : Int), .int .i64 (r : Int), .slice (some ⟨b1, o1, none⟩) c dcap, .slice ba c bcap, .int .i64 (row : Int), .int .i64 (off : Int)] 77)).heap.size := World.block_lt_of_cell? _ _ Q1.out.1
   go_wp2_with (go_at_call 49; refine (HBT.out _).mono ?_; rintro e w3 ⟨rfl, h3⟩; have h3' := h3.symm; subst h3'; clear h3)
   refine (HCO.out _).mono ?_
   rintro e w2 ⟨rfl, hb2⟩
   have Q2 : Hid (At5 w w.heap.size c k r (.slice (some ⟨b1, o1, none⟩) c dcap) (.slice ba c bcap) w2) := Q1.out.kept hb2
   have P2 : Hid (Box7 w2 w1.heap.size (.int .i64 (c : Int)) (.int .i64 (k : Int)) (.int .i64 (r : Int)) (.slice (some ⟨b1, o1, none⟩) c dcap) (.slice ba c bcap) (.int .i64 (row : Int)) (.int .i64 (off : Int))) := P1.out.kept hb2
   clear hb2 m0 m1 m2 m3 m4 m5 m6 s0 s1 s2 s3 s4 hq1 hq2
   obtain ⟨n0, n1, n2, n3, n4, n5, n6, _⟩ := P2.out
   have hn1 : w1.heap.size < w2.heap.size := P2.out.lt
   go_wp2_with fail
   refine (HGO.out _ Q2.out.2.2.2.2.2).mono ?_
   rintro e w3 ⟨rfl, hb3⟩
   have B3 : Hid (Below w.heap.size w w3) := (Q2.out.kept hb3).2.2.2.2.2
   have P3 : Hid (Box7 w3 w1.heap.size (.int .i64 (c : Int)) (.int .i64 (k : Int)) (.int .i64 (r : Int)) (.slice (some ⟨b1, o1, none⟩) c dcap) (.slice ba c bcap) (.int .i64 (row : Int)) (.int .i64 (off : Int))) := P2.out.kept hb3
   clear hb3 n0 n1 n2 n3 n4 n5 n6 hn1
   go_wp2_with fail
   obtain ⟨n0, n1, n2, n3, n4, n5, n6, _⟩ := P3.out
   have hn1 : w1.heap.size < w3.heap.size := P3.out.lt
   have hp3 := (B3.out.cell (p := ⟨b1, o1 + z, none⟩) hlb).trans HP1.out
   have hS0 : w3.drew.cell? ⟨w1.heap.size, 0, none⟩ = some (.int .i64 (c : Int)) ∧ w3.drew.cell? ⟨w1.heap.size, 1, none⟩ = some (.int .i64 (k : Int)) ∧ w3.drew.cell? ⟨w1.heap.size, 2, none⟩ = some (.int .i64 (r : Int)) ∧ w3.drew.cell? ⟨w1.heap.size, 3, none⟩ = some (.slice (some ⟨b1, o1, none⟩) c dcap) ∧ w3.drew.cell? ⟨w1.heap.size, 4, none⟩ = some (.slice ba c bcap) ∧ w3.drew.cell? ⟨w1.heap.size, 5, none⟩ = some (.int .i64 (row : Int)) ∧ w3.drew.cell? ⟨w1.heap.size, 6, none⟩ = some (.int .i64 (off : Int)) ∧ w3.drew.cell? ⟨b1, o1 + z, none⟩ = some (.pointer (some ⟨p, 0, none⟩)) := ⟨n0, n1, n2, n3, n4, n5, n6, hp3⟩
   have hww : w.heap.size < w1.heap.size := hl1
   go_region_held3 (fun W => W.cell? ⟨w1.heap.size, 0, none⟩ = some (.int .i64 (c : Int)) ∧ W.cell? ⟨w1.heap.size, 1, none⟩ = some (.int .i64 (k : Int)) ∧ W.cell? ⟨w1.heap.size, 2, none⟩ = some (.int .i64 (r : Int)) ∧ W.cell? ⟨w1.heap.size, 3, none⟩ = some (.slice (some ⟨b1, o1, none⟩) c dcap) ∧ W.cell? ⟨w1.heap.size, 4, none⟩ = some (.slice ba c bcap) ∧ W.cell? ⟨w1.heap.size, 5, none⟩ = some (.int .i64 (row : Int)) ∧ W.cell? ⟨w1.heap.size, 6, none⟩ = some (.int .i64 (off : Int)) ∧ W.cell? ⟨b1, o1 + z, none⟩ = some (.pointer (some ⟨p, 0, none⟩))) (first | exact hS0 | assumption) (first | (go_at_call 67; refine (HSE.out _).mono ?_; rintro e w4 ⟨rfl, hb4⟩; have B4 : Hid (Below w.heap.size w w4) := B3.out.trans ((((Below.refl _ w3).drew).trans hb4).mono B3.out.size); have P4 : Hid (Box7 w4 w1.heap.size (.int .i64 (c : Int)) (.int .i64 (k : Int)) (.int .i64 (r : Int)) (.slice (some ⟨b1, o1, none⟩) c dcap) (.slice ba c bcap) (.int .i64 (row : Int)) (.int .i64 (off : Int))) := P3.out.kept (((Below.refl _ w3).drew).trans hb4); have hs4 : w4.cell? ⟨w1.heap.size, 0, none⟩ = some (.int .i64 (c : Int)) ∧ w4.cell? ⟨w1.heap.size, 1, none⟩ = some (.int .i64 (k : Int)) ∧ w4.cell? ⟨w1.heap.size, 2, none⟩ = some (.int .i64 (r : Int)) ∧ w4.cell? ⟨w1.heap.size, 3, none⟩ = some (.slice (some ⟨b1, o1, none⟩) c dcap) ∧ w4.cell? ⟨w1.heap.size, 4, none⟩ = some (.slice ba c bcap) ∧ w4.cell? ⟨w1.heap.size, 5, none⟩ = some (.int .i64 (row : Int)) ∧ w4.cell? ⟨w1.heap.size, 6, none⟩ = some (.int .i64 (off : Int)) ∧ w4.cell? ⟨b1, o1 + z, none⟩ = some (.pointer (some ⟨p, 0, none⟩)) := ⟨P4.out.k0, P4.out.k1, P4.out.k2, P4.out.k3, P4.out.k4, P4.out.k5, P4.out.k6, (B4.out.cell (p := ⟨b1, o1 + z, none⟩) hlb).trans HP1.out⟩; have hl4 : w1.heap.size < w4.heap.size := P4.out.lt; clear hb4) | (go_at_call 66; refine (HWR.out _ B4.out).mono ?_; rintro e w5 ⟨rfl, hm5, ho5, hr5⟩; have hP5 := box7_of_block P4.out (ho5.block w1.heap.size P4.out.lt (fun hk => by have := hk.2; omega)); have hs5 : w5.cell? ⟨w1.heap.size, 0, none⟩ = some (.int .i64 (c : Int)) ∧ w5.cell? ⟨w1.heap.size, 1, none⟩ = some (.int .i64 (k : Int)) ∧ w5.cell? ⟨w1.heap.size, 2, none⟩ = some (.int .i64 (r : Int)) ∧ w5.cell? ⟨w1.heap.size, 3, none⟩ = some (.slice (some ⟨b1, o1, none⟩) c dcap) ∧ w5.cell? ⟨w1.heap.size, 4, none⟩ = some (.slice ba c bcap) ∧ w5.cell? ⟨w1.heap.size, 5, none⟩ = some (.int .i64 (row : Int)) ∧ w5.cell? ⟨w1.heap.size, 6, none⟩ = some (.int .i64 (off : Int)) ∧ w5.cell? ⟨b1, o1 + z, none⟩ = some (.pointer (some ⟨p, 0, none⟩)) := ⟨hP5.k0, hP5.k1, hP5.k2, hP5.k3, hP5.k4, hP5.k5, hP5.k6, (World.cell?_of_block (a := ⟨b1, o1 + z, none⟩) hr5).trans ((B4.out.cell (p := ⟨b1, o1 + z, none⟩) hlb).trans HP1.out)⟩; have M5 : Hid (Many w5 B m (spread T o c (fun i => prC (swap1 C z (some (p, D.wrote sc s)) i)))) := hm5; have O5 : Hid (Only (fun k => B ≤ k ∧ k < w.heap.size) w w5) := (Only.of_below B4.out _).then ho5; clear hm5 ho5 hr5 hP5))
   all_goals
    go_wp2
    go_ret
    exact ⟨rfl, M5.out, O5.out⟩
theorem pWrite16_any (h : PrM w B m T ri bi o da dn dcap ba bn bcap C bf) (hok : Lay.ok (c : Int) (k : Int) (r : Int)) (hdn : dn ≤ 1000000) (hlen : ∀ i x, C i = some x → ∀ j, (x.2.writes j).length ≤ 1000000) (row off role : Int) (s : ByteArray) :
  Calls Tryz.prog 27 #[.agg #[.int .i64 (c : Int), .int .i64 (k : Int), .int .i64 (r : Int), .slice da dn dcap, .slice ba bn bcap], .int .i64 row, .int .i64 off, .int .i64 role, .string s] w
   (PrAns w B m T o dn (Ro.wrE c k r dn bn C row off role s) (Ro.wrC c k r dn bn C row off role s)) := by
 unfold Ro.wrE Ro.wrC
 by_cases hc : Ro.chk c k r dn bn C row off = 0
 ·rw [if_pos hc, if_pos hc]
  obtain ⟨h1, h2, ⟨⟨r1, r2⟩, o1, o2⟩, _⟩ := Ro.chk_yes hc
  subst h1
  subst h2
  obtain ⟨R, rfl⟩ : ∃ R : Nat, row = (R : Int) := ⟨row.toNat, by omega⟩
  obtain ⟨O, rfl⟩ : ∃ O : Nat, off = (O : Int) := ⟨off.toNat, by omega⟩
  cases hi : Ro.roleB bn role with
  | false =>
   rw [if_neg (by decide), if_neg (by decide)]
   refine (pWrite16_out h hok R O role s hc hi).mono ?_
   rintro e w' ⟨rfl, hb⟩
   exact h.same hb 70
  | true =>
   rw [if_pos rfl, if_pos rfl]
   unfold Ro.roleB at hi
   simp only [Bool.and_eq_true, decide_eq_true_eq] at hi
   obtain ⟨Q, rfl⟩ : ∃ Q : Nat, role = (Q : Int) := ⟨role.toNat, by omega⟩
   rw [Int.toNat_natCast, Int.toNat_natCast]
   exact pWrite16_yes h hok hlen R O Q (by omega) s hc
 ·rw [if_neg hc, if_neg hc]
  refine (pWrite16_no h.set hok hdn row off role s hc).mono ?_
  rintro e w' ⟨rfl, hb⟩
  exact h.same hb _
end
end Go.Proofs.YtdgkhjgnjfgnlaaGreat
namespace Go.Proofs.YtdgkhjgnjfgnlaaGreat
open Go.RowKit
attribute [local go_sem] Oper.semAt_some
section
variable {c k r : Nat} {w : World} {B m : Nat} {T : Nat → Thing} {ri bi o : Nat} {da ba : Option Addr} {dn dcap bn bcap : Nat} {C : Nat → Ro.Col} {bf : Nat → Int}
set_option maxRecDepth 100000 in
set_option maxHeartbeats 8000000 in
theorem pFlush16_any (h : PrM w B m T ri bi o da dn dcap ba bn bcap C bf) (hok : Lay.ok (c : Int) (k : Int) (r : Int)) (hdn : dn ≤ 1000000) (hlen : ∀ i x, C i = some x → ∀ j, (x.2.writes j).length ≤ 1000000) :
  Calls Tryz.prog 30 #[.agg #[.int .i64 (c : Int), .int .i64 (k : Int), .int .i64 (r : Int), .slice da dn dcap, .slice ba bn bcap]] w (PrAns w B m T o dn (Ro.flushE c k r dn bn C) (Ro.flushC c k r dn bn C)) := by
 have X0 : Hid (At5 w w.heap.size c k r (.slice da dn dcap) (.slice ba bn bcap) ((w.alloc (.cells #[.int .i64 (c : Int), .int .i64 (k : Int), .int .i64 (r : Int), .slice da dn dcap, .slice ba bn bcap] 30)))) := At5.new _ _ _ _ _ _ _
 have hm := may16_any (dcap := dcap) (bcap := bcap) hok hdn _ (h.set.below X0.out.2.2.2.2.2)
 have H : Hid (PrM w B m T ri bi o da dn dcap ba bn bcap C bf) := h
 have hlast : w.heap.size < ((w.alloc (.cells #[.int .i64 (c : Int), .int .i64 (k : Int), .int .i64 (r : Int), .slice da dn dcap, .slice ba bn bcap] 30))).heap.size := World.block_lt_of_cell? _ _ X0.out.1
 unfold Ro.flushE Ro.flushC
 obtain ⟨my, hmy⟩ : ∃ my, Ro.mayB c k r dn bn C = my := ⟨_, rfl⟩
 rw [hmy] at hm ⊢
 cases my with
 | false =>
  rw [if_neg (by decide), if_neg (by decide)]
  have HM : Hid (Calls Tryz.prog 22 #[.agg #[.int .i64 (c : Int), .int .i64 (k : Int), .int .i64 (r : Int), .slice da dn dcap, .slice ba bn bcap]] ((w.alloc (.cells #[.int .i64 (c : Int), .int .i64 (k : Int), .int .i64 (r : Int), .slice da dn dcap, .slice ba bn bcap] 30))) fun e w' => e = .returned (.bool false) ∧ Below ((w.alloc (.cells #[.int .i64 (c : Int), .int .i64 (k : Int), .int .i64 (r : Int), .slice da dn dcap, .slice ba bn bcap] 30))).heap.size ((w.alloc (.cells #[.int .i64 (c : Int), .int .i64 (k : Int), .int .i64 (r : Int), .slice da dn dcap, .slice ba bn bcap] 30))) w') := hm
  obtain ⟨k0, k1, k2, k3, k4, _⟩ := X0.out
  clear hm hmy h hok hlen
  go_enter Tryz.func30, Tryz.ntmps30
  go_wp2_with fail
  refine HM.out.mono ?_
  rintro e w1 ⟨rfl, hb1⟩
  have B1 : Hid (Below w.heap.size w w1) := (X0.out.kept hb1).2.2.2.2.2
  clear hb1
  go_wp2
  go_ret
  exact H.out.same B1.out 1
 | true =>
  rw [if_pos rfl, if_pos rfl]
  have hbn : dn = c ∧ bn = c := by
   unfold Ro.mayB at hmy
   rw [Bool.and_eq_true, Bool.and_eq_true, decide_eq_true_eq, decide_eq_true_eq] at hmy
   exact ⟨hmy.1, hmy.2.1⟩
  have HM : Hid (Calls Tryz.prog 22 #[.agg #[.int .i64 (c : Int), .int .i64 (k : Int), .int .i64 (r : Int), .slice da dn dcap, .slice ba bn bcap]] ((w.alloc (.cells #[.int .i64 (c : Int), .int .i64 (k : Int), .int .i64 (r : Int), .slice da dn dcap, .slice ba bn bcap] 30))) fun e w' => e = .returned (.bool true) ∧ Below ((w.alloc (.cells #[.int .i64 (c : Int), .int .i64 (k : Int), .int .i64 (r : Int), .slice da dn dcap, .slice ba bn bcap] 30))).heap.size ((w.alloc (.cells #[.int .i64 (c : Int), .int .i64 (k : Int), .int .i64 (r : Int), .slice da dn dcap, .slice ba bn bcap] 30))) w') := hm
  obtain ⟨cs, hcs⟩ : ∃ cs : Array Value, cs = #[.int .i64 (c : Int), .int .i64 (k : Int), .int .i64 (r : Int), .slice da dn dcap, .slice ba bn bcap] := ⟨_, rfl⟩
  have hblk : (blkT w.heap.size 30 cs).is ((w.alloc (.cells #[.int .i64 (c : Int), .int .i64 (k : Int), .int .i64 (r : Int), .slice da dn dcap, .slice ba bn bcap] 30))) (fun k => w.heap.size ≤ k) := by rw [hcs]; exact blk_new w _ _
  have HBK : Hid ((blkT w.heap.size 30 cs).is ((w.alloc (.cells #[.int .i64 (c : Int), .int .i64 (k : Int), .int .i64 (r : Int), .slice da dn dcap, .slice ba bn bcap] 30))) (fun k => w.heap.size ≤ k)) := hblk
  have HCS : Hid (cs[0]? = some (.int .i64 (c : Int)) ∧ cs[1]? = some (.int .i64 (k : Int)) ∧ cs[2]? = some (.int .i64 (r : Int)) ∧ cs[3]? = some (.slice da dn dcap) ∧ cs[4]? = some (.slice ba bn bcap)) := by rw [hcs]; exact ⟨rfl, rfl, rfl, rfl, rfl⟩
  have HL : Hid (∀ i x, C i = some x → ∀ j, (x.2.writes j).length ≤ 1000000) := hlen
  obtain ⟨k0, k1, k2, k3, k4, _⟩ := X0.out
  clear hm hmy h hok hlen hblk hcs hbn
  go_enter Tryz.func30, Tryz.ntmps30
  go_wp2_with fail
  refine HM.out.mono ?_
  rintro e w1 ⟨rfl, hb1⟩
  have hB1 : Below w.heap.size w w1 := (X0.out.kept hb1).2.2.2.2.2
  have M1 : Hid (PrM w1 B (m + 1) (swap1 T m (blkT w.heap.size 30 cs)) ri bi o da dn dcap ba bn bcap C bf) := H.out.more (H.out.many.add hB1 (Thing.below _ HBK.out hb1) (fun k hk => hk))
  have B1 : Hid (Below w.heap.size w w1) := hB1
  obtain ⟨j0, j1, j2, j3, j4, _⟩ := X0.out.kept hb1
  have hl1 : w.heap.size < w1.heap.size := World.block_lt_of_cell? _ _ j0
  clear hb1 hB1 k0 k1 k2 k3 k4 hlast X0 HM HBK
  go_wp2_with fail
  go_loopg [3, 13] dn (fun gg s3 s4 wr => ∃ t : Nat, t ≤ dn ∧ gg = dn - t ∧ s4 = .int .i64 (t : Int) ∧ s3 = .int .i64 (Ro.flN (Ro.flB C t) : Nat) ∧ ∃ T' : Nat → Thing, PrM wr B (m + 1) T' ri bi o da dn dcap ba bn bcap (Ro.flC C t) bf ∧ T' m = blkT w.heap.size 30 cs ∧ (∀ j, j < m → ¬ (o ≤ j ∧ j < o + dn) → T' j = T j) ∧ Only (fun k => B ≤ k ∧ k < w.heap.size) w wr)
  case atStart => exact ⟨0, Nat.zero_le _, rfl, rfl, rfl, _, by rw [Ro.flC_zero]; exact M1.out, swap1_same _ _ _, fun j hj _ => swap1_other _ _ (by omega), Only.of_below B1.out _⟩
  case round =>
   obtain ⟨t, ht, rfl, rfl, rfl, T', hM, hTm, hTj, hO⟩ := hrel
   have HM2 : Hid (PrM wr B (m + 1) T' ri bi o da dn dcap ba bn bcap (Ro.flC C t) bf) := hM
   have HT : Hid (T' m = blkT w.heap.size 30 cs ∧ ∀ j, j < m → ¬ (o ≤ j ∧ j < o + dn) → T' j = T j) := ⟨hTm, hTj⟩
   have HO : Hid (Only (fun k => B ≤ k ∧ k < w.heap.size) w wr) := hO
   have g0 := (many_blk16 hM.many (Nat.lt_succ_self m) hTm 0).trans HCS.out.1
   have g1 := (many_blk16 hM.many (Nat.lt_succ_self m) hTm 1).trans HCS.out.2.1
   have g2 := (many_blk16 hM.many (Nat.lt_succ_self m) hTm 2).trans HCS.out.2.2.1
   have g3 := (many_blk16 hM.many (Nat.lt_succ_self m) hTm 3).trans HCS.out.2.2.2.1
   have g4 := (many_blk16 hM.many (Nat.lt_succ_self m) hTm 4).trans HCS.out.2.2.2.2
   have hlr := World.block_lt_of_cell? wr _ g3
   clear M1 B1 hTm hTj hO j0 j1 j2 j3 j4
   by_cases hlt : t < dn
   ·have hi : (t : Int) < (dn : Int) := by omega
    have hcell := hM.set.row t hlt
    rw [Ro.flC_at] at hcell
    have hbs := Ro.flB_succ (C := C) t
    obtain ⟨fb, hfb⟩ : ∃ fb, Ro.flB C t = fb := ⟨_, rfl⟩
    have HFB : Hid (Ro.flB C (t + 1) = (fb || Ro.fluB (C t))) := by rw [← hfb]; exact hbs
    rw [hfb]
    obtain ⟨out, hout⟩ : ∃ out : Nat, out = Ro.flN fb := ⟨_, rfl⟩
    rw [← hout]
    have HOUT : Hid (out = Ro.flN fb) := hout
    have hgo := gone16_any (c := c) (k := k) (r := r) (dcap := dcap) (bcap := bcap) (bf := bf) t hlt wr hM.set
    rw [Ro.flC_at] at hgo
    clear hbs hfb hout
    cases hgb : Ro.goneB (C t) with
    | true =>
     have HE : Hid (Ro.flN (Ro.flB C (t + 1)) = out ∧ Ro.flC C (t + 1) = Ro.flC C t) := by
      have e1 : Ro.fluB (C t) = false := by
       cases hC : C t with
       | none => rfl
       | some x => rw [hC] at hgb; unfold Ro.fluB; dsimp only; rw [show x.2.dead = true from hgb]; rfl
      have e2 : Ro.fluC (C t) = C t := by
       cases hC : C t with
       | none => rfl
       | some x => rw [hC] at hgb; exact if_pos hgb
      refine ⟨by rw [HFB.out, HOUT.out, e1, Bool.or_false], ?_⟩
      rw [Ro.flC_succ, e2]
      funext j; unfold swap1; split
      ·rename_i hj; rw [hj, Ro.flC_at]
      ·rfl
     rw [hgb] at hgo
     have HGO : Hid (Calls Tryz.prog 65 #[.agg #[.int .i64 (c : Int), .int .i64 (k : Int), .int .i64 (r : Int), .slice da dn dcap, .slice ba bn bcap], .int .i64 (t : Int)] wr fun e w' => e = .returned (.bool true) ∧ Below wr.heap.size wr w') := hgo
     obtain ⟨b1, o1, rfl, hp⟩ := hcell
     obtain ⟨pk, hpk⟩ := ptr_shape16 (C t)
     rw [hpk] at hp
     have hlp := World.block_lt_of_cell? wr _ hp
     clear hM hgb hgo hpk
     go_wp2_with fail
     refine HGO.out.mono ?_
     rintro e w4 ⟨rfl, hb4⟩
     have HB4 : Hid (Below wr.heap.size wr w4) := hb4
     clear hb4
     go_wp2
     go_roundg (dn - (t + 1))
     case measure => omega
     case rel => exact ⟨t + 1, by omega, rfl, by go_num, by rw [HE.out.1], T', by rw [HE.out.2]; exact HM2.out.below HB4.out, HT.out.1, HT.out.2, HO.out.trans (Only.of_below HB4.out _)⟩
    | false =>
     cases hC : C t with
     | none => rw [hC] at hgb; cases hgb
     | some x =>
      obtain ⟨p, D⟩ := x
      rw [hC] at hcell hgb hgo
      have hd : D.dead = false := hgb
      rw [show Ro.goneB (some (p, D)) = false from hgb] at hgo
      obtain ⟨b1, o1, rfl, hp⟩ := hcell
      simp only [Ro.ptr] at hp
      have hlp := World.block_lt_of_cell? wr _ hp
      have HGO : Hid (Calls Tryz.prog 65 #[.agg #[.int .i64 (c : Int), .int .i64 (k : Int), .int .i64 (r : Int), .slice (some ⟨b1, o1, none⟩) dn dcap, .slice ba bn bcap], .int .i64 (t : Int)] wr fun e w' => e = .returned (.bool false) ∧ Below wr.heap.size wr w') := hgo
      have hcall := fun (W : World) (hW : Below wr.heap.size wr W) => (HM2.out.below hW).call hlt (show Ro.flC C t t = some (p, D) by rw [Ro.flC_at]; exact hC) (D' := D.flushed) (f := 69) (args := #[.pointer (some ⟨p, 0, none⟩)]) (Q := fun e => e = .returned (.int .i64 (D.runsE : Nat))) (fun G hG => pFl16 hG (HL.out t (p, D) hC))
      have hE3 : D.runsE = 0 ∨ D.runsE = 42 := by
       unfold Dr.runsE
       rw [hd]
       cases hg : (D.goes && D.left == 0) with
       | true => right; rfl
       | false => left; rfl
      obtain ⟨E, hE⟩ : ∃ E, D.runsE = E := ⟨_, rfl⟩
      rw [hE] at hE3
      have hfl : Ro.fluC (C t) = some (p, D.flushed) := by rw [hC]; unfold Ro.fluC; dsimp only; rw [hd]; rfl
      have HFC : Hid (Ro.flC C (t + 1) = swap1 (Ro.flC C t) t (some (p, D.flushed))) := by show _ = _; rw [Ro.flC_succ, hfl]
      have HC : Hid (∀ W, Below wr.heap.size wr W → Calls Tryz.prog 69 #[.pointer (some ⟨p, 0, none⟩)] W fun e w' => e = .returned (.int .i64 (E : Int)) ∧ Many w' B (m + 1) (spread T' o dn (fun i => prC (swap1 (Ro.flC C t) t (some (p, D.flushed)) i))) ∧ Only (fun k => B ≤ k ∧ k < W.heap.size) W w') := fun W hW => by rw [← hE]; exact hcall W hW
      have HP : Hid (∀ i, Ro.ptr (swap1 (Ro.flC C t) t (some (p, D.flushed)) i) = Ro.ptr (Ro.flC C t i)) := fun i => by
       unfold swap1; split
       ·rename_i hj; rw [hj, Ro.flC_at, hC]; rfl
       ·rfl
      have hfb2 : Ro.fluB (C t) = (E == 42) := by rw [hC]; unfold Ro.fluB; dsimp only; rw [hd, hE]; rfl
      have HB2 : Hid (Ro.flB C (t + 1) = (fb || (E == 42))) := by rw [← hfb2]; exact HFB.out
      clear hM hgb hgo hC hd hcall hE hfl hfb2
      go_wp2_with fail
      refine HGO.out.mono ?_
      rintro e w4 ⟨rfl, hb4⟩
      have HB4 : Hid (Below wr.heap.size wr w4) := hb4
      clear hb4
      rcases hE3 with h0 | h0
      ·have v1 : ((E : Int) != 0) = false := by rw [h0]; rfl
       have HE : Hid (Ro.flN (Ro.flB C (t + 1)) = out) := by show _ = _; rw [HB2.out, HOUT.out, h0]; cases fb <;> rfl
       clear h0
       go_wp2_with fail
       refine (HC.out _ HB4.out).mono ?_
       rintro e w5 ⟨rfl, hm5, ho5⟩
       have M5 : Hid (PrM w5 B (m + 1) (spread T' o dn (fun i => prC (swap1 (Ro.flC C t) t (some (p, D.flushed)) i))) ri bi o (some ⟨b1, o1, none⟩) dn dcap ba bn bcap (Ro.flC C (t + 1)) bf) := by rw [HFC.out]; exact (HM2.out.below HB4.out).anew hm5 HP.out
       have O5 : Hid (Only (fun k => B ≤ k ∧ k < w.heap.size) w w5) := (HO.out.trans (Only.of_below HB4.out _)).trans (ho5.mono fun k hk => by
        by_cases hkw : k < w.heap.size
        ·exact .inl ⟨hk.1, hkw⟩
        ·exact .inr (by omega))
       clear hm5 ho5
       go_wp2
       go_roundg (dn - (t + 1))
       case measure => omega
       case rel => exact ⟨t + 1, by omega, rfl, by go_num, by rw [HE.out], _, M5.out, by rw [spread_out _ _ _ _ (.inr H.out.ho)]; exact HT.out.1, fun j hj hn => by unfold spread; rw [if_neg hn]; exact HT.out.2 j hj hn, O5.out⟩
      ·have v1 : ((E : Int) != 0) = true := by rw [h0]; rfl
       have HE : Hid (Ro.flN (Ro.flB C (t + 1)) = E) := by show _ = _; rw [HB2.out, h0]; cases fb <;> rfl
       clear h0
       go_wp2_with fail
       refine (HC.out _ HB4.out).mono ?_
       rintro e w5 ⟨rfl, hm5, ho5⟩
       have M5 : Hid (PrM w5 B (m + 1) (spread T' o dn (fun i => prC (swap1 (Ro.flC C t) t (some (p, D.flushed)) i))) ri bi o (some ⟨b1, o1, none⟩) dn dcap ba bn bcap (Ro.flC C (t + 1)) bf) := by rw [HFC.out]; exact (HM2.out.below HB4.out).anew hm5 HP.out
       have O5 : Hid (Only (fun k => B ≤ k ∧ k < w.heap.size) w w5) := (HO.out.trans (Only.of_below HB4.out _)).trans (ho5.mono fun k hk => by
        by_cases hkw : k < w.heap.size
        ·exact .inl ⟨hk.1, hkw⟩
        ·exact .inr (by omega))
       clear hm5 ho5
       go_wp2
       go_roundg (dn - (t + 1))
       case measure => omega
       case rel => exact ⟨t + 1, by omega, rfl, by go_num, by rw [HE.out], _, M5.out, by rw [spread_out _ _ _ _ (.inr H.out.ho)]; exact HT.out.1, fun j hj hn => by unfold spread; rw [if_neg hn]; exact HT.out.2 j hj hn, O5.out⟩
   ·have htn : t = dn := by omega
    have hx : ¬ (t : Int) < (dn : Int) := by omega
    have hEnd : Many wr B m (spread T o dn (fun i => prC (Ro.flC C dn i))) := by
     rw [htn] at hM
     refine (hM.many.less (Nat.le_succ m)).congr fun j hj => ?_
     by_cases hj2 : o ≤ j ∧ j < o + dn
     ·obtain ⟨d, rfl⟩ : ∃ d, j = o + d := ⟨j - o, by omega⟩
      rw [hM.drv d (by omega), spread_in _ _ _ _ (by omega)]
     ·rw [HT.out.2 j hj hj2]; unfold spread; rw [if_neg hj2]
    have HEND : Hid (Many wr B m (spread T o dn (fun i => prC (Ro.flC C dn i)))) := hEnd
    obtain ⟨out, hout⟩ : ∃ out : Nat, Ro.flN (Ro.flB C t) = out := ⟨_, rfl⟩
    have HOUT : Hid (Ro.flN (Ro.flB C dn) = out) := by rw [← htn]; exact hout
    rw [hout]
    clear hM hEnd hout htn
    go_wp2
    go_ret
    exact ⟨by rw [HOUT.out]; rfl, HEND.out, HO.out⟩
end
end Go.Proofs.YtdgkhjgnjfgnlaaGreat
