import Derived.Test.YtdgkhjgnjfgnlaaGreatMRoB
import Derived.Test.YtdgkhjgnjfgnlaaGreatMRef6B
namespace Go.Proofs.YtdgkhjgnjfgnlaaGreat
open Go.RowKit
attribute [local go_sem] Oper.semAt_some
theorem Dr.read_len {D : Dr} (h : D.Ok) (i : Int) : (D.readS i).length ≤ 64 := by
 unfold Dr.readS
 split
 ·unfold Dr.last
  split
  ·rw [List.getD_eq_getElem?_getD]
   cases e : D.safe[i.toNat]? with
   | none => exact Nat.zero_le _
   | some s => exact Nat.le_of_eq (h.sector s (List.mem_of_getElem? e))
  ·rw [List.getD_eq_getElem?_getD]
   cases e : (D.writes i.toNat)[(D.writes i.toNat).length - 1]? with
   | none => exact Nat.zero_le _
   | some s => exact Nat.le_of_eq (h.writes _ s (List.mem_of_getElem? e))
 ·exact Nat.zero_le _
namespace Ro
section
variable (c k r dn bn : Nat) (C : Nat → Col) (bf : Nat → Int) (row off : Int)
def lostF (j : Nat) : Int := (readL c k r dn bn C bf row off).getD j 0
def filledE : Int := if readE c k r dn bn C bf row off = 0 then Rf.mayF c (oneX c k C bf row off) (readL c k r dn bn C bf row off).length (lostF c k r dn bn C bf row off) else (readE c k r dn bn C bf row off : Int)
def filledN : Nat := if filledE c k r dn bn C bf row off = 0 then c else 0
def filledL : List Int := if filledE c k r dn bn C bf row off = 0 then readL c k r dn bn C bf row off else []
def filledF : Nat → ByteArray := Rf.fillF c (oneX c k C bf row off) (readL c k r dn bn C bf row off).length (lostF c k r dn bn C bf row off)
end
end Ro
def FdSays (w : World) (E : Int) (n : Nat) (f : Nat → ByteArray) (l : List Int) (e : Ending) (w' : World) : Prop :=
 (∃ al cl ai ci, e = .returned (.tuple #[.slice al n cl, .slice ai l.length ci, .int .i64 E]) ∧ RowS w' al n f ∧ n ≤ cl ∧ RowI .i64 w' ai l.length (fun j => l.getD j 0) ∧ l.length ≤ ci) ∧ Below w.heap.size w w'
section
variable {c k r : Nat} {da ba : Option Addr} {dn dcap bn bcap : Nat} {C : Nat → Ro.Col} {bf : Nat → Int}
theorem Ro.one_fits {w : World} (h : RefSet w da dn ba bn C bf) (hc : 0 < c) (hdn : dn = c) (row off : Int) : Fits 1048576 c (Ro.oneX c k C bf row off) := by
 intro q _
 have hz := Ro.colN_lt (row := row.toNat) (role := q) hc
 unfold Ro.oneX
 split
 ·exact Nat.zero_le _
 ·cases hC : C (Ro.colN c row.toNat q) with
  | none => exact Nat.zero_le _
  | some x =>
   obtain ⟨p, D⟩ := x
   obtain ⟨G, hG⟩ := h.drv _ p D (by omega) hC
   have := Dr.read_len hG.ok (4 + row * (k : Int) + off)
   show (D.readS _).toArray.size ≤ _
   rw [List.size_toArray]; omega
theorem Ro.readL_len (row off : Int) : (Ro.readL c k r dn bn C bf row off).length ≤ c := by
 unfold Ro.readL
 split
 ·exact Ro.lostT_len c
 ·exact Nat.zero_le _
set_option maxRecDepth 100000 in
set_option maxHeartbeats 4000000 in
theorem rFilled16_any (hok : Lay.ok (c : Int) (k : Int) (r : Int)) (hdn : dn ≤ 1000000) (row off : Int) (w : World) (h : RefSet w da dn ba bn C bf) :
  Calls Tryz.prog 15 #[.agg #[.int .i64 (c : Int), .int .i64 (k : Int), .int .i64 (r : Int), .slice da dn dcap, .slice ba bn bcap], .int .i64 row, .int .i64 off] w
   (FdSays w (Ro.filledE c k r dn bn C bf row off) (Ro.filledN c k r dn bn C bf row off) (Ro.filledF c k r dn bn C bf row off) (Ro.filledL c k r dn bn C bf row off)) := by
 have X0 : Hid (At5 w w.heap.size c k r (.slice da dn dcap) (.slice ba bn bcap) (w.alloc (.cells #[.int .i64 (c : Int), .int .i64 (k : Int), .int .i64 (r : Int), .slice da dn dcap, .slice ba bn bcap] 33))) := At5.new _ _ _ _ _ _ _
 have hrd := rRead16_any (dcap := dcap) (bcap := bcap) hok hdn row off _ (h.below X0.out.2.2.2.2.2)
 have hlast : w.heap.size < (w.alloc (.cells #[.int .i64 (c : Int), .int .i64 (k : Int), .int .i64 (r : Int), .slice da dn dcap, .slice ba bn bcap] 33)).heap.size := World.block_lt_of_cell? _ _ X0.out.1
 have hc10 : c ≤ 10 := by have := hok.1; omega
 by_cases hE : Ro.readE c k r dn bn C bf row off = 0
 ·have hN : Ro.readN c k r dn bn C bf row off = c := if_pos hE
  have hdc : dn = c := by
   refine (Ro.chk_yes (c := c) (k := k) (r := r) (dn := dn) (bn := bn) (C := C) (row := row) (off := off) ?_).1
   by_cases hc : Ro.chk c k r dn bn C row off = 0
   ·exact hc
   ·unfold Ro.readE at hE; rw [if_neg hc] at hE; exact absurd hE hc
  have hfit : Fits 1048576 c (Ro.oneX c k C bf row off) := Ro.one_fits h (by have := hok.1; omega) hdc row off
  rw [hE, hN] at hrd
  have e1 : Ro.filledE c k r dn bn C bf row off = Rf.mayF c (Ro.oneX c k C bf row off) (Ro.readL c k r dn bn C bf row off).length (Ro.lostF c k r dn bn C bf row off) := if_pos hE
  have hll := Ro.readL_len (c := c) (k := k) (r := r) (dn := dn) (bn := bn) (C := C) (bf := bf) row off
  unfold Ro.filledN Ro.filledL Ro.filledF
  rw [e1]
  obtain ⟨L, hL⟩ : ∃ L, Ro.readL c k r dn bn C bf row off = L := ⟨_, rfl⟩
  have hLF : Ro.lostF c k r dn bn C bf row off = fun j => L.getD j 0 := by funext j; unfold Ro.lostF; rw [hL]
  rw [hL] at hrd hll ⊢
  rw [hLF]
  obtain ⟨f, hf⟩ : ∃ f, Ro.oneX c k C bf row off = f := ⟨_, rfl⟩
  rw [hf] at hrd hfit ⊢
  have HFL : Hid (∀ W a cap b capb, L.length ≤ capb → RowS W a c f → RowI .i64 W b L.length (fun j => L.getD j 0) → Calls Tryz.prog 48 #[.slice a c cap, .slice b L.length capb] W fun e w' => FillSays c f L.length (fun j => L.getD j 0) e w' ∧ Below W.heap.size W w') := fun W a cap b capb hb hr hl => refFill_says c f (by omega) hfit a cap L.length _ (by omega) b capb hb W hr hl
  unfold FillSays at HFL
  obtain ⟨y, hy⟩ : ∃ y, Rf.mayF c f L.length (fun j => L.getD j 0) = y := ⟨_, rfl⟩
  obtain ⟨F, hF⟩ : ∃ F, Rf.fillF c f L.length (fun j => L.getD j 0) = F := ⟨_, rfl⟩
  rw [hy] at HFL ⊢
  rw [hF] at HFL ⊢
  obtain ⟨ln, hln⟩ : ∃ ln, L.length = ln := ⟨_, rfl⟩
  have HLN : Hid (L.length = ln) := hln
  have HRD : Hid (Calls Tryz.prog 13 #[.agg #[.int .i64 (c : Int), .int .i64 (k : Int), .int .i64 (r : Int), .slice da dn dcap, .slice ba bn bcap], .int .i64 row, .int .i64 off] (w.alloc (.cells #[.int .i64 (c : Int), .int .i64 (k : Int), .int .i64 (r : Int), .slice da dn dcap, .slice ba bn bcap] 33)) (RdSays (w.alloc (.cells #[.int .i64 (c : Int), .int .i64 (k : Int), .int .i64 (r : Int), .slice da dn dcap, .slice ba bn bcap] 33)) 0 c f L)) := hrd
  obtain ⟨k0, k1, k2, k3, k4, _⟩ := X0.out
  by_cases hy0 : y = 0
  ·have HN1 : Hid ((if y = 0 then c else 0) = c ∧ (if y = 0 then L else []) = L) := ⟨if_pos hy0, if_pos hy0⟩
   rw [HN1.out.1, HN1.out.2]
   subst hy0
   have HK : Hid (Rf.kF c 0 = c) := Rf.kF_ok c
   clear hrd h hfit hf hy hF hL hLF e1 hE hN hln hdc hok HN1
   go_enter Tryz.func15, Tryz.ntmps15
   go_wp2_with fail
   refine HRD.out.mono ?_
   rintro e w1 ⟨⟨al, cl, ai, ci, rfl, hr1, _, hi1, hc1⟩, hb1⟩
   have B1 : Hid (Below w.heap.size w w1) := (X0.out.kept hb1).2.2.2.2.2
   have hfl := HFL.out w1 al cl ai ci hc1 hr1 hi1
   have HF1 : Hid (Calls Tryz.prog 48 #[.slice al c cl, .slice ai L.length ci] w1 fun e w' => (∃ g c_1, e = .returned (.tuple #[.slice g (Rf.kF c 0) c_1, .int .i64 0]) ∧ RowS w' g (Rf.kF c 0) F ∧ Rf.kF c 0 ≤ c_1) ∧ Below w1.heap.size w1 w') := hfl
   have HI1 : Hid (RowI .i64 w1 ai L.length (fun j => L.getD j 0) ∧ L.length ≤ ci) := ⟨hi1, hc1⟩
   clear hr1 hi1 hc1 hb1 hfl HFL HRD X0 k0 k1 k2 k3 k4 hlast
   go_wp2_with fail
   refine HF1.out.mono ?_
   rintro e w2 ⟨⟨g, c2, rfl, hr2, hc2⟩, hb2⟩
   rw [HK.out] at hr2 hc2 ⊢
   have B2 : Hid (Below w.heap.size w w2) := B1.out.trans (hb2.mono B1.out.size)
   have HR2 : Hid (RowS w2 g c F ∧ c ≤ c2 ∧ RowI .i64 w2 ai L.length (fun j => L.getD j 0)) := ⟨hr2, hc2, HI1.out.1.below hb2⟩
   clear hr2 hc2 hb2
   go_wp2
   go_ret3
   exact ⟨⟨g, c2, ai, ci, rfl, HR2.out.1, HR2.out.2.1, HR2.out.2.2, HI1.out.2⟩, B2.out⟩
  ·have HN1 : Hid ((if y = 0 then c else 0) = 0 ∧ (if y = 0 then L else []) = []) := ⟨if_neg hy0, if_neg hy0⟩
   rw [HN1.out.1, HN1.out.2]
   have v1 : (y != 0) = true := by rw [bne_iff_ne]; exact hy0
   have HK : Hid (Rf.kF c y = 0) := Rf.kF_no hy0
   clear hrd h hfit hf hy hF hL hLF e1 hE hN hln hdc hok HN1 hy0
   go_enter Tryz.func15, Tryz.ntmps15
   go_wp2_with fail
   refine HRD.out.mono ?_
   rintro e w1 ⟨⟨al, cl, ai, ci, rfl, hr1, _, hi1, hc1⟩, hb1⟩
   have B1 : Hid (Below w.heap.size w w1) := (X0.out.kept hb1).2.2.2.2.2
   have hfl := HFL.out w1 al cl ai ci hc1 hr1 hi1
   have HF1 : Hid (Calls Tryz.prog 48 #[.slice al c cl, .slice ai L.length ci] w1 fun e w' => (∃ g c_1, e = .returned (.tuple #[.slice g (Rf.kF c y) c_1, .int .i64 y]) ∧ RowS w' g (Rf.kF c y) F ∧ Rf.kF c y ≤ c_1) ∧ Below w1.heap.size w1 w') := hfl
   clear hr1 hi1 hc1 hb1 hfl HFL HRD X0 k0 k1 k2 k3 k4 hlast
   go_wp2_with fail
   refine HF1.out.mono ?_
   rintro e w2 ⟨⟨g, c2, rfl, _, _⟩, hb2⟩
   have B2 : Hid (Below w.heap.size w w2) := B1.out.trans (hb2.mono B1.out.size)
   rw [HK.out]
   clear hb2
   go_wp2
   go_ret3
   exact ⟨⟨none, 0, none, 0, rfl, RowS.nil _ _ _, Nat.le_refl _, RowI.nil _ _ _ _, Nat.le_refl _⟩, B2.out⟩
 ·have e1 : Ro.filledE c k r dn bn C bf row off = ((Ro.readE c k r dn bn C bf row off : Nat) : Int) := if_neg hE
  unfold Ro.filledN Ro.filledL
  rw [e1, if_neg (by omega), if_neg (by omega)]
  obtain ⟨E, hEE⟩ : ∃ E, Ro.readE c k r dn bn C bf row off = E := ⟨_, rfl⟩
  rw [hEE] at hrd hE ⊢
  have v1 : ((E : Int) != 0) = true := by rw [bne_iff_ne]; omega
  have HRD : Hid (Calls Tryz.prog 13 #[.agg #[.int .i64 (c : Int), .int .i64 (k : Int), .int .i64 (r : Int), .slice da dn dcap, .slice ba bn bcap], .int .i64 row, .int .i64 off] (w.alloc (.cells #[.int .i64 (c : Int), .int .i64 (k : Int), .int .i64 (r : Int), .slice da dn dcap, .slice ba bn bcap] 33)) (RdSays (w.alloc (.cells #[.int .i64 (c : Int), .int .i64 (k : Int), .int .i64 (r : Int), .slice da dn dcap, .slice ba bn bcap] 33)) E (Ro.readN c k r dn bn C bf row off) (Ro.oneX c k C bf row off) (Ro.readL c k r dn bn C bf row off))) := hrd
  obtain ⟨k0, k1, k2, k3, k4, _⟩ := X0.out
  clear hrd h e1 hEE hE hok
  go_enter Tryz.func15, Tryz.ntmps15
  go_wp2_with fail
  refine HRD.out.mono ?_
  rintro e w1 ⟨⟨al, cl, ai, ci, rfl, _, _, _, _⟩, hb1⟩
  have B1 : Hid (Below w.heap.size w w1) := (X0.out.kept hb1).2.2.2.2.2
  clear hb1
  go_wp2
  go_ret3
  exact ⟨⟨none, 0, none, 0, rfl, RowS.nil _ _ _, Nat.le_refl _, RowI.nil _ _ _ _, Nat.le_refl _⟩, B1.out⟩
end
end Go.Proofs.YtdgkhjgnjfgnlaaGreat
namespace Go.Proofs.YtdgkhjgnjfgnlaaGreat
open Go.RowKit
attribute [local go_sem] Oper.semAt_some
namespace Ro
section
variable (c k r dn bn : Nat) (C : Nat → Col) (bf : Nat → Int) (row off i : Int)
def secE0 (q : Nat) : Int := if oneE c k C bf row off q = 41 then filledE c k r dn bn C bf row off else (oneE c k C bf row off q : Int)
def secX0 (q : Nat) : ByteArray := if oneE c k C bf row off q = 41 then (if filledE c k r dn bn C bf row off = 0 then filledF c k r dn bn C bf row off q else ⟨#[]⟩) else oneX c k C bf row off q
def secB : Bool := decide (0 ≤ i) && decide (i < (c : Int) - 2)
def secE : Int := if chk c k r dn bn C row off = 0 then (if secB c i then secE0 c k r dn bn C bf row off i.toNat else 70) else (chk c k r dn bn C row off : Int)
def secX : ByteArray := if chk c k r dn bn C row off = 0 then (if secB c i then secX0 c k r dn bn C bf row off i.toNat else ⟨#[]⟩) else ⟨#[]⟩
end
end Ro
theorem Ro.col_eq {c k r row i : Nat} (hok : Lay.ok (c : Int) (k : Int) (r : Int)) (hr : row < r) (hi : i + 2 < c) : Lay.colI (c : Int) (k : Int) (r : Int) (row : Int) (i : Int) = ((Ro.colN c row i : Nat) : Int) := by
 rw [show Lay.colI (c : Int) (k : Int) (r : Int) (row : Int) (i : Int) = (((c : Int) - 1 - (row : Int) % (c : Int) + 1) % (c : Int) + 1 + (i : Int)) % (c : Int) from if_pos ⟨⟨hok, by omega, by omega⟩, by omega, by omega⟩]
 unfold Ro.colN
 obtain ⟨⟨c1, c2⟩, _, _⟩ := hok
 have hc : c = 4 ∨ c = 5 ∨ c = 6 ∨ c = 7 ∨ c = 8 ∨ c = 9 ∨ c = 10 := by omega
 rcases hc with rfl | rfl | rfl | rfl | rfl | rfl | rfl <;> omega
section
variable {c k r : Nat} {da ba : Option Addr} {dn dcap bn bcap : Nat} {C : Nat → Ro.Col} {bf : Nat → Int}
set_option maxRecDepth 100000 in
set_option maxHeartbeats 8000000 in
theorem rSector16_yes (hok : Lay.ok (c : Int) (k : Int) (r : Int)) (row off i : Nat) (hrow : row < r) (hic : i + 2 < c) (w : World) (h : RefSet w da c ba c C bf) (hyes : Ro.chk c k r c c C (row : Int) (off : Int) = 0) :
  Calls Tryz.prog 17 #[.agg #[.int .i64 (c : Int), .int .i64 (k : Int), .int .i64 (r : Int), .slice da c dcap, .slice ba c bcap], .int .i64 (row : Int), .int .i64 (off : Int), .int .i64 (i : Int)] w fun e w' => e = .returned (.tuple #[.string (Ro.secX0 c k r c c C bf (row : Int) (off : Int) i), .int .i64 (Ro.secE0 c k r c c C bf (row : Int) (off : Int) i)]) ∧ Below w.heap.size w w' := by
 have hc10 : c ≤ 10 := by have := hok.1; omega
 have X0 : Hid (At5 w w.heap.size c k r (.slice da c dcap) (.slice ba c bcap) (w.alloc (.cells #[.int .i64 (c : Int), .int .i64 (k : Int), .int .i64 (r : Int), .slice da c dcap, .slice ba c bcap] 33))) := At5.new _ _ _ _ _ _ _
 have hm0 := rCheck16 (dcap := dcap) (bcap := bcap) hok (by omega) (row : Int) (off : Int) _ (h.below X0.out.2.2.2.2.2)
 rw [hyes] at hm0
 have HCK : Hid (Calls Tryz.prog 42 #[.agg #[.int .i64 (c : Int), .int .i64 (k : Int), .int .i64 (r : Int), .slice da c dcap, .slice ba c bcap], .int .i64 (row : Int), .int .i64 (off : Int)] (w.alloc (.cells #[.int .i64 (c : Int), .int .i64 (k : Int), .int .i64 (r : Int), .slice da c dcap, .slice ba c bcap] 33)) fun e w' => e = .returned (.int .i64 0) ∧ Below (w.alloc (.cells #[.int .i64 (c : Int), .int .i64 (k : Int), .int .i64 (r : Int), .slice da c dcap, .slice ba c bcap] 33)).heap.size (w.alloc (.cells #[.int .i64 (c : Int), .int .i64 (k : Int), .int .i64 (r : Int), .slice da c dcap, .slice ba c bcap] 33)) w') := hm0
 have hoff := (Ro.chk_yes hyes).2.2.1.2
 have hz := Ro.colN_lt (c := c) (row := row) (role := i) (by omega)
 have hcol := Ro.col_eq hok hrow hic
 obtain ⟨z, hzz⟩ : ∃ z, Ro.colN c row i = z := ⟨_, rfl⟩
 rw [hzz] at hz hcol
 have HCOL : Hid (∀ W, Calls Tryz.prog 52 #[.agg #[.int .i64 (c : Int), .int .i64 (k : Int), .int .i64 (r : Int)], .int .i64 (row : Int), .int .i64 (i : Int)] W fun e w' => e = .returned (.int .i64 (z : Nat)) ∧ Below W.heap.size W w') := fun W => by
  have h := rColumn_all (c : Int) (k : Int) (r : Int) (row : Int) (i : Int) (by omega) (by omega) W
  rw [hcol] at h
  exact h
 obtain ⟨m, hm⟩ : ∃ m, Ro.missB C bf (row : Int) z = m := ⟨_, rfl⟩
 have HM : Hid (∀ W, Below w.heap.size w W → Calls Tryz.prog 44 #[.agg #[.int .i64 (c : Int), .int .i64 (k : Int), .int .i64 (r : Int), .slice da c dcap, .slice ba c bcap], .int .i64 (row : Int), .int .i64 (z : Nat)] W fun e w' => e = .returned (.bool m) ∧ Below W.heap.size W w') := fun W hW => by
  have h := rMissing16 (c := c) (k := k) (r := r) (dcap := dcap) (bcap := bcap) (row : Int) z hz hz W (h.below hW)
  rwa [hm] at h
 have HSEC : Hid (∀ W, Calls Tryz.prog 46 #[.agg #[.int .i64 (c : Int), .int .i64 (k : Int), .int .i64 (r : Int)], .int .i64 (row : Int), .int .i64 (off : Int)] W fun e w' => e = .returned (.int .i64 (4 + (row : Int) * (k : Int) + (off : Int))) ∧ Below W.heap.size W w') := fun W => by
  have h := rSector_any (c : Int) (k : Int) (r : Int) (row : Int) (off : Int) W
  rw [show Lay.sectI (c : Int) (k : Int) (r : Int) (row : Int) (off : Int) = 4 + (row : Int) * (k : Int) + (off : Int) from if_pos ⟨⟨hok, by omega, by omega⟩, hoff⟩] at h
  exact h
 have hfd : ∀ W, Below w.heap.size w W → Calls Tryz.prog 15 #[.agg #[.int .i64 (c : Int), .int .i64 (k : Int), .int .i64 (r : Int), .slice da c dcap, .slice ba c bcap], .int .i64 (row : Int), .int .i64 (off : Int)] W (FdSays W (Ro.filledE c k r c c C bf (row : Int) (off : Int)) (Ro.filledN c k r c c C bf (row : Int) (off : Int)) (Ro.filledF c k r c c C bf (row : Int) (off : Int)) (Ro.filledL c k r c c C bf (row : Int) (off : Int))) := fun W hW => rFilled16_any hok (by omega) (row : Int) (off : Int) W (h.below hW)
 have hone : Ro.oneE c k C bf (row : Int) (off : Int) i = (if m then 41 else match C z with
  | none => 41
  | some x => x.2.readE (4 + (row : Int) * (k : Int) + (off : Int))) := by unfold Ro.oneE; rw [Int.toNat_natCast, hzz, hm]; rfl
 have hxx : Ro.oneX c k C bf (row : Int) (off : Int) i = (if m then ⟨#[]⟩ else match C z with
  | none => ⟨#[]⟩
  | some x => txt (x.2.readS (4 + (row : Int) * (k : Int) + (off : Int)))) := by unfold Ro.oneX; rw [Int.toNat_natCast, hzz, hm]; rfl
 unfold Ro.secX0 Ro.secE0
 have hNN : Ro.filledN c k r c c C bf (row : Int) (off : Int) = (if Ro.filledE c k r c c C bf (row : Int) (off : Int) = 0 then c else 0) := rfl
 obtain ⟨y, hy⟩ : ∃ y, Ro.filledE c k r c c C bf (row : Int) (off : Int) = y := ⟨_, rfl⟩
 obtain ⟨F, hF⟩ : ∃ F, Ro.filledF c k r c c C bf (row : Int) (off : Int) = F := ⟨_, rfl⟩
 rw [hy] at hfd hNN ⊢
 rw [hF] at hfd ⊢
 rw [hNN] at hfd
 obtain ⟨o, ho⟩ : ∃ o, Ro.oneE c k C bf (row : Int) (off : Int) i = o := ⟨_, rfl⟩
 obtain ⟨X, hX⟩ : ∃ X, Ro.oneX c k C bf (row : Int) (off : Int) i = X := ⟨_, rfl⟩
 rw [ho] at hone ⊢
 rw [hX] at hxx ⊢
 obtain ⟨LL, hLL⟩ : ∃ LL, Ro.filledL c k r c c C bf (row : Int) (off : Int) = LL := ⟨_, rfl⟩
 rw [hLL] at hfd
 obtain ⟨N7, hN7⟩ : ∃ N7, (if y = 0 then c else 0) = N7 := ⟨_, rfl⟩
 rw [hN7] at hfd
 have HFD : Hid (∀ W, Below w.heap.size w W → Calls Tryz.prog 15 #[.agg #[.int .i64 (c : Int), .int .i64 (k : Int), .int .i64 (r : Int), .slice da c dcap, .slice ba c bcap], .int .i64 (row : Int), .int .i64 (off : Int)] W (FdSays W y N7 F LL)) := hfd
 have HN7 : Hid ((if y = 0 then c else 0) = N7) := hN7
 have H : Hid (RefSet w da c ba c C bf) := h
 have hlast : w.heap.size < (w.alloc (.cells #[.int .i64 (c : Int), .int .i64 (k : Int), .int .i64 (r : Int), .slice da c dcap, .slice ba c bcap] 33)).heap.size := World.block_lt_of_cell? _ _ X0.out.1
 have t0 : ¬ (i : Int) < 0 := by omega
 have t1 : decide ((i : Int) < 0) = false := decide_eq_false t0
 have t2 : decide ((c : Int) - 2 ≤ (i : Int)) = false := decide_eq_false (by omega)
 have t3 : IntKind.i64.wrap ((c : Int) - 2) = (c : Int) - 2 := by rw [IntKind.wrap_i64]; omega
 have t4 : ¬ (c : Int) - 2 ≤ (i : Int) := by omega
 have hzi : (z : Int) < (c : Int) := by omega
 have hii : (i : Int) < (c : Int) := by omega
 have hiN : i < c := by omega
 have hc4 : 2 ≤ c := by omega
 clear hm0 hfd hNN hy hF hLL hN7 hcol hzz hok hyes ho hX h
 cases m with
 | true =>
  have e1 : o = 41 := by rw [hone, if_pos rfl]
  subst e1
  rw [if_pos rfl, if_pos rfl]
  obtain ⟨k0, k1, k2, k3, k4, _⟩ := X0.out
  clear hone hxx hm
  by_cases hy0 : y = 0
  ·subst hy0
   have HN : Hid (N7 = c) := by show _ = _; rw [← HN7.out]; exact if_pos rfl
   rw [if_pos rfl]
   go_enter Tryz.func17, Tryz.ntmps17
   go_wp2_with fail
   refine HCK.out.mono ?_
   rintro e w1 ⟨rfl, hb1⟩
   have R1 : Hid (At5 w w.heap.size c k r (.slice da c dcap) (.slice ba c bcap) w1) := X0.out.kept hb1
   obtain ⟨j0, j1, j2, j3, j4, _⟩ := R1.out
   have hl1 : w.heap.size < w1.heap.size := World.block_lt_of_cell? _ _ j0
   clear hb1 k0 k1 k2 k3 k4 hlast X0
   go_wp2_with (first | (go_at_call 52; refine (HCOL.out _).mono ?_; rintro e w2 ⟨rfl, hb2⟩; have R2 : Hid (At5 w w.heap.size c k r (.slice da c dcap) (.slice ba c bcap) w2) := R1.out.kept hb2; obtain ⟨m0, m1, m2, m3, m4, _⟩ := R2.out; have hl2 : w.heap.size < w2.heap.size := World.block_lt_of_cell? _ _ m0; clear hb2) | (go_at_call 44; refine (HM.out _ R2.out.2.2.2.2.2).mono ?_; rintro e w3 ⟨rfl, hb3⟩; have R3 : Hid (At5 w w.heap.size c k r (.slice da c dcap) (.slice ba c bcap) w3) := R2.out.kept hb3; obtain ⟨n0, n1, n2, n3, n4, _⟩ := R3.out; have hl3 : w.heap.size < w3.heap.size := World.block_lt_of_cell? _ _ n0; clear hb3))
   go_wp2_with fail
   refine (HFD.out _ R3.out.2.2.2.2.2).mono ?_
   rintro e w7 ⟨⟨al, cl, ai, ci, rfl, hr7, hc7, _, _⟩, hb7⟩
   rw [HN.out] at hr7 hc7 ⊢
   have B7 : Hid (Below w.heap.size w w7) := (R3.out.kept hb7).2.2.2.2.2
   obtain ⟨ab, ao, rfl, hcell7⟩ := hr7 i hiN
   clear hb7 hr7
   go_wp2
   go_ret2
   exact ⟨rfl, B7.out⟩
  ·have v2 : (y != 0) = true := by rw [bne_iff_ne]; exact hy0
   rw [if_neg hy0]
   clear hy0
   go_enter Tryz.func17, Tryz.ntmps17
   go_wp2_with fail
   refine HCK.out.mono ?_
   rintro e w1 ⟨rfl, hb1⟩
   have R1 : Hid (At5 w w.heap.size c k r (.slice da c dcap) (.slice ba c bcap) w1) := X0.out.kept hb1
   obtain ⟨j0, j1, j2, j3, j4, _⟩ := R1.out
   have hl1 : w.heap.size < w1.heap.size := World.block_lt_of_cell? _ _ j0
   clear hb1 k0 k1 k2 k3 k4 hlast X0
   go_wp2_with (first | (go_at_call 52; refine (HCOL.out _).mono ?_; rintro e w2 ⟨rfl, hb2⟩; have R2 : Hid (At5 w w.heap.size c k r (.slice da c dcap) (.slice ba c bcap) w2) := R1.out.kept hb2; obtain ⟨m0, m1, m2, m3, m4, _⟩ := R2.out; have hl2 : w.heap.size < w2.heap.size := World.block_lt_of_cell? _ _ m0; clear hb2) | (go_at_call 44; refine (HM.out _ R2.out.2.2.2.2.2).mono ?_; rintro e w3 ⟨rfl, hb3⟩; have R3 : Hid (At5 w w.heap.size c k r (.slice da c dcap) (.slice ba c bcap) w3) := R2.out.kept hb3; obtain ⟨n0, n1, n2, n3, n4, _⟩ := R3.out; have hl3 : w.heap.size < w3.heap.size := World.block_lt_of_cell? _ _ n0; clear hb3))
   go_wp2_with fail
   refine (HFD.out _ R3.out.2.2.2.2.2).mono ?_
   rintro e w7 ⟨⟨al, cl, ai, ci, rfl, _, _, _, _⟩, hb7⟩
   have B7 : Hid (Below w.heap.size w w7) := (R3.out.kept hb7).2.2.2.2.2
   clear hb7
   go_wp2
   go_ret2
   exact ⟨rfl, B7.out⟩
 | false =>
  cases hC : C z with
  | none => rw [show Ro.missB C bf (row : Int) z = true by unfold Ro.missB; rw [hC]] at hm; cases hm
  | some x =>
   obtain ⟨p, D⟩ := x
   rw [hC] at hone hxx
   have hcell := H.out.row z hz
   rw [hC] at hcell
   obtain ⟨b1, o1, rfl, hp⟩ := hcell
   obtain ⟨G, hG⟩ := H.out.drv z p D hz hC
   have e1 : D.readE (4 + (row : Int) * (k : Int) + (off : Int)) = o := by rw [hone, if_neg (by decide)]
   have e2 : txt (D.readS (4 + (row : Int) * (k : Int) + (off : Int))) = X := by rw [hxx, if_neg (by decide)]
   have hrd : ∀ W, Below w.heap.size w W → Calls Tryz.prog 45 #[.pointer (some ⟨p, 0, none⟩), .int .i64 (4 + (row : Int) * (k : Int) + (off : Int))] W fun e w' => e = .returned (.tuple #[.string X, .int .i64 (o : Int)]) ∧ w' = W := fun W hW => by
    have h := pRead_any (hG.below hW) (4 + (row : Int) * (k : Int) + (off : Int))
    rw [e1, e2] at h
    exact h
   obtain ⟨sc, hsc⟩ : ∃ sc, 4 + (row : Int) * (k : Int) + (off : Int) = sc := ⟨_, rfl⟩
   rw [hsc] at hrd
   have HSE : Hid (∀ W, Calls Tryz.prog 46 #[.agg #[.int .i64 (c : Int), .int .i64 (k : Int), .int .i64 (r : Int)], .int .i64 (row : Int), .int .i64 (off : Int)] W fun e w' => e = .returned (.int .i64 sc) ∧ Below W.heap.size W w') := fun W => by rw [← hsc]; exact HSEC.out W
   have HRD : Hid (∀ W, Below w.heap.size w W → Calls Tryz.prog 45 #[.pointer (some ⟨p, 0, none⟩), .int .i64 sc] W fun e w' => e = .returned (.tuple #[.string X, .int .i64 (o : Int)]) ∧ w' = W) := hrd
   have HP : Hid (w.cell? ⟨b1, o1 + z, none⟩ = some (.pointer (some ⟨p, 0, none⟩))) := hp
   obtain ⟨k0, k1, k2, k3, k4, _⟩ := X0.out
   clear hone hxx hm e1 e2 hrd hsc hC hG hp
   by_cases h41 : o = 41
   ·subst h41
    rw [if_pos rfl, if_pos rfl]
    by_cases hy0 : y = 0
    ·subst hy0
     have HN : Hid (N7 = c) := by show _ = _; rw [← HN7.out]; exact if_pos rfl
     rw [if_pos rfl]
     go_enter Tryz.func17, Tryz.ntmps17
     go_wp2_with fail
     refine HCK.out.mono ?_
     rintro e w1 ⟨rfl, hb1⟩
     have R1 : Hid (At5 w w.heap.size c k r (.slice (some ⟨b1, o1, none⟩) c dcap) (.slice ba c bcap) w1) := X0.out.kept hb1
     obtain ⟨j0, j1, j2, j3, j4, _⟩ := R1.out
     have hl1 : w.heap.size < w1.heap.size := World.block_lt_of_cell? _ _ j0
     clear hb1 k0 k1 k2 k3 k4 hlast X0
     go_wp2_with (first | (go_at_call 52; refine (HCOL.out _).mono ?_; rintro e w2 ⟨rfl, hb2⟩; have R2 : Hid (At5 w w.heap.size c k r (.slice (some ⟨b1, o1, none⟩) c dcap) (.slice ba c bcap) w2) := R1.out.kept hb2; obtain ⟨m0, m1, m2, m3, m4, _⟩ := R2.out; have hl2 : w.heap.size < w2.heap.size := World.block_lt_of_cell? _ _ m0; clear hb2) | (go_at_call 44; refine (HM.out _ R2.out.2.2.2.2.2).mono ?_; rintro e w3 ⟨rfl, hb3⟩; have R3 : Hid (At5 w w.heap.size c k r (.slice (some ⟨b1, o1, none⟩) c dcap) (.slice ba c bcap) w3) := R2.out.kept hb3; obtain ⟨n0, n1, n2, n3, n4, _⟩ := R3.out; have hl3 : w.heap.size < w3.heap.size := World.block_lt_of_cell? _ _ n0; clear hb3))
     have hp3 := (R3.out.2.2.2.2.2.cell (p := ⟨b1, o1 + z, none⟩) (World.block_lt_of_cell? w _ HP.out)).trans HP.out
     have hS0 : w3.drew.cell? ⟨w.heap.size, 0, none⟩ = some (.int .i64 (c : Int)) ∧ w3.drew.cell? ⟨w.heap.size, 1, none⟩ = some (.int .i64 (k : Int)) ∧ w3.drew.cell? ⟨w.heap.size, 2, none⟩ = some (.int .i64 (r : Int)) ∧ w3.drew.cell? ⟨w.heap.size, 3, none⟩ = some (.slice (some ⟨b1, o1, none⟩) c dcap) ∧ w3.drew.cell? ⟨w.heap.size, 4, none⟩ = some (.slice ba c bcap) ∧ w3.drew.cell? ⟨b1, o1 + z, none⟩ = some (.pointer (some ⟨p, 0, none⟩)) ∧ Below w.heap.size w w3.drew := ⟨R3.out.1, R3.out.2.1, R3.out.2.2.1, R3.out.2.2.2.1, R3.out.2.2.2.2.1, hp3, R3.out.2.2.2.2.2.drew⟩
     go_region_held3 (fun W => W.cell? ⟨w.heap.size, 0, none⟩ = some (.int .i64 (c : Int)) ∧ W.cell? ⟨w.heap.size, 1, none⟩ = some (.int .i64 (k : Int)) ∧ W.cell? ⟨w.heap.size, 2, none⟩ = some (.int .i64 (r : Int)) ∧ W.cell? ⟨w.heap.size, 3, none⟩ = some (.slice (some ⟨b1, o1, none⟩) c dcap) ∧ W.cell? ⟨w.heap.size, 4, none⟩ = some (.slice ba c bcap) ∧ W.cell? ⟨b1, o1 + z, none⟩ = some (.pointer (some ⟨p, 0, none⟩)) ∧ Below w.heap.size w W) (first | exact hS0 | assumption) (first | (go_at_call 46; refine (HSE.out _).mono ?_; rintro e w4 ⟨rfl, hb4⟩; have hs4 := keep_sd hb4 (by assumption); have R4 : Hid (At5 w w.heap.size c k r (.slice (some ⟨b1, o1, none⟩) c dcap) (.slice ba c bcap) w4) := R3.out.kept ((Below.refl _ w3).drew.trans hb4); obtain ⟨g0, g1, g2, g3, g4, _⟩ := R4.out; have hl4 : w.heap.size < w4.heap.size := World.block_lt_of_cell? _ _ g0; clear hb4) | (go_at_call 45; refine (HRD.out _ (sd_low (by assumption))).mono ?_; rintro e w5 ⟨rfl, h5⟩; have h5' := h5.symm; subst h5'; clear h5))
     all_goals
      go_wp2_with fail
      refine (HFD.out _ R4.out.2.2.2.2.2).mono ?_
      rintro e w7 ⟨⟨al, cl, ai, ci, rfl, hr7, hc7, _, _⟩, hb7⟩
      rw [HN.out] at hr7 hc7 ⊢
      have B7 : Hid (Below w.heap.size w w7) := (R4.out.kept hb7).2.2.2.2.2
      obtain ⟨ab, ao, rfl, hcell7⟩ := hr7 i hiN
      clear hb7 hr7
      go_wp2
      go_ret2
      exact ⟨rfl, B7.out⟩
    ·have v2 : (y != 0) = true := by rw [bne_iff_ne]; exact hy0
     rw [if_neg hy0]
     clear hy0
     go_enter Tryz.func17, Tryz.ntmps17
     go_wp2_with fail
     refine HCK.out.mono ?_
     rintro e w1 ⟨rfl, hb1⟩
     have R1 : Hid (At5 w w.heap.size c k r (.slice (some ⟨b1, o1, none⟩) c dcap) (.slice ba c bcap) w1) := X0.out.kept hb1
     obtain ⟨j0, j1, j2, j3, j4, _⟩ := R1.out
     have hl1 : w.heap.size < w1.heap.size := World.block_lt_of_cell? _ _ j0
     clear hb1 k0 k1 k2 k3 k4 hlast X0
     go_wp2_with (first | (go_at_call 52; refine (HCOL.out _).mono ?_; rintro e w2 ⟨rfl, hb2⟩; have R2 : Hid (At5 w w.heap.size c k r (.slice (some ⟨b1, o1, none⟩) c dcap) (.slice ba c bcap) w2) := R1.out.kept hb2; obtain ⟨m0, m1, m2, m3, m4, _⟩ := R2.out; have hl2 : w.heap.size < w2.heap.size := World.block_lt_of_cell? _ _ m0; clear hb2) | (go_at_call 44; refine (HM.out _ R2.out.2.2.2.2.2).mono ?_; rintro e w3 ⟨rfl, hb3⟩; have R3 : Hid (At5 w w.heap.size c k r (.slice (some ⟨b1, o1, none⟩) c dcap) (.slice ba c bcap) w3) := R2.out.kept hb3; obtain ⟨n0, n1, n2, n3, n4, _⟩ := R3.out; have hl3 : w.heap.size < w3.heap.size := World.block_lt_of_cell? _ _ n0; clear hb3))
     have hp3 := (R3.out.2.2.2.2.2.cell (p := ⟨b1, o1 + z, none⟩) (World.block_lt_of_cell? w _ HP.out)).trans HP.out
     have hS0 : w3.drew.cell? ⟨w.heap.size, 0, none⟩ = some (.int .i64 (c : Int)) ∧ w3.drew.cell? ⟨w.heap.size, 1, none⟩ = some (.int .i64 (k : Int)) ∧ w3.drew.cell? ⟨w.heap.size, 2, none⟩ = some (.int .i64 (r : Int)) ∧ w3.drew.cell? ⟨w.heap.size, 3, none⟩ = some (.slice (some ⟨b1, o1, none⟩) c dcap) ∧ w3.drew.cell? ⟨w.heap.size, 4, none⟩ = some (.slice ba c bcap) ∧ w3.drew.cell? ⟨b1, o1 + z, none⟩ = some (.pointer (some ⟨p, 0, none⟩)) ∧ Below w.heap.size w w3.drew := ⟨R3.out.1, R3.out.2.1, R3.out.2.2.1, R3.out.2.2.2.1, R3.out.2.2.2.2.1, hp3, R3.out.2.2.2.2.2.drew⟩
     go_region_held3 (fun W => W.cell? ⟨w.heap.size, 0, none⟩ = some (.int .i64 (c : Int)) ∧ W.cell? ⟨w.heap.size, 1, none⟩ = some (.int .i64 (k : Int)) ∧ W.cell? ⟨w.heap.size, 2, none⟩ = some (.int .i64 (r : Int)) ∧ W.cell? ⟨w.heap.size, 3, none⟩ = some (.slice (some ⟨b1, o1, none⟩) c dcap) ∧ W.cell? ⟨w.heap.size, 4, none⟩ = some (.slice ba c bcap) ∧ W.cell? ⟨b1, o1 + z, none⟩ = some (.pointer (some ⟨p, 0, none⟩)) ∧ Below w.heap.size w W) (first | exact hS0 | assumption) (first | (go_at_call 46; refine (HSE.out _).mono ?_; rintro e w4 ⟨rfl, hb4⟩; have hs4 := keep_sd hb4 (by assumption); have R4 : Hid (At5 w w.heap.size c k r (.slice (some ⟨b1, o1, none⟩) c dcap) (.slice ba c bcap) w4) := R3.out.kept ((Below.refl _ w3).drew.trans hb4); obtain ⟨g0, g1, g2, g3, g4, _⟩ := R4.out; have hl4 : w.heap.size < w4.heap.size := World.block_lt_of_cell? _ _ g0; clear hb4) | (go_at_call 45; refine (HRD.out _ (sd_low (by assumption))).mono ?_; rintro e w5 ⟨rfl, h5⟩; have h5' := h5.symm; subst h5'; clear h5))
     all_goals
      go_wp2_with fail
      refine (HFD.out _ R4.out.2.2.2.2.2).mono ?_
      rintro e w7 ⟨⟨al, cl, ai, ci, rfl, _, _, _, _⟩, hb7⟩
      have B7 : Hid (Below w.heap.size w w7) := (R4.out.kept hb7).2.2.2.2.2
      clear hb7
      go_wp2
      go_ret2
      exact ⟨rfl, B7.out⟩
   ·rw [if_neg h41, if_neg h41]
    have v1 : ((o : Int) != 41) = true := by rw [bne_iff_ne]; omega
    clear h41
    go_enter Tryz.func17, Tryz.ntmps17
    go_wp2_with fail
    refine HCK.out.mono ?_
    rintro e w1 ⟨rfl, hb1⟩
    have R1 : Hid (At5 w w.heap.size c k r (.slice (some ⟨b1, o1, none⟩) c dcap) (.slice ba c bcap) w1) := X0.out.kept hb1
    obtain ⟨j0, j1, j2, j3, j4, _⟩ := R1.out
    have hl1 : w.heap.size < w1.heap.size := World.block_lt_of_cell? _ _ j0
    clear hb1 k0 k1 k2 k3 k4 hlast X0
    go_wp2_with (first | (go_at_call 52; refine (HCOL.out _).mono ?_; rintro e w2 ⟨rfl, hb2⟩; have R2 : Hid (At5 w w.heap.size c k r (.slice (some ⟨b1, o1, none⟩) c dcap) (.slice ba c bcap) w2) := R1.out.kept hb2; obtain ⟨m0, m1, m2, m3, m4, _⟩ := R2.out; have hl2 : w.heap.size < w2.heap.size := World.block_lt_of_cell? _ _ m0; clear hb2) | (go_at_call 44; refine (HM.out _ R2.out.2.2.2.2.2).mono ?_; rintro e w3 ⟨rfl, hb3⟩; have R3 : Hid (At5 w w.heap.size c k r (.slice (some ⟨b1, o1, none⟩) c dcap) (.slice ba c bcap) w3) := R2.out.kept hb3; obtain ⟨n0, n1, n2, n3, n4, _⟩ := R3.out; have hl3 : w.heap.size < w3.heap.size := World.block_lt_of_cell? _ _ n0; clear hb3))
    have hp3 := (R3.out.2.2.2.2.2.cell (p := ⟨b1, o1 + z, none⟩) (World.block_lt_of_cell? w _ HP.out)).trans HP.out
    have hS0 : w3.drew.cell? ⟨w.heap.size, 0, none⟩ = some (.int .i64 (c : Int)) ∧ w3.drew.cell? ⟨w.heap.size, 1, none⟩ = some (.int .i64 (k : Int)) ∧ w3.drew.cell? ⟨w.heap.size, 2, none⟩ = some (.int .i64 (r : Int)) ∧ w3.drew.cell? ⟨w.heap.size, 3, none⟩ = some (.slice (some ⟨b1, o1, none⟩) c dcap) ∧ w3.drew.cell? ⟨w.heap.size, 4, none⟩ = some (.slice ba c bcap) ∧ w3.drew.cell? ⟨b1, o1 + z, none⟩ = some (.pointer (some ⟨p, 0, none⟩)) ∧ Below w.heap.size w w3.drew := ⟨R3.out.1, R3.out.2.1, R3.out.2.2.1, R3.out.2.2.2.1, R3.out.2.2.2.2.1, hp3, R3.out.2.2.2.2.2.drew⟩
    go_region_held3 (fun W => W.cell? ⟨w.heap.size, 0, none⟩ = some (.int .i64 (c : Int)) ∧ W.cell? ⟨w.heap.size, 1, none⟩ = some (.int .i64 (k : Int)) ∧ W.cell? ⟨w.heap.size, 2, none⟩ = some (.int .i64 (r : Int)) ∧ W.cell? ⟨w.heap.size, 3, none⟩ = some (.slice (some ⟨b1, o1, none⟩) c dcap) ∧ W.cell? ⟨w.heap.size, 4, none⟩ = some (.slice ba c bcap) ∧ W.cell? ⟨b1, o1 + z, none⟩ = some (.pointer (some ⟨p, 0, none⟩)) ∧ Below w.heap.size w W) (first | exact hS0 | assumption) (first | (go_at_call 46; refine (HSE.out _).mono ?_; rintro e w4 ⟨rfl, hb4⟩; have hs4 := keep_sd hb4 (by assumption); have R4 : Hid (At5 w w.heap.size c k r (.slice (some ⟨b1, o1, none⟩) c dcap) (.slice ba c bcap) w4) := R3.out.kept ((Below.refl _ w3).drew.trans hb4); obtain ⟨g0, g1, g2, g3, g4, _⟩ := R4.out; have hl4 : w.heap.size < w4.heap.size := World.block_lt_of_cell? _ _ g0; clear hb4) | (go_at_call 45; refine (HRD.out _ (sd_low (by assumption))).mono ?_; rintro e w5 ⟨rfl, h5⟩; have h5' := h5.symm; subst h5'; clear h5))
    all_goals
     go_wp2
     go_ret2
     exact ⟨rfl, R4.out.2.2.2.2.2⟩
end
end Go.Proofs.YtdgkhjgnjfgnlaaGreat
namespace Go.Proofs.YtdgkhjgnjfgnlaaGreat
open Go.RowKit
attribute [local go_sem] Oper.semAt_some
namespace Ro
section
variable (c k r dn bn : Nat) (C : Nat → Col) (bf : Nat → Int) (row : Int)
def missT (t : Nat) : List Int := ((List.range t).filter fun q => missB C bf row (colN c row.toNat q)).map fun q => ((q : Nat) : Int)
def lostE : Nat := chk c k r dn bn C row 0
def lostL : List Int := if chk c k r dn bn C row 0 = 0 then missT c C bf row c else []
end
section
variable {c : Nat} {C : Nat → Col} {bf : Nat → Int} {row : Int}
theorem missT_yes {t : Nat} (h : missB C bf row (colN c row.toNat t) = true) : missT c C bf row (t + 1) = missT c C bf row t ++ [(t : Int)] := by
 unfold missT; rw [List.range_succ, List.filter_append, List.map_append]
 congr 1
 simp [h]
theorem missT_no {t : Nat} (h : missB C bf row (colN c row.toNat t) = false) : missT c C bf row (t + 1) = missT c C bf row t := by
 unfold missT; rw [List.range_succ, List.filter_append, List.map_append]
 simp [h]
theorem missT_len (t : Nat) : (missT c C bf row t).length ≤ t := by
 unfold missT
 rw [List.length_map]
 have := List.length_filter_le (fun q => missB C bf row (colN c row.toNat q)) (List.range t)
 rwa [List.length_range] at this
end
end Ro
def LsAns (w : World) (E : Nat) (l : List Int) (e : Ending) (w' : World) : Prop :=
 (∃ ai ci, e = .returned (.tuple #[.slice ai l.length ci, .int .i64 (E : Int)]) ∧ RowI .i64 w' ai l.length (fun j => l.getD j 0) ∧ l.length ≤ ci) ∧ Below w.heap.size w w'
theorem LsAns.of {w w' : World} {B : Nat} {l : List Int} {v : Value} (h : Int16 w' B l v) (hb : Below w.heap.size w w') : LsAns w 0 l (.returned (.tuple #[v, .int .i64 0])) w' := by
 obtain ⟨ai, ci, rfl, hi, _⟩ := RowI.of_owns (k := .i64) h
 refine ⟨⟨ai, ci, rfl, hi, ?_⟩, hb⟩
 rcases h.2 with ⟨e, h0⟩ | ⟨g, cap, cur, e, _, hg, hn, _⟩
 ·omega
 ·injection e with _ _ e3
  omega
theorem keep_five {w W W' : World} {b : Nat} {x0 x1 x2 x3 x4 : Value} (hb : Below W.heap.size W W')
  (h : W.cell? ⟨b, 0, none⟩ = some x0 ∧ W.cell? ⟨b, 1, none⟩ = some x1 ∧ W.cell? ⟨b, 2, none⟩ = some x2 ∧ W.cell? ⟨b, 3, none⟩ = some x3 ∧ W.cell? ⟨b, 4, none⟩ = some x4 ∧ Below w.heap.size w W) :
  W'.cell? ⟨b, 0, none⟩ = some x0 ∧ W'.cell? ⟨b, 1, none⟩ = some x1 ∧ W'.cell? ⟨b, 2, none⟩ = some x2 ∧ W'.cell? ⟨b, 3, none⟩ = some x3 ∧ W'.cell? ⟨b, 4, none⟩ = some x4 ∧ Below w.heap.size w W' := by
 obtain ⟨h0, h1, h2, h3, h4, h7⟩ := h
 have hl := World.block_lt_of_cell? W _ h0
 exact ⟨(hb.cell (p := ⟨b, 0, none⟩) hl).trans h0, (hb.cell (p := ⟨b, 1, none⟩) hl).trans h1, (hb.cell (p := ⟨b, 2, none⟩) hl).trans h2, (hb.cell (p := ⟨b, 3, none⟩) hl).trans h3, (hb.cell (p := ⟨b, 4, none⟩) hl).trans h4, h7.trans (hb.mono h7.size)⟩
theorem five_low {w W : World} {b : Nat} {x0 x1 x2 x3 x4 : Value} (h : W.cell? ⟨b, 0, none⟩ = some x0 ∧ W.cell? ⟨b, 1, none⟩ = some x1 ∧ W.cell? ⟨b, 2, none⟩ = some x2 ∧ W.cell? ⟨b, 3, none⟩ = some x3 ∧ W.cell? ⟨b, 4, none⟩ = some x4 ∧ Below w.heap.size w W) : Below w.heap.size w W := h.2.2.2.2.2
section
variable {c k r : Nat} {da ba : Option Addr} {dn dcap bn bcap : Nat} {C : Nat → Ro.Col} {bf : Nat → Int}
set_option maxRecDepth 100000 in
set_option maxHeartbeats 4000000 in
theorem rSector16_no (hok : Lay.ok (c : Int) (k : Int) (r : Int)) (hdn : dn ≤ 1000000) (row off i : Int) (w : World) (h : RefSet w da dn ba bn C bf) (hno : Ro.chk c k r dn bn C row off ≠ 0) :
  Calls Tryz.prog 17 #[.agg #[.int .i64 (c : Int), .int .i64 (k : Int), .int .i64 (r : Int), .slice da dn dcap, .slice ba bn bcap], .int .i64 row, .int .i64 off, .int .i64 i] w fun e w' => e = .returned (.tuple #[.string ⟨#[]⟩, .int .i64 (Ro.chk c k r dn bn C row off : Nat)]) ∧ Below w.heap.size w w' := by
 have X0 : Hid (At5 w w.heap.size c k r (.slice da dn dcap) (.slice ba bn bcap) (w.alloc (.cells #[.int .i64 (c : Int), .int .i64 (k : Int), .int .i64 (r : Int), .slice da dn dcap, .slice ba bn bcap] 33))) := At5.new _ _ _ _ _ _ _
 have hm := rCheck16 (dcap := dcap) (bcap := bcap) hok hdn row off _ (h.below X0.out.2.2.2.2.2)
 obtain ⟨E, hE⟩ : ∃ E, Ro.chk c k r dn bn C row off = E := ⟨_, rfl⟩
 rw [hE] at hm hno ⊢
 have hne : ((E : Int) != 0) = true := by rw [bne_iff_ne]; omega
 have HM : Hid (Calls Tryz.prog 42 #[.agg #[.int .i64 (c : Int), .int .i64 (k : Int), .int .i64 (r : Int), .slice da dn dcap, .slice ba bn bcap], .int .i64 row, .int .i64 off] (w.alloc (.cells #[.int .i64 (c : Int), .int .i64 (k : Int), .int .i64 (r : Int), .slice da dn dcap, .slice ba bn bcap] 33)) fun e w' => e = .returned (.int .i64 (E : Int)) ∧ Below (w.alloc (.cells #[.int .i64 (c : Int), .int .i64 (k : Int), .int .i64 (r : Int), .slice da dn dcap, .slice ba bn bcap] 33)).heap.size (w.alloc (.cells #[.int .i64 (c : Int), .int .i64 (k : Int), .int .i64 (r : Int), .slice da dn dcap, .slice ba bn bcap] 33)) w') := hm
 have hlast : w.heap.size < (w.alloc (.cells #[.int .i64 (c : Int), .int .i64 (k : Int), .int .i64 (r : Int), .slice da dn dcap, .slice ba bn bcap] 33)).heap.size := World.block_lt_of_cell? _ _ X0.out.1
 obtain ⟨k0, k1, k2, k3, k4, _⟩ := X0.out
 clear hm hE h hok hno
 go_enter Tryz.func17, Tryz.ntmps17
 go_wp2_with fail
 refine HM.out.mono ?_
 rintro e w1 ⟨rfl, hb1⟩
 have B1 : Hid (Below w.heap.size w w1) := (X0.out.kept hb1).2.2.2.2.2
 clear hb1
 go_wp2
 go_ret2
 exact ⟨rfl, B1.out⟩
set_option maxRecDepth 100000 in
set_option maxHeartbeats 4000000 in
theorem rSector16_out (hok : Lay.ok (c : Int) (k : Int) (r : Int)) (hdn : dn ≤ 1000000) (row off i : Int) (w : World) (h : RefSet w da dn ba bn C bf) (hyes : Ro.chk c k r dn bn C row off = 0) (hi : Ro.secB c i = false) :
  Calls Tryz.prog 17 #[.agg #[.int .i64 (c : Int), .int .i64 (k : Int), .int .i64 (r : Int), .slice da dn dcap, .slice ba bn bcap], .int .i64 row, .int .i64 off, .int .i64 i] w fun e w' => e = .returned (.tuple #[.string ⟨#[]⟩, .int .i64 70]) ∧ Below w.heap.size w w' := by
 have hc10 : c ≤ 10 := by have := hok.1; omega
 have X0 : Hid (At5 w w.heap.size c k r (.slice da dn dcap) (.slice ba bn bcap) (w.alloc (.cells #[.int .i64 (c : Int), .int .i64 (k : Int), .int .i64 (r : Int), .slice da dn dcap, .slice ba bn bcap] 33))) := At5.new _ _ _ _ _ _ _
 have hm := rCheck16 (dcap := dcap) (bcap := bcap) hok hdn row off _ (h.below X0.out.2.2.2.2.2)
 rw [hyes] at hm
 have HM : Hid (Calls Tryz.prog 42 #[.agg #[.int .i64 (c : Int), .int .i64 (k : Int), .int .i64 (r : Int), .slice da dn dcap, .slice ba bn bcap], .int .i64 row, .int .i64 off] (w.alloc (.cells #[.int .i64 (c : Int), .int .i64 (k : Int), .int .i64 (r : Int), .slice da dn dcap, .slice ba bn bcap] 33)) fun e w' => e = .returned (.int .i64 0) ∧ Below (w.alloc (.cells #[.int .i64 (c : Int), .int .i64 (k : Int), .int .i64 (r : Int), .slice da dn dcap, .slice ba bn bcap] 33)).heap.size (w.alloc (.cells #[.int .i64 (c : Int), .int .i64 (k : Int), .int .i64 (r : Int), .slice da dn dcap, .slice ba bn bcap] 33)) w') := hm
 have hlast : w.heap.size < (w.alloc (.cells #[.int .i64 (c : Int), .int .i64 (k : Int), .int .i64 (r : Int), .slice da dn dcap, .slice ba bn bcap] 33)).heap.size := World.block_lt_of_cell? _ _ X0.out.1
 have t3 : IntKind.i64.wrap ((c : Int) - 2) = (c : Int) - 2 := by rw [IntKind.wrap_i64]; omega
 unfold Ro.secB at hi
 have hd : decide (i < 0) = true ∨ (decide (i < 0) = false ∧ decide ((c : Int) - 2 ≤ i) = true) := by
  by_cases h0 : i < 0
  ·exact .inl (decide_eq_true h0)
  ·refine .inr ⟨decide_eq_false h0, decide_eq_true ?_⟩
   rw [decide_eq_true (show 0 ≤ i by omega), Bool.true_and, decide_eq_false_iff_not] at hi
   omega
 clear hm h hok hyes hi
 rcases hd with u1 | ⟨u1, u2⟩
 ·obtain ⟨k0, k1, k2, k3, k4, _⟩ := X0.out
  go_enter Tryz.func17, Tryz.ntmps17
  go_wp2_with fail
  refine HM.out.mono ?_
  rintro e w1 ⟨rfl, hb1⟩
  obtain ⟨j0, j1, j2, j3, j4, jb⟩ := X0.out.kept hb1
  have B1 : Hid (Below w.heap.size w w1) := jb
  have hl1 : w.heap.size < w1.heap.size := World.block_lt_of_cell? _ _ j0
  clear hb1 jb
  go_wp2
  go_ret2
  exact ⟨rfl, B1.out⟩
 ·obtain ⟨k0, k1, k2, k3, k4, _⟩ := X0.out
  go_enter Tryz.func17, Tryz.ntmps17
  go_wp2_with fail
  refine HM.out.mono ?_
  rintro e w1 ⟨rfl, hb1⟩
  obtain ⟨j0, j1, j2, j3, j4, jb⟩ := X0.out.kept hb1
  have B1 : Hid (Below w.heap.size w w1) := jb
  have hl1 : w.heap.size < w1.heap.size := World.block_lt_of_cell? _ _ j0
  clear hb1 jb
  go_wp2
  go_ret2
  exact ⟨rfl, B1.out⟩
theorem rSector16_any (hok : Lay.ok (c : Int) (k : Int) (r : Int)) (hdn : dn ≤ 1000000) (row off i : Int) (w : World) (h : RefSet w da dn ba bn C bf) :
  Calls Tryz.prog 17 #[.agg #[.int .i64 (c : Int), .int .i64 (k : Int), .int .i64 (r : Int), .slice da dn dcap, .slice ba bn bcap], .int .i64 row, .int .i64 off, .int .i64 i] w fun e w' => e = .returned (.tuple #[.string (Ro.secX c k r dn bn C bf row off i), .int .i64 (Ro.secE c k r dn bn C bf row off i)]) ∧ Below w.heap.size w w' := by
 unfold Ro.secX Ro.secE
 by_cases hc : Ro.chk c k r dn bn C row off = 0
 ·rw [if_pos hc, if_pos hc]
  cases hi : Ro.secB c i with
  | false =>
   rw [if_neg (by decide), if_neg (by decide)]
   exact rSector16_out hok hdn row off i w h hc hi
  | true =>
   rw [if_pos rfl, if_pos rfl]
   have hy := Ro.chk_yes hc
   obtain ⟨h1, h2, ⟨⟨r1, r2⟩, o1, o2⟩, _⟩ := hy
   subst h1
   subst h2
   unfold Ro.secB at hi
   simp only [Bool.and_eq_true, decide_eq_true_eq] at hi
   obtain ⟨R, rfl⟩ : ∃ R : Nat, row = (R : Int) := ⟨row.toNat, by omega⟩
   obtain ⟨O, rfl⟩ : ∃ O : Nat, off = (O : Int) := ⟨off.toNat, by omega⟩
   obtain ⟨I, rfl⟩ : ∃ I : Nat, i = (I : Int) := ⟨i.toNat, by omega⟩
   rw [Int.toNat_natCast]
   exact rSector16_yes hok R O I (by omega) (by omega) w h hc
 ·rw [if_neg hc, if_neg hc]
  exact rSector16_no hok hdn row off i w h hc
set_option maxRecDepth 100000 in
set_option maxHeartbeats 4000000 in
theorem rLost16_no (hok : Lay.ok (c : Int) (k : Int) (r : Int)) (hdn : dn ≤ 1000000) (row : Int) (w : World) (h : RefSet w da dn ba bn C bf) (hno : Ro.chk c k r dn bn C row 0 ≠ 0) :
  Calls Tryz.prog 19 #[.agg #[.int .i64 (c : Int), .int .i64 (k : Int), .int .i64 (r : Int), .slice da dn dcap, .slice ba bn bcap], .int .i64 row] w (LsAns w (Ro.chk c k r dn bn C row 0) []) := by
 have X0 : Hid (At5 w w.heap.size c k r (.slice da dn dcap) (.slice ba bn bcap) (w.alloc (.cells #[.int .i64 (c : Int), .int .i64 (k : Int), .int .i64 (r : Int), .slice da dn dcap, .slice ba bn bcap] 33))) := At5.new _ _ _ _ _ _ _
 have hm := rCheck16 (dcap := dcap) (bcap := bcap) hok hdn row 0 _ (h.below X0.out.2.2.2.2.2)
 obtain ⟨E, hE⟩ : ∃ E, Ro.chk c k r dn bn C row 0 = E := ⟨_, rfl⟩
 rw [hE] at hm hno ⊢
 have hne : ((E : Int) != 0) = true := by rw [bne_iff_ne]; omega
 have HM : Hid (Calls Tryz.prog 42 #[.agg #[.int .i64 (c : Int), .int .i64 (k : Int), .int .i64 (r : Int), .slice da dn dcap, .slice ba bn bcap], .int .i64 row, .int .i64 0] (w.alloc (.cells #[.int .i64 (c : Int), .int .i64 (k : Int), .int .i64 (r : Int), .slice da dn dcap, .slice ba bn bcap] 33)) fun e w' => e = .returned (.int .i64 (E : Int)) ∧ Below (w.alloc (.cells #[.int .i64 (c : Int), .int .i64 (k : Int), .int .i64 (r : Int), .slice da dn dcap, .slice ba bn bcap] 33)).heap.size (w.alloc (.cells #[.int .i64 (c : Int), .int .i64 (k : Int), .int .i64 (r : Int), .slice da dn dcap, .slice ba bn bcap] 33)) w') := hm
 have hlast : w.heap.size < (w.alloc (.cells #[.int .i64 (c : Int), .int .i64 (k : Int), .int .i64 (r : Int), .slice da dn dcap, .slice ba bn bcap] 33)).heap.size := World.block_lt_of_cell? _ _ X0.out.1
 obtain ⟨k0, k1, k2, k3, k4, _⟩ := X0.out
 clear hm hE h hok hno
 go_enter Tryz.func19, Tryz.ntmps19
 go_wp2_with fail
 refine HM.out.mono ?_
 rintro e w1 ⟨rfl, hb1⟩
 have B1 : Hid (Below w.heap.size w w1) := (X0.out.kept hb1).2.2.2.2.2
 clear hb1
 go_wp2
 go_ret2
 exact ⟨⟨none, 0, rfl, RowI.nil _ _ _ _, Nat.le_refl _⟩, B1.out⟩
set_option maxRecDepth 100000 in
set_option maxHeartbeats 8000000 in
theorem rLost16_yes (hok : Lay.ok (c : Int) (k : Int) (r : Int)) (row : Nat) (hrow : row < r) (w : World) (h : RefSet w da c ba c C bf) (hyes : Ro.chk c k r c c C (row : Int) 0 = 0) :
  Calls Tryz.prog 19 #[.agg #[.int .i64 (c : Int), .int .i64 (k : Int), .int .i64 (r : Int), .slice da c dcap, .slice ba c bcap], .int .i64 (row : Int)] w (LsAns w 0 (Ro.missT c C bf (row : Int) c)) := by
 have hc10 : c ≤ 10 := by have := hok.1; omega
 have hc0 : 0 < c := by have := hok.1; omega
 have X0 : Hid (At5 w w.heap.size c k r (.slice da c dcap) (.slice ba c bcap) (w.alloc (.cells #[.int .i64 (c : Int), .int .i64 (k : Int), .int .i64 (r : Int), .slice da c dcap, .slice ba c bcap] 33))) := At5.new _ _ _ _ _ _ _
 have hm := rCheck16 (dcap := dcap) (bcap := bcap) hok (by omega) (row : Int) 0 _ (h.below X0.out.2.2.2.2.2)
 rw [hyes] at hm
 have HM : Hid (Calls Tryz.prog 42 #[.agg #[.int .i64 (c : Int), .int .i64 (k : Int), .int .i64 (r : Int), .slice da c dcap, .slice ba c bcap], .int .i64 (row : Int), .int .i64 0] (w.alloc (.cells #[.int .i64 (c : Int), .int .i64 (k : Int), .int .i64 (r : Int), .slice da c dcap, .slice ba c bcap] 33)) fun e w' => e = .returned (.int .i64 0) ∧ Below (w.alloc (.cells #[.int .i64 (c : Int), .int .i64 (k : Int), .int .i64 (r : Int), .slice da c dcap, .slice ba c bcap] 33)).heap.size (w.alloc (.cells #[.int .i64 (c : Int), .int .i64 (k : Int), .int .i64 (r : Int), .slice da c dcap, .slice ba c bcap] 33)) w') := hm
 have HCOL : Hid (∀ W t, t < c → Calls Tryz.prog 43 #[.agg #[.int .i64 (c : Int), .int .i64 (k : Int), .int .i64 (r : Int), .slice da c dcap, .slice ba c bcap], .int .i64 (row : Int), .int .i64 (t : Nat)] W fun e w' => e = .returned (.int .i64 (Ro.colN c row t : Nat)) ∧ Below W.heap.size W w') := fun W t ht => rRole16 hok row t hrow ht W
 have HMIS : Hid (∀ W z, z < c → Below w.heap.size w W → Calls Tryz.prog 44 #[.agg #[.int .i64 (c : Int), .int .i64 (k : Int), .int .i64 (r : Int), .slice da c dcap, .slice ba c bcap], .int .i64 (row : Int), .int .i64 (z : Nat)] W fun e w' => e = .returned (.bool (Ro.missB C bf (row : Int) z)) ∧ Below W.heap.size W w') := fun W z hz hW => rMissing16 (row : Int) z hz hz W (h.below hW)
 have HZ : Hid (∀ t, Ro.colN c row t < c) := fun t => Ro.colN_lt hc0
 have hlast : w.heap.size < (w.alloc (.cells #[.int .i64 (c : Int), .int .i64 (k : Int), .int .i64 (r : Int), .slice da c dcap, .slice ba c bcap] 33)).heap.size := World.block_lt_of_cell? _ _ X0.out.1
 obtain ⟨k0, k1, k2, k3, k4, _⟩ := X0.out
 obtain ⟨i0, q1, q2, q3, q4⟩ := info_parts (show (Tryz.prog.info? 3).map (fun i => (i.zero, i.size, i.bytes)) = some (some (.int .i64 0), 1, 8) by kernel_rfl)
 have HI0 : Hid (Tryz.prog.info? 3 = some i0 ∧ i0.zero = some (.int .i64 0) ∧ i0.size = 1 ∧ i0.bytes = 8) := ⟨q1, q2, q3, q4⟩
 clear hm h hok hyes hrow hc0 q1 q2 q3 q4
 go_enter Tryz.func19, Tryz.ntmps19
 go_wp2_with fail
 refine HM.out.mono ?_
 rintro e w1 ⟨rfl, hb1⟩
 have hA1 := X0.out.kept hb1
 have hl1 : w.heap.size < w1.heap.size := World.block_lt_of_cell? _ _ hA1.1
 obtain ⟨j0, j1, j2, j3, j4, _⟩ := X0.out.kept hb1
 have R0 : Hid (At5 w w.heap.size c k r (.slice da c dcap) (.slice ba c bcap) (w1.alloc (.cells #[] 3)) ∧ Int16 (w1.alloc (.cells #[] 3)) (w.heap.size + 1) [] (.slice (some ⟨w1.heap.size, 0, none⟩) 0 0)) :=
  ⟨hA1.kept ((Below.refl _ w1).alloc (Nat.le_refl _) _), World.ownsRow_made (base := w.heap.size + 1) (e := 3) (size := 1) w1 #[] 0 hl1 (by decide) rfl⟩
 clear hb1 hA1 HM X0 k0 k1 k2 k3 k4 hlast
 go_wp2_with fail
 go_loopg [7, 8] c (fun gg s7 s8 wr => ∃ t : Nat, t ≤ c ∧ gg = c - t ∧ s8 = .int .i64 (t : Int) ∧ At5 w w.heap.size c k r (.slice da c dcap) (.slice ba c bcap) wr ∧ Int16 wr (w.heap.size + 1) (Ro.missT c C bf (row : Int) t) s7)
 case atStart => exact ⟨0, Nat.zero_le _, rfl, rfl, R0.out.1, R0.out.2⟩
 case round =>
  obtain ⟨t, ht, rfl, rfl, hA, hI⟩ := hrel
  obtain ⟨vi, hvi⟩ : ∃ vi, vi = u7 := ⟨u7, rfl⟩
  subst hvi
  have HA : Hid (At5 w w.heap.size c k r (.slice da c dcap) (.slice ba c bcap) wr) := hA
  have HI : Hid (Int16 wr (w.heap.size + 1) (Ro.missT c C bf (row : Int) t) vi) := hI
  have hlr : w.heap.size < wr.heap.size := World.block_lt_of_cell? _ _ hA.1
  obtain ⟨p0, p1, p2, p3, p4, p5⟩ := hA
  have hS0 : wr.drew.cell? ⟨w.heap.size, 0, none⟩ = some (.int .i64 (c : Int)) ∧ wr.drew.cell? ⟨w.heap.size, 1, none⟩ = some (.int .i64 (k : Int)) ∧ wr.drew.cell? ⟨w.heap.size, 2, none⟩ = some (.int .i64 (r : Int)) ∧ wr.drew.cell? ⟨w.heap.size, 3, none⟩ = some (.slice da c dcap) ∧ wr.drew.cell? ⟨w.heap.size, 4, none⟩ = some (.slice ba c bcap) ∧ Below wr.heap.size wr wr.drew := ⟨p0, p1, p2, p3, p4, (Below.refl _ wr).drew⟩
  clear R0 j0 j1 j2 j3 j4 hl1 hI
  by_cases hlt : t < c
  ·have hi : (t : Int) < (c : Int) := by omega
   have hzc := HZ.out t
   obtain ⟨ln, hln⟩ : ∃ ln, ln = (Ro.missT c C bf (row : Int) t).length := ⟨_, rfl⟩
   have hle := Ro.missT_len (c := c) (C := C) (bf := bf) (row := (row : Int)) t
   rw [← hln] at hle
   have HLN : Hid (ln = (Ro.missT c C bf (row : Int) t).length) := hln
   obtain ⟨z, hz⟩ : ∃ z, Ro.colN c row t = z := ⟨_, rfl⟩
   obtain ⟨m, hm⟩ : ∃ m, Ro.missB C bf (row : Int) z = m := ⟨_, rfl⟩
   rw [hz] at hzc
   have HC : Hid (∀ W, Calls Tryz.prog 43 #[.agg #[.int .i64 (c : Int), .int .i64 (k : Int), .int .i64 (r : Int), .slice da c dcap, .slice ba c bcap], .int .i64 (row : Int), .int .i64 (t : Nat)] W fun e w' => e = .returned (.int .i64 (z : Nat)) ∧ Below W.heap.size W w') := fun W => by
    have h := HCOL.out W t hlt
    rwa [hz] at h
   have HMI : Hid (∀ W, Below wr.heap.size wr W → Calls Tryz.prog 44 #[.agg #[.int .i64 (c : Int), .int .i64 (k : Int), .int .i64 (r : Int), .slice da c dcap, .slice ba c bcap], .int .i64 (row : Int), .int .i64 (z : Nat)] W fun e w' => e = .returned (.bool m) ∧ Below W.heap.size W w') := fun W hW => by
    have h := HMIS.out W z hzc (HA.out.2.2.2.2.2.trans (hW.mono HA.out.2.2.2.2.2.size))
    rwa [hm] at h
   have hmm : Ro.missB C bf (row : Int) (Ro.colN c (row : Int).toNat t) = m := by rw [Int.toNat_natCast, hz, hm]
   obtain ⟨q1, q2, q3, q4⟩ := HI0.out
   clear p5 hln hz
   cases m with
   | false =>
    have HL1 : Hid (Ro.missT c C bf (row : Int) (t + 1) = Ro.missT c C bf (row : Int) t) := Ro.missT_no hmm
    clear hmm hm
    go_wp2_with fail
    go_region_held3 (fun W => W.cell? ⟨w.heap.size, 0, none⟩ = some (.int .i64 (c : Int)) ∧ W.cell? ⟨w.heap.size, 1, none⟩ = some (.int .i64 (k : Int)) ∧ W.cell? ⟨w.heap.size, 2, none⟩ = some (.int .i64 (r : Int)) ∧ W.cell? ⟨w.heap.size, 3, none⟩ = some (.slice da c dcap) ∧ W.cell? ⟨w.heap.size, 4, none⟩ = some (.slice ba c bcap) ∧ Below wr.heap.size wr W) (first | exact hS0 | assumption) (first | (go_at_call 43; refine (HC.out _).mono ?_; rintro e w3 ⟨rfl, hb3⟩; have hs3 := keep_five hb3 (by assumption)) | (go_at_call 44; refine (HMI.out _ (five_low (by assumption))).mono ?_; rintro e w4 ⟨rfl, hb4⟩; have hs4 := keep_five hb4 (by assumption)))
    all_goals
     have hbw : Below wr.heap.size wr w4 := five_low hs4
     go_wp2
     go_roundg (c - (t + 1))
     case measure => omega
     case rel => exact ⟨t + 1, by omega, rfl, by go_num, HA.out.kept hbw, by rw [HL1.out]; exact ownsRow_below HI.out hbw⟩
   | true =>
    have HL1 : Hid (Ro.missT c C bf (row : Int) (t + 1) = Ro.missT c C bf (row : Int) t ++ [(t : Int)]) := Ro.missT_yes hmm
    clear hmm hm
    go_wp2_with fail
    go_region_held3 (fun W => W.cell? ⟨w.heap.size, 0, none⟩ = some (.int .i64 (c : Int)) ∧ W.cell? ⟨w.heap.size, 1, none⟩ = some (.int .i64 (k : Int)) ∧ W.cell? ⟨w.heap.size, 2, none⟩ = some (.int .i64 (r : Int)) ∧ W.cell? ⟨w.heap.size, 3, none⟩ = some (.slice da c dcap) ∧ W.cell? ⟨w.heap.size, 4, none⟩ = some (.slice ba c bcap) ∧ Below wr.heap.size wr W) (first | exact hS0 | assumption) (first | (go_at_call 43; refine (HC.out _).mono ?_; rintro e w3 ⟨rfl, hb3⟩; have hs3 := keep_five hb3 (by assumption)) | (go_at_call 44; refine (HMI.out _ (five_low (by assumption))).mono ?_; rintro e w4 ⟨rfl, hb4⟩; have hs4 := keep_five hb4 (by assumption)))
    all_goals
     have hbw : Below wr.heap.size wr w4 := five_low hs4
     have OWI : Hid (w4.ownsRow (w.heap.size + 1) 3 1 vi ln (iVs (Ro.missT c C bf (row : Int) t))) := by rw [HLN.out]; exact ownsRow_below HI.out hbw
     have hl4 : w.heap.size < w4.heap.size := Nat.lt_of_lt_of_le hlr hbw.size
     have HA4 : Hid (At5 w w.heap.size c k r (.slice da c dcap) (.slice ba c bcap) w4) := HA.out.kept hbw
     clear hbw
     go_wp2_with (at_builtin; refine wpList_append_own _ rfl _ _ 28 rfl (w.heap.size + 1) 3 i0 (.int .i64 0) 1 8 Tryz.underlying28 q1 q2 q3 q4 rfl (by decide) vi ln (iVs (Ro.missT c C bf (row : Int) t)) rfl (OWI.out.alloc _) ⟨w4.heap.size, 0, none⟩ 1 1 [.int .i64 (t : Int)] rfl rfl (cell_one_new _ _ _) (by simp [Value.oneCell']) (by unfold maxLen; omega) (by omega) (by simp; omega) ?_; go_loud (intro v5 w5 hown5 hgrow5 _; obtain ⟨g5, cap5, rfl⟩ := ownsRow_succ hown5))
     have hba := below_append OWI.out hl4 hgrow5
     go_roundg (c - (t + 1))
     case measure => omega
     case rel =>
      refine ⟨t + 1, by omega, rfl, by go_num, HA4.out.low hba (Nat.lt_succ_self _) (Nat.le_succ _), ?_⟩
      rw [HL1.out]
      unfold Int16
      rw [List.length_append, ← HLN.out, iVs_snoc]
      exact hown5
  ·have htc : t = c := by omega
   have HT : Hid (t = c) := htc
   have hx : ¬ (t : Int) < (c : Int) := by omega
   clear htc hS0 p5
   go_wp2
   go_ret2
   have r := HI.out
   rw [HT.out] at r
   exact LsAns.of r HA.out.2.2.2.2.2
theorem rLost16_any (hok : Lay.ok (c : Int) (k : Int) (r : Int)) (hdn : dn ≤ 1000000) (row : Int) (w : World) (h : RefSet w da dn ba bn C bf) :
  Calls Tryz.prog 19 #[.agg #[.int .i64 (c : Int), .int .i64 (k : Int), .int .i64 (r : Int), .slice da dn dcap, .slice ba bn bcap], .int .i64 row] w (LsAns w (Ro.lostE c k r dn bn C row) (Ro.lostL c k r dn bn C bf row)) := by
 unfold Ro.lostE Ro.lostL
 by_cases hc : Ro.chk c k r dn bn C row 0 = 0
 ·rw [hc, if_pos rfl]
  have hy := Ro.chk_yes hc
  obtain ⟨h1, h2, ⟨⟨r1, r2⟩, _⟩, _⟩ := hy
  subst h1
  subst h2
  obtain ⟨R, rfl⟩ : ∃ R : Nat, row = (R : Int) := ⟨row.toNat, by omega⟩
  exact rLost16_yes hok R (by omega) w h hc
 ·rw [if_neg hc]
  exact rLost16_no hok hdn row w h hc
end
end Go.Proofs.YtdgkhjgnjfgnlaaGreat
