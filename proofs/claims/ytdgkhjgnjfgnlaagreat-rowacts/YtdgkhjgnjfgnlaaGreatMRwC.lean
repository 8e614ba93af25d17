import Derived.Test.YtdgkhjgnjfgnlaaGreatShelf
import Derived.Test.YtdgkhjgnjfgnlaaGreatMRwA
import Derived.Test.YtdgkhjgnjfgnlaaGreatMSynB
namespace Go.Proofs.YtdgkhjgnjfgnlaaGreat
open Go.RowKit
set_option maxRecDepth 100000 in
set_option maxHeartbeats 400000 in
theorem Clone_any (s : ByteArray) (hs : s.size ≤ 281474976710656) (w : World) :
  Calls Tryz.prog 111 #[.string s] w fun e w' => e = .returned (.string s) ∧ Below w.heap.size w w' := by
 go_enter Tryz.func111, Tryz.ntmps111
 go_wp2_with fail
 refine (Tryz.stringslite_Clone s _ hs).mono ?_
 rintro e w' ⟨rfl, hb⟩
 go_wp2
 go_ret
 exact ⟨rfl, hb⟩
def Rf.zeroT (s : Nat) : ByteArray := ⟨(List.replicate s (0 : UInt8)).toArray⟩
theorem Rf.zeroT_size (s : Nat) : (Rf.zeroT s).size = s := by
 show (List.replicate s (0 : UInt8)).toArray.size = s
 rw [List.size_toArray, List.length_replicate]
theorem Rf.zeroT_byt (s t : Nat) : Gfm.byt (Rf.zeroT s) t = 0 := by
 unfold Rf.zeroT Gfm.byt
 rw [List.toList_toArray, List.getD_eq_getElem?_getD, List.getElem?_replicate]
 split <;> rfl
theorem repeat_zero (c : Nat) : Lib.repeatL [0] c = List.replicate c 0 := by
 induction c with
 | zero => rfl
 | succ c ih => show [0] ++ Lib.repeatL [0] c = _; rw [ih]; rfl
theorem Repeat_zeros (s : Nat) (hs : s ≤ 1048576) (w : World) :
  Calls Tryz.prog 110 #[.string { data := #[0] }, .int .i64 s] w fun e w' => e = .returned (.string (Rf.zeroT s)) ∧ Below w.heap.size w w' := by
 refine (Tryz.strings_Repeat { data := #[0] } s w (by omega) (by show 1 * s ≤ _; omega)).mono ?_
 rintro e w' ⟨rfl, hb⟩
 refine ⟨?_, hb⟩
 show Ending.returned (.string ⟨(Lib.repeatL [0] s).toArray⟩) = _
 rw [repeat_zero]; rfl
def Rf.blankF (f : Nat → ByteArray) (ln : Nat) (L : Nat → Int) (s i : Nat) : ByteArray := if Rf.hasF ln L (i : Int) then Rf.zeroT s else f i
theorem Rf.blankF_lost {f : Nat → ByteArray} {ln s i : Nat} {L : Nat → Int} (h : Rf.hasF ln L (i : Int) = true) : Rf.blankF f ln L s i = Rf.zeroT s := if_pos h
theorem Rf.blankF_kept {f : Nat → ByteArray} {ln s i : Nat} {L : Nat → Int} (h : Rf.hasF ln L (i : Int) = false) : Rf.blankF f ln L s i = f i := if_neg (by rw [h]; decide)
def Rf.partF (F : Nat → ByteArray) (k i : Nat) : ByteArray := if i < k then F i else ByteArray.empty
theorem Rf.partF_step (F : Nat → ByteArray) (k : Nat) : Gfm.upd (Rf.partF F k) k (F k) = Rf.partF F (k + 1) := by
 funext i
 unfold Gfm.upd Rf.partF
 by_cases e : i = k
 ·subst e; rw [if_pos rfl, if_pos (by omega)]
 ·rw [if_neg e]
  by_cases h : i < k
  ·rw [if_pos h, if_pos (by omega)]
  ·rw [if_neg h, if_neg (by omega)]
theorem made_texts (n : Nat) (F : Nat → ByteArray) : (madeCells #[.string ByteArray.empty] n).toList = textVals n (Rf.partF F 0) := by
 refine List.ext_getElem? fun j => ?_
 by_cases h : j < n
 ·rw [textVals_at _ h]
  simp [madeCells, h, Nat.mod_one, Rf.partF]
 ·rw [List.getElem?_eq_none (by rw [Array.length_toList, size_madeCells]; omega), List.getElem?_eq_none (by rw [textVals_length]; omega)]
set_option maxRecDepth 100000 in
set_option maxHeartbeats 4000000 in
theorem blanked_any (n : Nat) (f : Nat → ByteArray) (hn : n ≤ 2000) (hf : Fits 1048576 n f) (a : Option Addr) (cap : Nat) (ln : Nat) (L : Nat → Int) (hln : ln ≤ 1000) (b : Option Addr) (capb : Nat) (w : World) (hr : RowS w a n f) (hl : RowI .i64 w b ln L) (h0 : 0 < (Rf.keptF f ln L n).length) :
  Calls Tryz.prog 80 #[.slice a n cap, .slice b ln capb] w fun e w' => ∃ g, e = .returned (.slice (some ⟨g, 0, none⟩) n n) ∧ w'.ownsRow w.heap.size 9 1 (.slice (some ⟨g, 0, none⟩) n n) n (textVals n (Rf.blankF f ln L (Rf.keptG f ln L n 0).size)) ∧ Below w.heap.size w w' := by
 have hK := kept_any n f hn hf a cap ln L (by omega) b capb w hr hl
 have hH := fun (x : Int) (W : World) (h : Below w.heap.size w W) => Contains_ints ln L (by omega) b capb x W (hl.below h)
 have hs0 := Rf.keptG_fits hf ln L 0 h0
 have hmk := run_make_row' (P := Tryz.prog) 40 9 (.string ByteArray.empty) 16 Tryz.underlying40 info_str rfl .i64 .i64 n (by omega) (by omega)
 obtain ⟨m, hm⟩ : ∃ m, (Rf.keptF f ln L n).length = m := ⟨_, rfl⟩
 obtain ⟨G, hG⟩ : ∃ G, Rf.keptG f ln L n = G := ⟨_, rfl⟩
 rw [hm] at h0 hK
 rw [hG] at hK hs0
 rw [hG]
 obtain ⟨x, hx⟩ : ∃ x, G 0 = x := ⟨_, rfl⟩
 rw [hx] at hs0
 rw [hx]
 obtain ⟨F, hF⟩ : ∃ F, Rf.blankF f ln L x.size = F := ⟨_, rfl⟩
 have HF : Hid (∀ i, F i = Rf.blankF f ln L x.size i) := fun i => by rw [hF]
 rw [hF]
 have HFS : Hid (∀ i, i < n → (F i).size ≤ 1048576) := fun i hi => by
  rw [HF.out]; unfold Rf.blankF; split
  ·rw [Rf.zeroT_size]; exact hs0
  ·exact hf i hi
 clear hm hG hF
 go_enter Tryz.func80, Tryz.ntmps80
 go_wp2_with fail
 refine hK.mono ?_
 rintro e w1 ⟨⟨gk, ck, rfl, rk, hck⟩, b1⟩
 obtain ⟨bk, ok, rfl, hc0⟩ := rk 0 h0
 rw [Nat.add_zero] at hc0
 rw [hx] at hc0
 have B1 : Hid (Below w.heap.size w w1) := b1
 have hsz1 := b1.size
 have OWN0 : Hid ((w1.alloc (.cells (madeCells #[.string ByteArray.empty] n) 9)).ownsRow w.heap.size 9 1 (.slice (some ⟨w1.heap.size, 0, none⟩) n n) n (textVals n (Rf.partF F 0))) := by
  have h := World.ownsRow_lit (base := w.heap.size) (e := 9) (size := 1) w1 (madeCells #[.string ByteArray.empty] n) n hsz1 (by unfold maxLen; omega) (by rw [size_madeCells]; omega)
  rw [made_texts n F] at h
  exact h
 clear hK hck rk hx b1
 go_wp2
 go_loopg [20] n (fun gg i wr => ∃ k : Nat, k ≤ n ∧ gg = n - k ∧ i = .int .i64 k ∧ wr.ownsRow w.heap.size 9 1 (.slice (some ⟨w1.heap.size, 0, none⟩) n n) n (textVals n (Rf.partF F k)) ∧ Below w.heap.size w wr)
 case atStart => exact ⟨0, Nat.zero_le _, rfl, rfl, OWN0.out, B1.out.alloc hsz1 _⟩
 case round =>
  obtain ⟨k, hk, rfl, rfl, own, hb⟩ := hrel
  have OWN : Hid (wr.ownsRow w.heap.size 9 1 (.slice (some ⟨w1.heap.size, 0, none⟩) n n) n (textVals n (Rf.partF F k))) := own
  have HB : Hid (Below w.heap.size w wr) := hb
  have hsz := hb.size
  clear own hb
  by_cases hkn : k < n
  ·obtain ⟨b0, o0, rfl, hc⟩ := hr k hkn
   have hc := (HB.out.cell (p := ⟨b0, o0 + k, none⟩) (World.block_lt_of_cell? w _ hc)).trans hc
   have hxk := hf k hkn
   have hHk := hH (k : Int) wr HB.out
   obtain ⟨t, ht⟩ : ∃ t, f k = t := ⟨_, rfl⟩
   have HT : Hid (f k = t) := ht
   rw [ht] at hc hxk
   clear ht
   have hcl := fun (W : World) => Clone_any (F k) (Nat.le_trans (HFS.out k hkn) (by decide)) W
   have HOK : Hid (∀ W, Below wr.heap.size wr W → (W.setCell ⟨w1.heap.size, k, none⟩ (.string (F k))).ownsRow w.heap.size 9 1 (.slice (some ⟨w1.heap.size, 0, none⟩) n n) n (textVals n (Rf.partF F (k + 1)))) := fun W hW => by
    have h := ((ownsRow_below OWN.out hW).stored k (.string (F k))).1
    rw [textVals_set, Rf.partF_step] at h
    exact h
   have HFZ : Hid (∀ W, Below wr.heap.size wr W → W.frozen? ⟨w1.heap.size, k, none⟩ = false ∧ W.cell? ⟨w1.heap.size, k, none⟩ = some (.string (Rf.partF F k k))) := fun W hW => by
    have h := ownsRow_below OWN.out hW
    exact ⟨h.frozenAt k, by rw [h.cellAt k (by omega)]; exact textVals_at _ hkn⟩
   cases hh : Rf.hasF ln L (k : Int) with
   | true =>
    have EF : Hid (F k = Rf.zeroT x.size) := by show _ = _; rw [HF.out]; exact Rf.blankF_lost hh
    rw [hh] at hHk
    clear hh
    have hRp := fun W => Repeat_zeros x.size hs0 W
    rw [← EF.out] at hRp
    obtain ⟨y, hy⟩ : ∃ y, F k = y := ⟨_, rfl⟩
    rw [hy] at hRp hcl HOK
    clear hy
    go_wp2_with fail
    refine hHk.mono ?_
    rintro e w' ⟨rfl, hw⟩
    subst w'
    go_wp2_with fail
    refine (hRp _).mono ?_
    rintro e w2 ⟨rfl, b2⟩
    go_wp2_with fail
    refine (hcl _).mono ?_
    rintro e w3 ⟨rfl, b3⟩
    have B3 : Hid (Below wr.heap.size wr w3) := below2 b2 b3
    obtain ⟨hfz, hcz⟩ := HFZ.out w3 B3.out
    clear hRp hcl b2 b3
    go_wp2
    go_roundg (n - (k + 1))
    case measure => omega
    case rel => exact ⟨k + 1, by omega, rfl, by go_num, HOK.out w3 B3.out, (HB.out.trans (B3.out.mono hsz)).setCell (p := ⟨w1.heap.size, k, none⟩) hsz1 _⟩
   | false =>
    have EF : Hid (F k = t) := by show _ = _; rw [HF.out, Rf.blankF_kept hh]; exact HT.out
    rw [hh] at hHk
    clear hh
    rw [EF.out] at hcl HOK
    go_wp2_with fail
    refine hHk.mono ?_
    rintro e w' ⟨rfl, hw⟩
    subst w'
    go_wp2_with fail
    refine (hcl _).mono ?_
    rintro e w3 ⟨rfl, b3⟩
    have B3 : Hid (Below wr.heap.size wr w3) := b3
    obtain ⟨hfz, hcz⟩ := HFZ.out w3 B3.out
    clear hcl b3
    go_wp2
    go_roundg (n - (k + 1))
    case measure => omega
    case rel => exact ⟨k + 1, by omega, rfl, by go_num, HOK.out w3 B3.out, (HB.out.trans (B3.out.mono hsz)).setCell (p := ⟨w1.heap.size, k, none⟩) hsz1 _⟩
  ·have hkk : k = n := by omega
   subst hkk
   have FIN : Hid (textVals k (Rf.partF F k) = textVals k F) := textVals_congr fun j hj => if_pos hj
   have own := OWN.out
   rw [FIN.out] at own
   have OWNE : Hid (wr.ownsRow w.heap.size 9 1 (.slice (some ⟨w1.heap.size, 0, none⟩) k k) k (textVals k F)) := own
   clear own
   go_wp2
   go_ret
   exact ⟨_, rfl, OWNE.out, HB.out⟩
end Go.Proofs.YtdgkhjgnjfgnlaaGreat
namespace Go.Proofs.YtdgkhjgnjfgnlaaGreat
open Go.RowKit
structure RowAt (w0 W : World) (Bx g n : Nat) (F : Nat → ByteArray) : Prop where
 low : Below w0.heap.size w0 W
 box : W.cell? ⟨Bx, 0, none⟩ = some (.slice (some ⟨g, 0, none⟩) n n)
 own : W.ownsRow w0.heap.size 9 1 (.slice (some ⟨g, 0, none⟩) n n) n (textVals n F)
 fits : Fits 1048576 n F
theorem RowAt.below {w0 W W' : World} {Bx g n : Nat} {F : Nat → ByteArray} (h : RowAt w0 W Bx g n F) (hb : Below W.heap.size W W') : RowAt w0 W' Bx g n F :=
 ⟨h.low.trans (hb.mono h.low.size), (hb.cell (p := ⟨Bx, 0, none⟩) (World.block_lt_of_cell? W _ h.box)).trans h.box, ownsRow_below h.own hb, h.fits⟩
theorem RowAt.drew {w0 W : World} {Bx g n : Nat} {F : Nat → ByteArray} (h : RowAt w0 W Bx g n F) : RowAt w0 W.drew Bx g n F := h.below (Below.refl _ W).drew
theorem RowAt.row {w0 W : World} {Bx g n : Nat} {F : Nat → ByteArray} (h : RowAt w0 W Bx g n F) : RowS W (some ⟨g, 0, none⟩) n F := by
 obtain ⟨a, c, e, r, _⟩ := RowS.of_owns h.own
 cases e; exact r
theorem RowAt.cell {w0 W : World} {Bx g n : Nat} {F : Nat → ByteArray} (h : RowAt w0 W Bx g n F) {j : Nat} (hj : j < n) : W.cell? ⟨g, j, none⟩ = some (.string (F j)) := by rw [h.own.cellAt j (by omega)]; exact textVals_at F hj
theorem RowAt.frozen {w0 W : World} {Bx g n : Nat} {F : Nat → ByteArray} (h : RowAt w0 W Bx g n F) (j : Nat) : W.frozen? ⟨g, j, none⟩ = false := h.own.frozenAt j
theorem RowAt.set {w0 W : World} {Bx g n : Nat} {F : Nat → ByteArray} (h : RowAt w0 W Bx g n F) {j : Nat} (hj : j < n) (t : ByteArray) (ht : t.size ≤ 1048576) : RowAt w0 (W.setCell ⟨g, j, none⟩ (.string t)) Bx g n (Gfm.upd F j t) := by
 have hg : w0.heap.size ≤ g := owns_low h.own
 have hne : g ≠ Bx := fun e => by
  have h0 := h.cell (j := 0) (by omega)
  rw [e, h.box] at h0; cases h0
 refine ⟨h.low.setCell (p := ⟨g, j, none⟩) hg _, ?_, ?_, h.fits.upd ht⟩
 ·rw [World.cell?_setCell_other _ _ _ _ (fun e => hne (by injection e))]; exact h.box
 ·have := (h.own.stored j (.string t)).1
  rw [textVals_set] at this
  exact this
set_option maxRecDepth 100000 in
set_option maxHeartbeats 2000000 in
theorem byP_any (m n : Nat) (hmn : m + 2 = n) (hn : n ≤ 1000) (w0 W : World) (Bx g at_ : Nat) (F : Nat → ByteArray) (h : RowAt w0 W Bx g n F) (ha : at_ < n) :
  Calls Tryz.prog 114 #[.int .i64 (at_ : Nat), .pointer (some ⟨Bx, 0, none⟩)] W fun e W' => e = .returned (.tuple #[]) ∧ RowAt w0 W' Bx g n (Gfm.upd F at_ (sumP m F)) := by
 have HA : Hid (RowAt w0 W Bx g n F) := h
 have hS := fun (W' : World) (hb : Below W.heap.size W W') => Sum_some m F (by omega) (by rw [hmn]; exact h.fits) (some ⟨g, 0, none⟩) n (by omega) W' (by rw [hmn]; exact (h.below hb).row)
 have hP : (sumP m F).size ≤ 1048576 := Fits.sumP (by rw [hmn]; exact h.fits)
 rw [hmn] at hS
 obtain ⟨p, hp⟩ : ∃ p, sumP m F = p := ⟨_, rfl⟩
 obtain ⟨q, hq⟩ : ∃ q, sumQ m F = q := ⟨_, rfl⟩
 rw [hp, hq] at hS
 rw [hp] at hP
 rw [hp]
 have HP : Hid (p.size ≤ 1048576) := hP
 have hbx := h.box
 have HMX : Hid (Tryz.prog.follows .mixedOrders = true) := by show _ = _; kernel_rfl
 have hai : (at_ : Int) < (n : Int) := by omega
 clear h hp hq hP hmn
 go_enter Tryz.func114, Tryz.ntmps114
 go_wp2_with fail
 refine wp_region_held (S := fun W => W.cell? ⟨Bx, 0, none⟩ = some (.slice (some ⟨g, 0, none⟩) n n)) HMX.out ?_
 have hS0 : (fun W : World => W.cell? ⟨Bx, 0, none⟩ = some (.slice (some ⟨g, 0, none⟩) n n)) W.drew := hbx
 change wpAnyH _ _ _ _ _ _ _ _ W.drew
 refine held_quiet 0 (v := ?v0q1) rfl (by kernel_rfl) (fun _ _ _ h => h) (by assumption) rfl ?hy0q1 ?rest0q1
 case hy0q1 => (intro wS hSw; (try dsimp only at hSw); go_simp; try with_reducible rfl)
 try simp only [Act.put, List.setIfInBounds_toArray, List.set_cons_zero, List.set_cons_succ]
 refine held_quiet 1 (v := ?v1q2) rfl (by kernel_rfl) (fun _ _ _ h => h) (by assumption) rfl ?hy1q2 ?rest1q2
 case hy1q2 => (intro wS hSw; (try dsimp only at hSw); go_simp; try with_reducible rfl)
 try simp only [Act.put, List.setIfInBounds_toArray, List.set_cons_zero, List.set_cons_succ]
 refine held_quiet 2 (v := ?v2q3) rfl (by kernel_rfl) (fun _ _ _ h => h) (by assumption) rfl ?hy2q3 ?rest2q3
 case hy2q3 => (intro wS hSw; (try dsimp only at hSw); go_simp; try with_reducible rfl)
 try simp only [Act.put, List.setIfInBounds_toArray, List.set_cons_zero, List.set_cons_succ]
 refine held_one 3 rfl (by kernel_rfl) ?_
 go_wp2_with fail
 refine (hS W.drew (Below.refl _ W).drew).mono ?_
 rintro e w1 ⟨rfl, b1⟩
 have h1 := HA.out.drew.below b1
 have H1 : Hid (RowAt w0 w1 Bx g n F) := h1
 have hS1 : (fun W : World => W.cell? ⟨Bx, 0, none⟩ = some (.slice (some ⟨g, 0, none⟩) n n)) w1 := h1.box
 have hc1 := h1.cell ha
 have hf1 := h1.frozen at_
 clear h1 b1 hS
 go_wp2
 try refine ⟨hS1, ?_⟩
 refine held_quiet 4 (v := ?v4q4) rfl (by kernel_rfl) (fun _ _ _ h => h) (by assumption) rfl ?hy4q4 ?rest4q4
 case hy4q4 => (intro wS hSw; (try dsimp only at hSw); go_simp; try with_reducible rfl)
 try simp only [Act.put, List.setIfInBounds_toArray, List.set_cons_zero, List.set_cons_succ]
 refine held_quiet 5 (v := ?v5q5) rfl (by kernel_rfl) (fun _ _ _ h => h) (by assumption) rfl ?hy5q5 ?rest5q5
 case hy5q5 => (intro wS hSw; (try dsimp only at hSw); go_simp; try with_reducible rfl)
 try simp only [Act.put, List.setIfInBounds_toArray, List.set_cons_zero, List.set_cons_succ]
 refine held_quiet 6 (v := ?v6q6) rfl (by kernel_rfl) (fun _ _ _ h => h) (by assumption) rfl ?hy6q6 ?rest6q6
 case hy6q6 => (intro wS hSw; (try dsimp only at hSw); go_simp; try with_reducible rfl)
 try simp only [Act.put, List.setIfInBounds_toArray, List.set_cons_zero, List.set_cons_succ]
 refine held_quiet 7 (v := ?v7q7) rfl (by kernel_rfl) (fun _ _ _ h => h) (by assumption) rfl ?hy7q7 ?rest7q7
 case hy7q7 => (intro wS hSw; (try dsimp only at hSw); go_simp; try with_reducible rfl)
 try simp only [Act.put, List.setIfInBounds_toArray, List.set_cons_zero, List.set_cons_succ]
 refine held_one 8 rfl (by kernel_rfl) ?_
 go_wp2
 have H2 := H1.out.set ha p HP.out
 have hS2 : (fun W : World => W.cell? ⟨Bx, 0, none⟩ = some (.slice (some ⟨g, 0, none⟩) n n)) (w1.setCell ⟨g, at_, none⟩ (.string p)) := H2.box
 try refine ⟨hS2, ?_⟩
 refine held_done (by kernel_rfl) ?_
 go_wp2
 go_end0
 exact ⟨rfl, H2⟩
set_option maxRecDepth 100000 in
set_option maxHeartbeats 2000000 in
theorem byQ_any (m n : Nat) (hmn : m + 2 = n) (hn : n ≤ 1000) (w0 W : World) (Bx g at_ : Nat) (F : Nat → ByteArray) (h : RowAt w0 W Bx g n F) (ha : at_ < n) :
  Calls Tryz.prog 116 #[.int .i64 (at_ : Nat), .pointer (some ⟨Bx, 0, none⟩)] W fun e W' => e = .returned (.tuple #[]) ∧ RowAt w0 W' Bx g n (Gfm.upd F at_ (Gfm.timesB (sumQ m F) (Gfm.powI 2 (-(at_ : Int))))) := by
 have HA : Hid (RowAt w0 W Bx g n F) := h
 have hS := fun (W' : World) (hb : Below W.heap.size W W') => Sum_some m F (by omega) (by rw [hmn]; exact h.fits) (some ⟨g, 0, none⟩) n (by omega) W' (by rw [hmn]; exact (h.below hb).row)
 have hQ : (sumQ m F).size ≤ 1048576 := Fits.sumQ (by rw [hmn]; exact h.fits)
 rw [hmn] at hS
 obtain ⟨p, hp⟩ : ∃ p, sumP m F = p := ⟨_, rfl⟩
 obtain ⟨q, hq⟩ : ∃ q, sumQ m F = q := ⟨_, rfl⟩
 rw [hp, hq] at hS
 rw [hq] at hQ
 rw [hq]
 have hxl := Gfm.powI_lt 2 (-(at_ : Int))
 have hE := fun W => Exp_int (-(at_ : Int)) W
 obtain ⟨x, hx⟩ : ∃ x, Gfm.powI 2 (-(at_ : Int)) = x := ⟨_, rfl⟩
 rw [hx] at hxl hE
 rw [hx]
 have hT := fun W => Times_any q x (by omega) hxl W
 have HR : Hid ((Gfm.timesB q x).size ≤ 1048576) := by show _ ≤ _; rw [Gfm.timesB_size]; exact hQ
 have hbx := h.box
 have HMX : Hid (Tryz.prog.follows .mixedOrders = true) := by show _ = _; kernel_rfl
 have hai : (at_ : Int) < (n : Int) := by omega
 clear h hp hq hQ hmn hx
 go_enter Tryz.func116, Tryz.ntmps116
 go_wp2_with fail
 refine (hS W (Below.refl _ W)).mono ?_
 rintro e w1 ⟨rfl, b1⟩
 have h1 := HA.out.below b1
 have H1 : Hid (RowAt w0 w1 Bx g n F) := h1
 have hbx1 := h1.box
 clear h1 b1 hS hbx
 go_wp2_with fail
 refine wp_region_held (S := fun W => W.cell? ⟨Bx, 0, none⟩ = some (.slice (some ⟨g, 0, none⟩) n n)) HMX.out ?_
 have hS0 : (fun W : World => W.cell? ⟨Bx, 0, none⟩ = some (.slice (some ⟨g, 0, none⟩) n n)) w1.drew := hbx1
 change wpAnyH _ _ _ _ _ _ _ _ w1.drew
 refine held_quiet 0 (v := ?v0q8) rfl (by kernel_rfl) (fun _ _ _ h => h) (by assumption) rfl ?hy0q8 ?rest0q8
 case hy0q8 => (intro wS hSw; (try dsimp only at hSw); go_simp; try with_reducible rfl)
 try simp only [Act.put, List.setIfInBounds_toArray, List.set_cons_zero, List.set_cons_succ]
 refine held_quiet 1 (v := ?v1q9) rfl (by kernel_rfl) (fun _ _ _ h => h) (by assumption) rfl ?hy1q9 ?rest1q9
 case hy1q9 => (intro wS hSw; (try dsimp only at hSw); go_simp; try with_reducible rfl)
 try simp only [Act.put, List.setIfInBounds_toArray, List.set_cons_zero, List.set_cons_succ]
 refine held_quiet 2 (v := ?v2q10) rfl (by kernel_rfl) (fun _ _ _ h => h) (by assumption) rfl ?hy2q10 ?rest2q10
 case hy2q10 => (intro wS hSw; (try dsimp only at hSw); go_simp; try with_reducible rfl)
 try simp only [Act.put, List.setIfInBounds_toArray, List.set_cons_zero, List.set_cons_succ]
 refine held_quiet 3 (v := ?v3q11) rfl (by kernel_rfl) (fun _ _ _ h => h) (by assumption) rfl ?hy3q11 ?rest3q11
 case hy3q11 => (intro wS hSw; (try dsimp only at hSw); go_simp; try with_reducible rfl)
 try simp only [Act.put, List.setIfInBounds_toArray, List.set_cons_zero, List.set_cons_succ]
 refine held_quiet 4 (v := ?v4q12) rfl (by kernel_rfl) (fun _ _ _ h => h) (by assumption) rfl ?hy4q12 ?rest4q12
 case hy4q12 => (intro wS hSw; (try dsimp only at hSw); go_simp; try with_reducible rfl)
 try simp only [Act.put, List.setIfInBounds_toArray, List.set_cons_zero, List.set_cons_succ]
 refine held_one 5 rfl (by kernel_rfl) ?_
 go_wp2_with fail
 refine (hE _).mono ?_
 rintro e w2 ⟨rfl, hw2⟩
 subst w2
 go_wp2
 try refine ⟨hS0, ?_⟩
 refine held_one 6 rfl (by kernel_rfl) ?_
 go_wp2_with fail
 refine (hT _).mono ?_
 rintro e w2 ⟨rfl, b2⟩
 have h2 := H1.out.drew.below b2
 have H2 : Hid (RowAt w0 w2 Bx g n F) := h2
 have hS2 : (fun W : World => W.cell? ⟨Bx, 0, none⟩ = some (.slice (some ⟨g, 0, none⟩) n n)) w2 := h2.box
 have hc2 := h2.cell ha
 have hf2 := h2.frozen at_
 clear h2 b2 hE hT
 go_wp2
 try refine ⟨hS2, ?_⟩
 refine held_quiet 7 (v := ?v7q13) rfl (by kernel_rfl) (fun _ _ _ h => h) (by assumption) rfl ?hy7q13 ?rest7q13
 case hy7q13 => (intro wS hSw; (try dsimp only at hSw); go_simp; try with_reducible rfl)
 try simp only [Act.put, List.setIfInBounds_toArray, List.set_cons_zero, List.set_cons_succ]
 refine held_one 8 rfl (by kernel_rfl) ?_
 go_wp2
 have H3 := H2.out.set ha (Gfm.timesB q x) HR.out
 have hS3 : (fun W : World => W.cell? ⟨Bx, 0, none⟩ = some (.slice (some ⟨g, 0, none⟩) n n)) (w2.setCell ⟨g, at_, none⟩ (.string (Gfm.timesB q x))) := H3.box
 try refine ⟨hS3, ?_⟩
 refine held_done (by kernel_rfl) ?_
 go_wp2
 go_end0
 exact ⟨rfl, H3⟩
def Rf.apartF (m : Nat) (F : Nat → ByteArray) (x y : Nat) : ByteArray := Gfm.timesB (Gfm.xorB (sumQ m F) (Gfm.timesB (sumP m F) (Gfm.pE y))) (Gfm.inv (Gfm.pE x ^^^ Gfm.pE y))
set_option maxRecDepth 100000 in
set_option maxHeartbeats 2000000 in
theorem apart_any (m n : Nat) (hmn : m + 2 = n) (hn : n ≤ 1000) (w0 W : World) (Bx g x y : Nat) (F : Nat → ByteArray) (h : RowAt w0 W Bx g n F) :
  Calls Tryz.prog 120 #[.slice (some ⟨g, 0, none⟩) n n, .int .i64 (x : Nat), .int .i64 (y : Nat)] W fun e W' => e = .returned (.string (Rf.apartF m F x y)) ∧ Below W.heap.size W W' := by
 have hS := Sum_some m F (by omega) (by rw [hmn]; exact h.fits) (some ⟨g, 0, none⟩) n (by omega) W (by rw [hmn]; exact h.row)
 have hP : (sumP m F).size ≤ 1048576 := Fits.sumP (by rw [hmn]; exact h.fits)
 have hQ : (sumQ m F).size ≤ 1048576 := Fits.sumQ (by rw [hmn]; exact h.fits)
 have HD : Hid (Rf.apartF m F x y = Gfm.timesB (Gfm.xorB (sumQ m F) (Gfm.timesB (sumP m F) (Gfm.pE y))) (Gfm.inv (Gfm.pE x ^^^ Gfm.pE y))) := rfl
 rw [hmn] at hS
 have hE1 : ∀ W, Calls Tryz.prog 118 #[.int .i64 (x : Int)] W fun e w' => e = .returned (.int .u8 (Gfm.pE x : Nat)) ∧ w' = W := fun W => Exp_int (x : Int) W
 have hE2 : ∀ W, Calls Tryz.prog 118 #[.int .i64 (y : Int)] W fun e w' => e = .returned (.int .u8 (Gfm.pE y : Nat)) ∧ w' = W := fun W => Exp_int (y : Int) W
 have l1 := Gfm.pE_lt x
 have l2 := Gfm.pE_lt y
 obtain ⟨p, hp⟩ : ∃ p, sumP m F = p := ⟨_, rfl⟩
 obtain ⟨q, hq⟩ : ∃ q, sumQ m F = q := ⟨_, rfl⟩
 obtain ⟨a, ha⟩ : ∃ a, Gfm.pE x = a := ⟨_, rfl⟩
 obtain ⟨b, hb⟩ : ∃ b, Gfm.pE y = b := ⟨_, rfl⟩
 obtain ⟨R, hR⟩ : ∃ R, Rf.apartF m F x y = R := ⟨_, rfl⟩
 rw [hR, hp, hq, ha, hb] at HD
 rw [hp, hq] at hS
 rw [hp] at hP
 rw [hq] at hQ
 rw [ha] at hE1 l1
 rw [hb] at hE2 l2
 rw [hR]
 have hT1 := fun W => Times_any p b (by omega) l2 W
 have hX := fun W => Xor_any q (Gfm.timesB p b) (by unfold maxLen; omega) (by rw [Gfm.timesB_size]; unfold maxLen; omega) W
 have xab := u8_xor_nat a b l1 l2
 have xl := Nat.xor_lt_two_pow (n := 8) l1 l2
 obtain ⟨c, hc⟩ : ∃ c, a ^^^ b = c := ⟨_, rfl⟩
 rw [hc] at xab xl HD
 have hI := fun W => Inv_any c xl W
 have il := Gfm.inv_lt c
 obtain ⟨d, hd⟩ : ∃ d, Gfm.inv c = d := ⟨_, rfl⟩
 rw [hd] at hI il HD
 have hT2 := fun W => Times_any (Gfm.xorB q (Gfm.timesB p b)) d (by rw [Gfm.xorB_size, Gfm.timesB_size]; omega) il W
 obtain ⟨z, hz⟩ : ∃ z, Gfm.nz c = z := ⟨_, rfl⟩
 rw [hz] at hI
 clear h hp hq hP hQ hmn ha hb hR hc hd hz
 go_enter Tryz.func120, Tryz.ntmps120
 go_wp2_with fail
 refine hS.mono ?_
 rintro e w1 ⟨rfl, b1⟩
 clear hS
 go_wp2_with fail
 refine (hE2 _).mono ?_
 rintro e w2 ⟨rfl, hw⟩
 subst w2
 go_wp2_with fail
 refine (hT1 _).mono ?_
 rintro e w2 ⟨rfl, b2⟩
 clear hT1
 obtain ⟨t1, ht1⟩ : ∃ t, Gfm.timesB p b = t := ⟨_, rfl⟩
 rw [ht1] at hX hT2 HD
 rw [ht1]
 clear ht1
 go_wp2_with fail
 refine (hX _).mono ?_
 rintro e w3 ⟨rfl, b3⟩
 clear hX
 obtain ⟨t2, ht2⟩ : ∃ t, Gfm.xorB q t1 = t := ⟨_, rfl⟩
 rw [ht2] at hT2 HD
 rw [ht2]
 clear ht2
 go_wp2_with fail
 refine (hE1 _).mono ?_
 rintro e w4 ⟨rfl, hw⟩
 subst w4
 go_wp2_with fail
 refine (hE2 _).mono ?_
 rintro e w4 ⟨rfl, hw⟩
 subst w4
 go_wp2_with fail
 refine (hI _).mono ?_
 rintro e w4 ⟨rfl, hw⟩
 subst w4
 go_wp2_with fail
 refine (hT2 _).mono ?_
 rintro e w4 ⟨rfl, b4⟩
 go_wp2
 go_ret
 exact ⟨ret_string HD.out.symm, below4 b1 b2 b3 b4⟩
end Go.Proofs.YtdgkhjgnjfgnlaaGreat
