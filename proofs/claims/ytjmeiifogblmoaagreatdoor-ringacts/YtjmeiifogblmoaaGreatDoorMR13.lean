/- Several texts in one. The walk of the document's own read of a journal's record. The walk of the document's own Open of a journal. The walk of the document's own Open of a journal that is one. The walk of the document's own Format of a journal. The walks of the document's own Left and Trim of a journal. The walk of the document's own Append of a journal, where nothing is put. The walk of the document's own Append of a journal, where a record is put. -/
import Derived.Test.YtjmeiifogblmoaaGreatDoorRef13
import Derived.Test.YtjmeiifogblmoaaGreatDoorMRefG
import Derived.Deep.LoopGhost
namespace Go.Proofs.YtjmeiifogblmoaaGreatDoor
open Go.RowKit

namespace Ri
/-- the record's parts -/
def recP (D : Dr) (m : Nat) : Nat → Prt := Rc.dPart (headAt D m) (dataAt D m)
def recRow (D : Dr) (m : Nat) : Nat := Rc.hRow (headAt D m)
def recN (D : Dr) (m : Nat) : Nat := Rc.hN (headAt D m)
end Ri
/-- what read answers -/
def RecAns (w : World) (D : Dr) (m : Nat) (e : Ending) (w' : World) : Prop :=
  ∃ (q r : Int) (a : Option Addr) (n c : Nat), e = .returned (.tuple #[.agg #[.int .u64 q, .int .i64 r, .slice a n c], .bool (Ri.isRec D m)]) ∧
    (Ri.isRec D m = true → q = (m : Int) ∧ r = (Ri.recRow D m : Nat) ∧ n = Ri.recN D m ∧ PartsR w' a (Ri.recN D m) (Ri.recP D m) ∧ ∀ x, a = some x → w.heap.size ≤ x.block) ∧ Below w.heap.size w w'
theorem rec_bad {w w' : World} {D : Dr} {m : Nat} (h : Ri.isRec D m = false) (hb : Below w.heap.size w w') : RecAns w D m (.returned (.tuple #[noRec, .bool false])) w' :=
  ⟨0, 0, none, 0, 0, by rw [h]; rfl, (fun e => by rw [h] at e; cases e), hb⟩
/-- a record's box that is stored to leaves all parts as they are -/
theorem PartsR.boxed {w : World} {a : Option Addr} {n g : Nat} {f : Nat → Prt} {q r : Int} {a' : Option Addr} {m c : Nat} (h : PartsR w a n f) (hb : BoxAt w g (.int .u64 q) (.int .i64 r) (.slice a' m c)) (x y z : Value) :
    PartsR (((w.setCell ⟨g, 0, none⟩ x).setCell ⟨g, 1, none⟩ y).setCell ⟨g, 2, none⟩ z) a n f := fun j hj => by
  obtain ⟨b, o, e, hp⟩ := h j hj
  have key : ∀ i v, w.cell? ⟨b, o + j * 3 + i, none⟩ = some v → (b ≠ g ∨ 3 ≤ o + j * 3 + i) → (((w.setCell ⟨g, 0, none⟩ x).setCell ⟨g, 1, none⟩ y).setCell ⟨g, 2, none⟩ z).cell? ⟨b, o + j * 3 + i, none⟩ = some v := fun i v hv hne => by
    rw [World.cell?_setCell_other _ _ _ _ (fun e => by injection e with e1 e2; omega), World.cell?_setCell_other _ _ _ _ (fun e => by injection e with e1 e2; omega), World.cell?_setCell_other _ _ _ _ (fun e => by injection e with e1 e2; omega)]
    exact hv
  have hne : b ≠ g ∨ 3 ≤ o + j * 3 := by
    by_cases e1 : b = g
    · subst e1
      right
      refine Decidable.byContradiction fun hlt => ?_
      have h3 : o + j * 3 = 0 ∨ o + j * 3 = 1 ∨ o + j * 3 = 2 := by omega
      rcases h3 with h3 | h3 | h3
      · have := hp.c0; rw [h3, hb.k0] at this; cases this
      · have := hp.c1; rw [h3, hb.k2] at this; cases this
      · have := hp.c0; rw [h3, hb.k2] at this; cases this
    · exact .inl e1
  exact ⟨b, o, e, key 0 _ hp.c0 (hne.imp id fun h => by omega), key 1 _ hp.c1 (hne.imp id fun h => by omega), key 2 _ hp.c2 (hne.imp id fun h => by omega)⟩
section
variable {w : World} {rd : Nat} {D : Dr} {G : Nat → Prop}
theorem readS_size (h : RefAt w rd D G) (i : Int) : (D.readS i).length ≤ 64 := by
  have ok := h.ok
  unfold Dr.readS
  split
  · rename_i he
    unfold Dr.last
    split
    · rw [List.getD_eq_getElem?_getD]
      cases hh : D.safe[i.toNat]? with
      | none => simp
      | some s => exact Nat.le_of_eq (ok.sector s (List.mem_of_getElem? hh))
    · rename_i hne
      exact Nat.le_of_eq (ok.writes i.toNat _ (by
        rw [List.getD_eq_getElem?_getD, List.getElem?_eq_getElem (by have := List.length_pos_iff.2 hne; omega)]
        exact List.getElem_mem _))
  · simp
set_option maxRecDepth 100000 in
set_option maxHeartbeats 4000000 in
theorem rread_any (h : RefAt w rd D G) (hg : D.goes = false) (hs : 0 < Ri.slots D.safe.length) (m : Nat) (hm : m < 18446744073709551616) :
    Calls Tryz.prog 56 #[.pointer (some ⟨rd, 0, none⟩), .int .u64 (m : Int)] w (RecAns w D m) := by
  have hF := fun (W : World) (hW : Below w.heap.size w W) => rfirst_any (h.below hW) hs m hm
  have hR := fun (W : World) (hW : Below w.heap.size w W) (i : Int) => rRead_any (h.below hW) hg i
  obtain ⟨at_, hat⟩ : ∃ a, a = Ri.first D.safe.length m := ⟨_, rfl⟩
  have hat1 : at_ ≤ 10000 := by
    have := h.ok.le
    have := Nat.mod_lt m hs
    rw [hat]; unfold Ri.first
    have h2 : Ri.slots D.safe.length ≤ 100 := by unfold Ri.slots; omega
    omega
  rw [← hat] at hF
  obtain ⟨b, hb⟩ : ∃ b, b = Ri.headAt D m := ⟨_, rfl⟩
  have hbx : b = txt (D.readS (at_ : Nat)) := by rw [hb, hat]; rfl
  have hR0 := fun (W : World) (hW : Below w.heap.size w W) => hR W hW (at_ : Nat)
  rw [← hbx] at hR0
  obtain ⟨e0, he0⟩ : ∃ e0, e0 = D.readE (at_ : Nat) := ⟨_, rfl⟩
  rw [← he0] at hR0
  have hRj := fun (j : Nat) (W : World) (hW : Below w.heap.size w W) => hR W hW ((at_ + 1 + j : Nat) : Int)
  have HDat : Hid (∀ j, txt (D.readS ((at_ + 1 + j : Nat) : Int)) = Ri.dataAt D m j) := fun j => by rw [hat]; rfl
  have HGot : Hid (∀ k, Ri.gotTo D m k = true ↔ ∀ j, j < k → D.readE ((at_ + 1 + j : Nat) : Int) = 0) := fun k => by rw [hat]; exact Ri.gotTo_iff D m k
  have HIs : Hid (Ri.isRec D m = true ↔ e0 = 0 ∧ Rc.headE b = 0 ∧ Rc.hSeq b = m ∧ Ri.gotTo D m (Rc.hN b) = true ∧ Rc.decE b (Rc.hN b) (Ri.dataAt D m) = 0) := by
    show _ ↔ _
    rw [Ri.isRec_iff, ← hb, ← hat, ← he0]
  have HB : Hid (b = Ri.headAt D m) := hb
  have HSzs : Hid (∀ j, (Ri.dataAt D m j).size ≤ 64) := fun j => readS_size h _
  have HF : Hid _ := hF
  have HR0 : Hid _ := hR0
  have HRj : Hid _ := hRj
  have hmi : (m : Int) < 18446744073709551616 := by omega
  obtain ⟨i0, hi, hz0, hz1, hz2⟩ := info_parts info_str
  clear h hg hs hF hR hR0 hRj hat hb hbx he0
  go_enter Tryz.func56, Tryz.ntmps56
  go_wp2_with fail
  refine (HF.out _ ((Below.refl _ w).alloc (Nat.le_refl _) _)).mono ?_
  rintro e w1 ⟨rfl, rfl⟩
  go_wp2_with fail
  refine (HR0.out _ ((Below.refl _ w).alloc (Nat.le_refl _) _)).mono ?_
  rintro e w1 ⟨rfl, hw1⟩
  have hx1 : BoxAt w1 w.heap.size (.int .u64 0) (.int .i64 0) (.slice none 0 0) := by rw [hw1]; exact BoxAt.new w _ _ _ _
  have HB1 : Hid (Below w.heap.size w w1) := by show Below _ _ _; rw [hw1]; exact (Below.refl _ w).alloc (Nat.le_refl _) _
  have HX1 : Hid (BoxAt w1 w.heap.size (.int .u64 0) (.int .i64 0) (.slice none 0 0)) := hx1
  clear hw1 hx1
  by_cases hz : e0 = 0
  case neg =>
    have hne : ((e0 : Int) != 0) = true := by rw [bne_iff_ne]; omega
    have HNo : Hid (Ri.isRec D m = false) := by
      show _ = _
      rw [← Bool.not_eq_true]
      exact fun hh => hz (HIs.out.1 hh).1
    have hl := HX1.out.lt
    obtain ⟨k0, k1, k2, f0, f1, f2⟩ := HX1.out
    clear hz
    go_wp2
    refine bodyPost_ret (ret_cell_tmp rfl _ _ ⟨w.heap.size, 0, none⟩ noRec rfl (by unfold noRec; go_simp)) rfl ?_
    exact rec_bad HNo.out (stored3 HB1.out (Nat.le_refl _) HB1.out.size _ _ _)
  case pos =>
  have hne : ((e0 : Int) != 0) = false := by rw [bne_eq_false_iff_eq]; omega
  have HH := fun W => rHead12_any b W
  unfold HeadAns at HH
  obtain ⟨he, hhe⟩ : ∃ he, he = Rc.headE b := ⟨_, rfl⟩
  obtain ⟨sq, hsq⟩ : ∃ sq, sq = Rc.hSeq b := ⟨_, rfl⟩
  obtain ⟨rw_, hrw⟩ : ∃ rw_, rw_ = Rc.hRow b := ⟨_, rfl⟩
  obtain ⟨n, hn⟩ : ∃ n, n = Rc.hN b := ⟨_, rfl⟩
  have hn40 : n ≤ 40 := by
    rw [hn]
    by_cases hh : Rc.headE b = 0
    · exact (Rc.head_places hh).2.2.2.2.1
    · unfold Rc.hN; rw [if_neg hh]; decide
  rw [← hhe, ← hsq, ← hrw, ← hn] at HH
  have HIs2 : Hid (Ri.isRec D m = true ↔ he = 0 ∧ sq = m ∧ Ri.gotTo D m n = true ∧ Rc.decE b n (Ri.dataAt D m) = 0) := by
    show _ ↔ _
    rw [HIs.out, hhe, hsq, hn]
    exact ⟨fun x => x.2, fun x => ⟨hz, x⟩⟩
  have HNm : Hid (he = Rc.headE b ∧ sq = Rc.hSeq b ∧ rw_ = Rc.hRow b ∧ n = Rc.hN b) := ⟨hhe, hsq, hrw, hn⟩
  clear hhe hsq hrw hn hz
  go_wp2_with fail
  refine (HH _).mono ?_
  rintro e w2 ⟨ah, ch, rfl, hp2, hb2⟩
  have HB2 : Hid (Below w.heap.size w w2) := below2 HB1.out hb2
  have HX2 : Hid (BoxAt w2 w.heap.size (.int .u64 0) (.int .i64 0) (.slice none 0 0)) := HX1.out.below hb2 HX1.out.lt
  clear hp2 hb2 HH
  go_upto_region 6 with fail
  obtain ⟨w3, hw3⟩ : ∃ w3, w3 = w2.alloc (.cells #[.int .u64 (sq : Int), .int .i64 (rw_ : Int), .slice ah n ch] 74) := ⟨_, rfl⟩
  rw [← hw3]
  obtain ⟨rb, hrb⟩ : ∃ rb, rb = w2.heap.size := ⟨_, rfl⟩
  have hr3 : BoxAt w3 rb (.int .u64 (sq : Int)) (.int .i64 (rw_ : Int)) (.slice ah n ch) := by rw [hw3, hrb]; exact BoxAt.new w2 _ _ _ _
  have b3 : Below w2.heap.size w2 w3 := by rw [hw3]; exact (Below.refl _ w2).alloc (Nat.le_refl _) _
  have HB3 : Hid (Below w.heap.size w w3) := below2 HB2.out b3
  have HX3 : Hid (BoxAt w3 w.heap.size (.int .u64 0) (.int .i64 0) (.slice none 0 0)) := HX2.out.below b3 HX2.out.lt
  have HR3 : Hid (BoxAt w3 rb (.int .u64 (sq : Int)) (.int .i64 (rw_ : Int)) (.slice ah n ch)) := hr3
  rw [← hrb]
  clear b3 hw3 hrb hr3
  by_cases hhz : he = 0
  case neg =>
    have hne2 : ((he : Int) != 0) = true := by rw [bne_iff_ne]; omega
    have HNo : Hid (Ri.isRec D m = false) := by
      show _ = _
      rw [← Bool.not_eq_true]
      exact fun hh => hhz (HIs2.out.1 hh).1
    have hl := HX3.out.lt
    obtain ⟨k0, k1, k2, f0, f1, f2⟩ := HX3.out
    clear hhz
    go_wp2
    refine bodyPost_ret (ret_cell_tmp rfl _ _ ⟨w.heap.size, 0, none⟩ noRec rfl (by unfold noRec; go_simp)) rfl ?_
    exact rec_bad HNo.out (stored3 HB3.out (Nat.le_refl _) HB3.out.size _ _ _)
  case pos =>
  have hne2 : ((he : Int) != 0) = false := by rw [bne_eq_false_iff_eq]; omega
  by_cases hsm : sq = m
  case neg =>
    have hne3 : ((sq : Int) != (m : Int)) = true := by rw [bne_iff_ne]; omega
    have HNo : Hid (Ri.isRec D m = false) := by
      show _ = _
      rw [← Bool.not_eq_true]
      exact fun hh => hsm (HIs2.out.1 hh).2.1
    have hl := HX3.out.lt
    have y0 := HR3.out.k0
    obtain ⟨k0, k1, k2, f0, f1, f2⟩ := HX3.out
    clear hhz hsm
    go_wp2
    refine bodyPost_ret (ret_cell_tmp rfl _ _ ⟨w.heap.size, 0, none⟩ noRec rfl (by unfold noRec; go_simp)) rfl ?_
    exact rec_bad HNo.out (stored3 HB3.out (Nat.le_refl _) HB3.out.size _ _ _)
  case pos =>
  have hne3 : ((sq : Int) != (m : Int)) = false := by rw [bne_eq_false_iff_eq]; omega
  have HIs3 : Hid (Ri.isRec D m = true ↔ Ri.gotTo D m n = true ∧ Rc.decE b n (Ri.dataAt D m) = 0) := by
    show _ ↔ _
    rw [HIs2.out]
    exact ⟨fun x => x.2.2, fun x => ⟨hhz, hsm, x⟩⟩
  have HHz : Hid (he = 0 ∧ sq = m) := ⟨hhz, hsm⟩
  have y0 := HR3.out.k0
  have y2 := HR3.out.k2
  clear hhz hsm
  go_wp2
  go_loopg [12, 13, 14, 15] n (fun gg v i u14 u15 wr => ∃ (k : Nat) (u : Value), k ≤ n ∧ gg = n - k ∧ u = v ∧ i = .int .i64 (k : Int) ∧ wr.ownsRow w3.heap.size 9 1 u k (textVals k (Ri.dataAt D m)) ∧ Below w3.heap.size w3 wr ∧ Ri.gotTo D m k = true)
  case atStart =>
    refine ⟨0, _, Nat.zero_le _, rfl, rfl, rfl, ?_, (Below.refl _ w3).alloc (Nat.le_refl _) _, rfl⟩
    exact World.ownsRow_lit (base := w3.heap.size) (e := 9) (size := 1) w3 #[] 0 (Nat.le_refl _) (by decide) rfl
  case round =>
  obtain ⟨k, u, hk, rfl, rfl, rfl, hown, hb, hgo⟩ := hrel
  have HBr : Hid (Below w3.heap.size w3 wr) := hb
  have OWN : Hid (wr.ownsRow w3.heap.size 9 1 u k (textVals k (Ri.dataAt D m))) := hown
  have HGo : Hid (Ri.gotTo D m k = true) := hgo
  have HBW : Hid (Below w.heap.size w wr) := HB3.out.trans (hb.mono HB3.out.size)
  have hx := HX3.out.below hb HX3.out.lt
  have HX : Hid (BoxAt wr w.heap.size (.int .u64 0) (.int .i64 0) (.slice none 0 0)) := hx
  have z2 := (HR3.out.below hb HR3.out.lt).k2
  have hsz := hb.size
  clear hown hb hgo y0 y2
  by_cases hlt : k < n
  case neg =>
    have hkn : k = n := by omega
    subst hkn
    obtain ⟨aL, cL, rfl, hrs, _, _⟩ := RowS.of_owns OWN.out
    have hde := rDecode12_new b aL k cL (Ri.dataAt D m) wr hrs
    unfold DecNew12 at hde
    obtain ⟨de, hdee⟩ : ∃ de, de = Rc.decE b k (Ri.dataAt D m) := ⟨_, rfl⟩
    obtain ⟨ds, hds⟩ : ∃ ds, ds = Rc.dSeq b k (Ri.dataAt D m) := ⟨_, rfl⟩
    obtain ⟨dr, hdr⟩ : ∃ dr, dr = Rc.dRow b k (Ri.dataAt D m) := ⟨_, rfl⟩
    obtain ⟨dn, hdn⟩ : ∃ dn, dn = Rc.dN b k (Ri.dataAt D m) := ⟨_, rfl⟩
    rw [← hdee, ← hds, ← hdr, ← hdn] at hde
    have HDe : Hid (de = Rc.decE b k (Ri.dataAt D m) ∧ ds = Rc.dSeq b k (Ri.dataAt D m) ∧ dr = Rc.dRow b k (Ri.dataAt D m) ∧ dn = Rc.dN b k (Ri.dataAt D m)) := ⟨hdee, hds, hdr, hdn⟩
    clear hdee hds hdr hdn hrs hlt hk hx
    go_wp2_with fail
    refine hde.mono ?_
    rintro e w5 ⟨a5, c5, rfl, hp5, hn5, hb5⟩
    have HNw5 : Hid (∀ x, a5 = some x → w.heap.size ≤ x.block) := fun x hx => Nat.le_trans HBW.out.size (hn5 x hx)
    have HB5 : Hid (Below w.heap.size w w5) := below2 HBW.out hb5
    have HX5 : Hid (BoxAt w5 w.heap.size (.int .u64 0) (.int .i64 0) (.slice none 0 0)) := HX.out.below hb5 HX.out.lt
    have HP5 : Hid (PartsR w5 a5 dn (Rc.dPart b (Ri.dataAt D m))) := hp5
    have hl := HX5.out.lt
    obtain ⟨k0, k1, k2, f0, f1, f2⟩ := HX5.out
    clear hb5 hp5 hn5 hde z2
    by_cases hdz : de = 0
    case neg =>
      have hne5 : ((de : Int) == 0) = false := by rw [beq_eq_false_iff_ne]; omega
      have HNo : Hid (Ri.isRec D m = false) := by
        show _ = _
        rw [← Bool.not_eq_true]
        exact fun hh => hdz (by rw [HDe.out.1]; exact (HIs3.out.1 hh).2)
      clear hdz
      go_wp2
      refine bodyPost_ret (ret_cell_tmp rfl _ _ ⟨w.heap.size, 0, none⟩ (.agg #[.int .u64 (ds : Int), .int .i64 (dr : Int), .slice a5 dn c5]) rfl (by go_simp)) rfl ?_
      exact ⟨(ds : Int), (dr : Int), a5, dn, c5, by rw [HNo.out]; rfl, (fun e => by rw [HNo.out] at e; cases e), (stored3 HB5.out (Nat.le_refl _) HB5.out.size _ _ _).alloc (stored3 HB5.out (Nat.le_refl _) HB5.out.size _ _ _).size _⟩
    case pos =>
    have hne5 : ((de : Int) == 0) = true := by rw [beq_iff_eq]; omega
    have HYes : Hid (Ri.isRec D m = true) := HIs3.out.2 ⟨HGo.out, by rw [← HDe.out.1]; exact hdz⟩
    have HVal : Hid (ds = m ∧ dr = Ri.recRow D m ∧ dn = Ri.recN D m ∧ Rc.dPart b (Ri.dataAt D m) = Ri.recP D m) := by
      have hd0 : Rc.decE b k (Ri.dataAt D m) = 0 := by rw [← HDe.out.1]; exact hdz
      refine ⟨?_, ?_, ?_, ?_⟩
      · have e1 : Rc.dSeq b k (Ri.dataAt D m) = Rc.hSeq b := by unfold Rc.dSeq; rw [if_pos hd0]
        rw [HDe.out.2.1, e1, ← HNm.out.2.1]; exact HHz.out.2
      · rw [HDe.out.2.2.1]; unfold Rc.dRow Ri.recRow; rw [if_pos hd0, HB.out]
      · rw [HDe.out.2.2.2]; unfold Rc.dN Ri.recN; rw [if_pos hd0, HB.out]
      · unfold Ri.recP; rw [HB.out]
    clear hdz
    go_wp2
    refine bodyPost_ret (ret_cell_tmp rfl _ _ ⟨w.heap.size, 0, none⟩ (.agg #[.int .u64 (ds : Int), .int .i64 (dr : Int), .slice a5 dn c5]) rfl (by go_simp)) rfl ?_
    refine ⟨(ds : Int), (dr : Int), a5, dn, c5, by rw [HYes.out]; rfl, fun _ => ⟨by rw [HVal.out.1], by rw [HVal.out.2.1], HVal.out.2.2.1, ?_, HNw5.out⟩, (stored3 HB5.out (Nat.le_refl _) HB5.out.size _ _ _).alloc (stored3 HB5.out (Nat.le_refl _) HB5.out.size _ _ _).size _⟩
    rw [← HVal.out.2.2.1, ← HVal.out.2.2.2]
    have hpx := HP5.out.boxed HX5.out (.int .u64 (ds : Int)) (.int .i64 (dr : Int)) (.slice a5 dn c5)
    exact hpx.below ((Below.refl _ _).alloc (Nat.le_refl _) _)
  case pos =>
  have hki : (k : Int) < (n : Int) := by omega
  obtain ⟨q, hq⟩ : ∃ q : Nat, q = at_ + 1 + k := ⟨_, rfl⟩
  obtain ⟨p1, hp1⟩ : ∃ p1 : Nat, p1 = at_ + 1 := ⟨_, rfl⟩
  have hq1 : (at_ : Int) + 1 = (p1 : Int) := by omega
  have hq2 : (p1 : Int) + (k : Int) = (q : Int) := by omega
  have hrd := HRj.out k wr HBW.out
  rw [HDat.out k, ← hq] at hrd
  obtain ⟨ek, hek⟩ : ∃ ek, ek = D.readE (q : Nat) := ⟨_, rfl⟩
  rw [← hek] at hrd
  have hsk := HSzs.out k
  obtain ⟨sk, hsk2⟩ : ∃ sk, sk = Ri.dataAt D m k := ⟨_, rfl⟩
  rw [← hsk2] at hrd hsk
  have HSk : Hid (sk = Ri.dataAt D m k) := hsk2
  have HEk : Hid (ek = D.readE ((at_ + 1 + k : Nat) : Int)) := by show _ = _; rw [hek, hq]
  have HLt : Hid (k < n) := hlt
  have hl := hx.lt
  obtain ⟨k0, k1, k2, f0, f1, f2⟩ := hx
  clear hsk2 hek hq hp1
  go_wp2_with fail
  refine hrd.mono ?_
  rintro e w5 ⟨rfl, rfl⟩
  clear hrd
  by_cases hez : ek = 0
  case neg =>
    have hne4 : ((ek : Int) != 0) = true := by rw [bne_iff_ne]; omega
    have HNo : Hid (Ri.isRec D m = false) := by
      show _ = _
      rw [← Bool.not_eq_true]
      exact fun hh => hez (by rw [HEk.out]; exact (HGot.out n).1 (HIs3.out.1 hh).1 k HLt.out)
    clear hez hq1 hq2
    go_wp2
    refine bodyPost_ret (ret_cell_tmp rfl _ _ ⟨w.heap.size, 0, none⟩ noRec rfl (by unfold noRec; go_simp)) rfl ?_
    exact rec_bad HNo.out (stored3 HBW.out (Nat.le_refl _) HBW.out.size _ _ _)
  case pos =>
  have hne4 : ((ek : Int) != 0) = false := by rw [bne_eq_false_iff_eq]; omega
  have HGo2 : Hid (Ri.gotTo D m (k + 1) = true) := by
    show _ = _
    rw [HGot.out]
    intro j hj
    by_cases e : j = k
    · rw [e, ← HEk.out]; exact hez
    · exact (HGot.out k).1 HGo.out j (by omega)
  have t1 : True := trivial
  clear hez hq1 hq2 k0 k1 k2 f0 f1 f2
  go_wp2_with (first | (at_builtin; go_loud (have _t := t1; refine wpList_append_own _ rfl _ _ 42 rfl w3.heap.size 9 i0 (.string ByteArray.empty) 1 16 Tryz.underlying42 hi hz0 hz1 hz2 rfl (by decide) u k (textVals k (Ri.dataAt D m)) rfl (OWN.out.alloc _) ⟨_, 0, none⟩ 1 1 [.string sk] rfl rfl (cell_one_new _ _ _) (by simp [Value.oneCell']) (by unfold maxLen; omega) (by omega) (by simp; omega) ?_; intro v' w6 hown' hgrow _; obtain ⟨g', cap', rfl⟩ := ownsRow_succ hown'; have hb6 := below_append OWN.out hsz hgrow; have OWN6 : Hid (w6.ownsRow w3.heap.size 9 1 (.slice (some ⟨g', 0, none⟩) (k + 1) cap') (k + 1) (textVals (k + 1) (Ri.dataAt D m))) := (by rw [← textVals_snoc, ← HSk.out]; exact hown'); have HB6 : Hid (Below w3.heap.size w3 w6) := HBr.out.trans hb6; clear hown' hgrow hb6 t1)))
  go_roundg (n - (k + 1))
  case measure => omega
  case rel => exact ⟨k + 1, _, by omega, rfl, rfl, by go_num, OWN6.out, HB6.out, HGo2.out⟩
end
end Go.Proofs.YtjmeiifogblmoaaGreatDoor

namespace Go.Proofs.YtjmeiifogblmoaaGreatDoor
open Go.RowKit

/-- values by threes -/
def vals3 (g : Nat → Value × Value × Value) : Nat → List Value
  | 0 => []
  | n + 1 => vals3 g n ++ [(g n).1, (g n).2.1, (g n).2.2]
theorem vals3_length (g : Nat → Value × Value × Value) : ∀ n, (vals3 g n).length = n * 3
  | 0 => rfl
  | n + 1 => by rw [vals3, List.length_append, vals3_length g n]; show n * 3 + 3 = _; omega
theorem vals3_at (g : Nat → Value × Value × Value) : ∀ {n j : Nat}, j < n → ∀ k, k < 3 → (vals3 g n)[j * 3 + k]? = [(g j).1, (g j).2.1, (g j).2.2][k]?
  | 0, j, h, _, _ => absurd h (Nat.not_lt_zero _)
  | n + 1, j, h, k, hk => by
    rw [vals3]
    by_cases e : j < n
    · rw [List.getElem?_append_left (by rw [vals3_length]; omega)]
      exact vals3_at g e k hk
    · have : j = n := by omega
      subst this
      rw [List.getElem?_append_right (by rw [vals3_length]; omega), vals3_length, show j * 3 + k - j * 3 = k by omega]
theorem vals3_congr {g g' : Nat → Value × Value × Value} : ∀ {n}, (∀ j, j < n → g j = g' j) → vals3 g n = vals3 g' n
  | 0, _ => rfl
  | n + 1, h => by rw [vals3, vals3, vals3_congr (fun j hj => h j (by omega)), h n (by omega)]
/-- a record's numbers, and its parts -/
structure RecT where
  seq : Nat
  row : Int
  n : Nat
  f : Nat → Prt
/-- a row of records -/
def RecsR (w : World) (a : Option Addr) (n : Nat) (R : Nat → RecT) : Prop := ∀ j, j < n → ∃ b off ap cp, a = some ⟨b, off, none⟩ ∧ w.cell? ⟨b, off + j * 3, none⟩ = some (.int .u64 ((R j).seq : Int)) ∧ w.cell? ⟨b, off + j * 3 + 1, none⟩ = some (.int .i64 (R j).row) ∧ w.cell? ⟨b, off + j * 3 + 2, none⟩ = some (.slice ap (R j).n cp) ∧ PartsR w ap (R j).n (R j).f
theorem RecsR.below {w w' : World} {a : Option Addr} {n : Nat} {R : Nat → RecT} (h : RecsR w a n R) (hb : Below w.heap.size w w') : RecsR w' a n R := fun j hj => by
  obtain ⟨b, off, ap, cp, ha, c0, c1, c2, hp⟩ := h j hj
  have hl := World.block_lt_of_cell? w _ c0
  exact ⟨b, off, ap, cp, ha, (hb.cell (p := ⟨b, off + j * 3, none⟩) hl).trans c0, (hb.cell (p := ⟨b, off + j * 3 + 1, none⟩) hl).trans c1, (hb.cell (p := ⟨b, off + j * 3 + 2, none⟩) hl).trans c2, hp.below hb⟩
theorem RecsR.congr {w : World} {a : Option Addr} {n : Nat} {R S : Nat → RecT} (h : RecsR w a n R) (e : ∀ j, j < n → R j = S j) : RecsR w a n S := fun j hj => by rw [← e j hj]; exact h j hj
/-- where the parts of so many records lie -/
def rec3 (A : Nat → Option Addr × Nat) (R : Nat → RecT) (j : Nat) : Value × Value × Value := (.int .u64 ((R j).seq : Int), .int .i64 (R j).row, .slice (A j).1 (R j).n (A j).2)
theorem RecsR.of_owns {w : World} {base t n : Nat} {v : Value} {A : Nat → Option Addr × Nat} {R : Nat → RecT} (h : w.ownsRow base t 3 v n (vals3 (rec3 A R) n)) (hp : ∀ j, j < n → PartsR w (A j).1 (R j).n (R j).f) : ∃ a cap, v = .slice a n cap ∧ RecsR w a n R ∧ n ≤ cap ∧ ∀ x, a = some x → base ≤ x.block := by
  rcases h.2 with ⟨rfl, rfl⟩ | ⟨g, cap, cur, rfl, hg, _, hn, _⟩
  · exact ⟨none, 0, rfl, fun _ hj => absurd hj (Nat.not_lt_zero _), Nat.zero_le _, fun _ e => by cases e⟩
  · refine ⟨_, cap, rfl, fun j hj => ?_, hn, fun _ e => by cases e; exact hg⟩
    have key : ∀ k u, k < 3 → [(rec3 A R j).1, (rec3 A R j).2.1, (rec3 A R j).2.2][k]? = some u → w.cell? ⟨g, 0 + j * 3 + k, none⟩ = some u := fun k u hk hu => by
      have hc := h.cells (g := g) rfl (j * 3 + k) u (by rw [vals3_at _ hj k hk]; exact hu)
      have hadd : (⟨g, 0, none⟩ : Addr).add (j * 3 + k) = ⟨g, 0 + (j * 3 + k), none⟩ := by unfold Addr.add; split <;> simp_all
      rw [hadd, ← Nat.add_assoc] at hc
      exact hc
    exact ⟨g, 0, (A j).1, (A j).2, rfl, key 0 _ (by decide) rfl, key 1 _ (by decide) rfl, key 2 _ (by decide) rfl, hp j hj⟩
namespace Ri
/-- the record m, as it is read -/
def recT (D : Dr) (m : Nat) : RecT := ⟨m, (recRow D m : Nat), recN D m, recP D m⟩
end Ri
/-- the document's own ring: its drive, the trimmed number, the next one -/
def RRing (w : World) (rr rd t c : Nat) : Prop := w.heap[rr]? = some (.cells #[.pointer (some ⟨rd, 0, none⟩), .int .u64 (t : Int), .int .u64 (Ri.nth t (c + 1) : Nat)] 65 (0, 0))
theorem RRing.only {w w' : World} {rr rd t c : Nat} {G : Nat → Prop} (h : RRing w rr rd t c) (ho : Only G w w') (hn : ¬ G rr) : RRing w' rr rd t c := (ho.block rr (Array.getElem?_eq_some_iff.1 h).1 hn).trans h
theorem RRing.lt {w : World} {rr rd t c : Nat} (h : RRing w rr rd t c) : rr < w.heap.size := (Array.getElem?_eq_some_iff.1 h).1
theorem RRing.below {w w' : World} {rr rd t c : Nat} (h : RRing w rr rd t c) (hb : Below w.heap.size w w') : RRing w' rr rd t c := (hb.block rr h.lt).trans h
/-- what Open answers -/
def ROpenAns (w : World) (rd : Nat) (D : Dr) (e : Ending) (w' : World) : Prop :=
  ((Ri.openE D ≠ 0 ∧ e = .returned (.tuple #[.pointer none, .slice none 0 0, .int .i64 (Ri.openE D : Nat)])) ∨
   (Ri.openE D = 0 ∧ ∃ rr a cap, e = .returned (.tuple #[.pointer (some ⟨rr, 0, none⟩), .slice a (Ri.openC D) cap, .int .i64 0]) ∧ RRing w' rr rd (Ri.openT D) (Ri.openC D) ∧ w.heap.size ≤ rr ∧ RecsR w' a (Ri.openC D) (fun j => Ri.recT D (Ri.nth (Ri.openT D) (j + 1))))) ∧ Below w.heap.size w w'
section
variable {w : World} {rd : Nat} {D : Dr} {G : Nat → Prop}
/-- what can be read is a sector -/
theorem readS_full (h : RefAt w rd D G) {i : Int} (he : D.readE i = 0) : (D.readS i).length = 64 := by
  have ok := h.ok
  have hr : D.reachE i = 0 := by
    refine Decidable.byContradiction fun hn => ?_
    unfold Dr.readE at he
    rw [if_neg hn] at he
    exact hn he
  have hb : D.hasB i = true := by
    unfold Dr.reachE at hr
    split at hr
    · split at hr
      · assumption
      · cases hr
    · contradiction
  unfold Dr.hasB at hb
  simp only [Bool.and_eq_true, decide_eq_true_eq] at hb
  unfold Dr.readS
  rw [if_pos he]
  unfold Dr.last
  split
  · rw [List.getD_eq_getElem?_getD, List.getElem?_eq_getElem (by omega)]
    exact ok.sector _ (List.getElem_mem _)
  · rename_i hne
    refine ok.writes i.toNat _ ?_
    rw [List.getD_eq_getElem?_getD, List.getElem?_eq_getElem (by have := List.length_pos_iff.2 hne; omega)]
    exact List.getElem_mem _
theorem rdec13 (u : ByteArray) (h : u.size = 8) (b : Option Addr) (cb : Nat) (w : World) (hb : RowI .i64 w b 1 (fun j => [8].getD j 0)) :
    Calls Tryz.prog 55 #[.string u, .slice b 1 cb] w fun e w' => ∃ a cap, e = .returned (.tuple #[.slice a 1 cap, .int .i64 0]) ∧ RowI .u64 w' a 1 (fun _ => (((Pk.dec u.data.toList [8]).getD 0 0 : Nat) : Int)) ∧ Below w.heap.size w w' := by
  have hl : u.data.toList.length = Pk.offs [8] [8].length := by rw [Pg.list_size, h]; rfl
  have hx := refDecode_any u [8] (by rw [h]; unfold maxLen; decide) (by show 1 ≤ maxLen; decide) b cb w hb
  have e1 := Pk.decE_yes Pg.w8_ok hl
  have e2 : (Pk.dec u.data.toList [8]).length = 1 := Pk.dec_length Pg.w8_ok hl
  refine hx.mono ?_
  rintro e w' ⟨a, cap, he, hr, hbb⟩
  rw [e1, e2] at he
  rw [e2] at hr
  refine ⟨a, cap, he, fun j hj => ?_, hbb⟩
  have : j = 0 := by omega
  subst this
  exact hr 0 hj
set_option maxRecDepth 100000 in
set_option maxHeartbeats 2000000 in
theorem rOpen_err (h : RefAt w rd D G) (hg : D.goes = false) (he : D.readE (3 : Nat) ≠ 0) : Calls Tryz.prog 17 #[.pointer (some ⟨rd, 0, none⟩)] w (ROpenAns w rd D) := by
  have hR := fun (W : World) (hW : RefAt W rd D G) => rRead_any hW hg (3 : Nat)
  have HE : Hid (Ri.openE D = D.readE (3 : Nat) ∧ D.readE (3 : Nat) ≠ 0) := ⟨by unfold Ri.openE; rw [if_neg he], he⟩
  obtain ⟨q, hq⟩ : ∃ q, q = D.readE (3 : Nat) := ⟨_, rfl⟩
  have hne : ((q : Int) != 0) = true := by rw [bne_iff_ne]; omega
  have hR1 := hR w h
  rw [← hq] at hR1 HE
  clear he hq hR h hg
  go_enter Tryz.func17, Tryz.ntmps17
  go_wp2_with fail
  refine hR1.mono ?_
  rintro e w1 ⟨rfl, rfl⟩
  go_wp2
  go_ret3
  exact ⟨.inl ⟨by rw [HE.out.1]; exact HE.out.2, by rw [HE.out.1]; rfl⟩, Below.refl _ _⟩
set_option maxRecDepth 100000 in
set_option maxHeartbeats 2000000 in
theorem rOpen_bad (h : RefAt w rd D G) (hg : D.goes = false) (he : D.readE (3 : Nat) = 0) (hb : ¬ (Ri.isMark (Ri.markAt D) = true ∧ 0 < Ri.slots D.safe.length)) : Calls Tryz.prog 17 #[.pointer (some ⟨rd, 0, none⟩)] w (ROpenAns w rd D) := by
  have HE : Hid (Ri.openE D = 200) := by show _ = _; unfold Ri.openE; rw [if_pos he, if_neg hb]
  have hR1 := rRead_any h hg (3 : Nat)
  have h64 := readS_full h he
  obtain ⟨a, cap, c0⟩ := h.sectors
  have hle := h.ok.le
  obtain ⟨b, hbb⟩ : ∃ b, b = Ri.markAt D := ⟨_, rfl⟩
  have hbs : b.size = 64 := by rw [hbb]; exact h64
  rw [he, show txt (D.readS (3 : Nat)) = b from hbb.symm] at hR1
  rw [← hbb] at hb
  obtain ⟨n, hn⟩ : ∃ n, n = D.safe.length := ⟨_, rfl⟩
  rw [← hn] at c0 hle hb
  have hS := fun W => rSlots_any n (by omega) W
  obtain ⟨N, hN⟩ : ∃ N, N = Ri.slots n := ⟨_, rfl⟩
  rw [← hN] at hS hb
  cases ho : Crc.opens b.data.toList with
  | false =>
    have HO := fun W => refOpen_no b (by omega) ho W
    clear ho hb hbb hbs h64 he h hg hn hN hS c0 hle
    go_enter Tryz.func17, Tryz.ntmps17
    go_wp2_with fail
    refine hR1.mono ?_
    rintro e w1 ⟨rfl, rfl⟩
    clear hR1
    go_wp2_with fail
    refine (HO _).mono ?_
    rintro e w2 ⟨rfl, hb2⟩
    have HB2 : Hid _ := hb2
    clear hb2
    go_wp2
    go_ret3
    exact ⟨.inl ⟨by rw [HE.out]; decide, by rw [HE.out]; rfl⟩, HB2.out⟩
  | true =>
    have HO := fun W => refOpen_yes b (by omega) ho W
    by_cases hz : N = 0
    · have hz0 : ((N : Int) == 0) = true := by rw [beq_iff_eq]; omega
      have HR : Hid (w.cell? ⟨rd, 0, none⟩ = some (.slice a n cap)) := c0
      clear ho hb hbb hbs h64 he h hg hn hN hle hz c0
      go_enter Tryz.func17, Tryz.ntmps17
      go_wp2_with fail
      refine hR1.mono ?_
      rintro e w1 ⟨rfl, rfl⟩
      clear hR1
      go_wp2_with fail
      refine (HO _).mono ?_
      rintro e w2 ⟨rfl, hb2⟩
      have HB2 : Hid (Below w1.heap.size w1 w2) := hb2
      have c2 := (hb2.cell (p := ⟨rd, 0, none⟩) (World.block_lt_of_cell? w1 _ HR.out)).trans HR.out
      clear hb2
      go_wp2_with fail
      refine (hS _).mono ?_
      rintro e w3 ⟨rfl, rfl⟩
      go_wp2
      go_ret3
      exact ⟨.inl ⟨by rw [HE.out]; decide, by rw [HE.out]; rfl⟩, HB2.out⟩
    · have hz0 : ((N : Int) == 0) = false := by rw [beq_eq_false_iff_ne]; omega
      obtain ⟨t, ht⟩ : ∃ t, t = Crc.headB b := ⟨_, rfl⟩
      have ts : t.size = 60 := by rw [ht]; exact Pg.head_size hbs
      have tsi : (t.size : Int) = 60 := by omega
      obtain ⟨u, hu⟩ : ∃ u, u = t.extract 4 12 := ⟨_, rfl⟩
      have hu8 : u.size = 8 := by rw [hu, ByteArray.size_extract, ts]; rfl
      have hD := rdec13 u hu8
      have htold : (Pk.dec u.data.toList [8]).getD 0 0 = Ri.told b := by unfold Ri.told; rw [← ht, ← hu]
      rw [htold] at hD
      obtain ⟨l0, hl0⟩ : ∃ l0, l0 = Ri.told b := ⟨_, rfl⟩
      have hl0b : l0 < 18446744073709551616 := by rw [hl0]; exact Pg.dec8_lt _
      rw [← hl0] at hD
      have hMk := fun W => rMark_any l0 hl0b W
      have hne : b ≠ Ri.markB l0 := fun e => hb ⟨by unfold Ri.isMark; rw [ho, ← hl0, decide_eq_true e]; rfl, by omega⟩
      have htx := Pg.tx_eq b (Ri.markB l0)
      rw [decide_eq_false hne] at htx
      obtain ⟨mk, hmk⟩ : ∃ mk, mk = Ri.markB l0 := ⟨_, rfl⟩
      rw [← hmk] at htx hMk
      rw [← ht] at HO
      have HR : Hid (w.cell? ⟨rd, 0, none⟩ = some (.slice a n cap)) := c0
      have HD : Hid _ := hD
      have hu' := hu.symm
      clear ho hb hbb hbs h64 he h hg hn hN hle hz c0 ht htold hl0 hne hmk hD hu ts
      go_enter Tryz.func17, Tryz.ntmps17
      go_wp2_with fail
      refine hR1.mono ?_
      rintro e w1 ⟨rfl, rfl⟩
      clear hR1
      go_wp2_with fail
      refine (HO _).mono ?_
      rintro e w2 ⟨rfl, hb2⟩
      have HB2 : Hid (Below w1.heap.size w1 w2) := hb2
      have c2 := (hb2.cell (p := ⟨rd, 0, none⟩) (World.block_lt_of_cell? w1 _ HR.out)).trans HR.out
      clear hb2
      go_wp2_with fail
      refine (hS _).mono ?_
      rintro e w3 ⟨rfl, rfl⟩
      clear c2
      go_wp2_with fail
      refine (HD.out _ _ _ (RowI.new .i64 _ [8] _ _ rfl)).mono ?_
      rintro e w4 ⟨al, cl, rfl, hR4, hb4⟩
      obtain ⟨b1, o1, rfl, r0⟩ := hR4 0 (by decide)
      rw [Nat.add_zero] at r0
      have HB4 : Hid (Below w1.heap.size w1 w4) := below2 HB2.out (((Below.refl _ _).alloc (Nat.le_refl _) _).trans (hb4.mono (by simp)))
      clear hR4 hb4
      go_wp2_with fail
      refine (hMk _).mono ?_
      rintro e w5 ⟨rfl, hb5⟩
      have HB5 : Hid (Below w1.heap.size w1 w5) := below2 HB4.out hb5
      clear hb5 r0
      go_wp2
      go_ret3
      exact ⟨.inl ⟨by rw [HE.out]; decide, by rw [HE.out]; rfl⟩, HB5.out⟩
end
end Go.Proofs.YtjmeiifogblmoaaGreatDoor

namespace Go.Proofs.YtjmeiifogblmoaaGreatDoor
open Go.RowKit

theorem info_rec12 : (Tryz.prog.info? 74).map (fun i => (i.zero, i.size, i.bytes)) = some (some (.agg #[.int .u64 0, .int .i64 0, .slice none 0 0]), 3, 40) := by kernel_rfl
/-- the address of the record k more -/
def with2 (A : Nat → Option Addr × Nat) (k : Nat) (x : Option Addr × Nat) : Nat → Option Addr × Nat := fun j => if j = k then x else A j
theorem with2_same (A : Nat → Option Addr × Nat) (k : Nat) (x : Option Addr × Nat) : with2 A k x k = x := if_pos rfl
theorem with2_other (A : Nat → Option Addr × Nat) {k j : Nat} (x : Option Addr × Nat) (h : j ≠ k) : with2 A k x j = A j := if_neg h
theorem vals3_with2 (A : Nat → Option Addr × Nat) (R : Nat → RecT) (k : Nat) (x : Option Addr × Nat) : vals3 (rec3 (with2 A k x) R) k = vals3 (rec3 A R) k := vals3_congr fun j hj => by unfold rec3; rw [with2_other A x (by omega)]
theorem nth_next (t k : Nat) : (Ri.nth t k + 1) % 18446744073709551616 = Ri.nth t (k + 1) := by unfold Ri.nth Ri.top; omega
/-- the records found so far lie apart from the row that names them -/
def Apart3 (w : World) (base : Nat) (v : Value) (A : Nat → Option Addr × Nat) (R : Nat → RecT) (k : Nat) : Prop :=
  ∀ j, j < k → PartsR w (A j).1 (R j).n (R j).f ∧ ∀ x, (A j).1 = some x → base ≤ x.block ∧ x.block < w.heap.size ∧ v.ownBlock ≠ some x.block
theorem Apart3.grow {base t k cO c' cp g : Nat} {W w8 wa w10 : World} {aO ap : Option Addr} {A : Nat → Option Addr × Nat} {R : Nat → RecT} {xs : List Value}
    (h : Apart3 W base (.slice aO k cO) A R k) (own : W.ownsRow base t 3 (.slice aO k cO) k xs) (hbs : base ≤ W.heap.size) (hb8 : Below W.heap.size W w8)
    (hp : PartsR w8 ap (R k).n (R k).f) (hn : ∀ x, ap = some x → W.heap.size ≤ x.block ∧ x.block < w8.heap.size) (ha : Below w8.heap.size w8 wa)
    (hg : wa.grownBy w10 (Value.slice aO k cO).ownBlock) (hl : (Value.slice aO k cO).ownBlock = some g ∨ g = wa.heap.size) :
    Apart3 w10 base (.slice (some ⟨g, 0, none⟩) (k + 1) c') (with2 A k (ap, cp)) R (k + 1) ∧ Below base W w10 := by
  have hsz := hb8.size
  have hsa := ha.size
  have hs10 := hg.size
  have hlow := own.lt
  have ho := Only.of_grown hg (fun b => (Value.slice aO k cO).ownBlock = some b) (fun _ e => e)
  have hba : Below base W wa := (hb8.mono hbs).trans (ha.mono (by omega))
  have hg' : ∀ y, (Value.slice (some ⟨g, 0, none⟩) (k + 1) c').ownBlock = some y → (Value.slice aO k cO).ownBlock = some y ∨ y = wa.heap.size := fun y e => by
    have e' : g = y := by injection e
    rw [← e']
    exact hl
  refine ⟨fun j hj => ?_, hba.grown hg (by omega) fun y hy => (hlow y hy).1⟩
  by_cases e : j = k
  · subst e
    rw [with2_same]
    refine ⟨(hp.below ha).only ho (fun x hx e => by have := hn x hx; have := hlow _ e; omega), fun x hx => ?_⟩
    have h1 := hn x hx
    refine ⟨by omega, by omega, fun e => ?_⟩
    rcases hg' _ e with e | e
    · have := hlow _ e; omega
    · omega
  · rw [with2_other A _ e]
    have hj' : j < k := by omega
    obtain ⟨h1, h2⟩ := h j hj'
    refine ⟨((h1.below hb8).below ha).only ho (fun x hx => (h2 x hx).2.2), fun x hx => ?_⟩
    have h3 := h2 x hx
    refine ⟨h3.1, by omega, fun e => ?_⟩
    rcases hg' _ e with e | e
    · exact h3.2.2 e
    · omega
theorem Apart3.set {base k : Nat} {w : World} {v : Value} {A : Nat → Option Addr × Nat} {R : Nat → RecT} (h : Apart3 w base v A R k) {a : Addr} (ha : a.block < base) (x : Value) : Apart3 (w.setCell a x) base v A R k := fun j hj => by
  obtain ⟨h1, h2⟩ := h j hj
  refine ⟨h1.only (Only.setCell (fun b => b = a.block) w a x rfl) (fun y hy e => by have := (h2 y hy).1; omega), fun y hy => ?_⟩
  have := h2 y hy
  exact ⟨this.1, by have : (w.setCell a x).heap.size = w.heap.size := by simp [World.setCell]
                    omega, this.2.2⟩
theorem own_next {w : World} {base t k c nk cp m g : Nat} {row : Int} {ap : Option Addr} {A : Nat → Option Addr × Nat} {R : Nat → RecT} {f : Nat → Prt} (hk : R k = ⟨m, row, nk, f⟩)
    (h : w.ownsRow base t 3 (.slice (some ⟨g, 0, none⟩) (k + 1) c) (k + 1) (vals3 (rec3 A R) k ++ [.int .u64 (m : Int), .int .i64 row, .slice ap nk cp])) :
    w.ownsRow base t 3 (.slice (some ⟨g, 0, none⟩) (k + 1) c) (k + 1) (vals3 (rec3 (with2 A k (ap, cp)) R) (k + 1)) := by
  rw [vals3, vals3_congr (g := rec3 (with2 A k (ap, cp)) R) (g' := rec3 A R) (fun j hj => by unfold rec3; rw [with2_other A _ (by omega)])]
  unfold rec3
  rw [with2_same, hk]
  exact h
theorem PartsR.lt {w : World} {a : Option Addr} {n : Nat} {f : Nat → Prt} (h : PartsR w a n f) (hn : 1 ≤ n) : ∀ x, a = some x → x.block < w.heap.size := fun x hx => by
  obtain ⟨b, off, ha, hp⟩ := h 0 (by omega)
  rw [ha] at hx
  injection hx with hx
  rw [← hx]
  exact hp.lt
theorem RRing.stored {w : World} {rr rd t c m : Nat} (h : RRing w rr rd t c) (hm : m = Ri.nth t (c + 1 + 1)) : RRing (w.setCell ⟨rr, 2, none⟩ (.int .u64 (m : Int))) rr rd t (c + 1) := by
  unfold RRing at h ⊢
  rw [hm]
  exact heap_setCell_same w rr 2 _ _ _ h
section
variable {w : World} {rd : Nat} {D : Dr} {G : Nat → Prop}
set_option maxRecDepth 100000 in
set_option maxHeartbeats 8000000 in
theorem rOpen_yes (h : RefAt w rd D G) (hg : D.goes = false) (he : D.readE (3 : Nat) = 0) (hm : Ri.isMark (Ri.markAt D) = true) (hs : 0 < Ri.slots D.safe.length) : Calls Tryz.prog 17 #[.pointer (some ⟨rd, 0, none⟩)] w (ROpenAns w rd D) := by
  have HE : Hid (Ri.openE D = 0) := by show _ = _; unfold Ri.openE; rw [if_pos he, if_pos ⟨hm, hs⟩]
  have hR1 := rRead_any h hg (3 : Nat)
  have h64 := readS_full h he
  obtain ⟨a, cap, c0⟩ := h.sectors
  have hle := h.ok.le
  have HRd : Hid (∀ (W : World) (m : Nat), RefAt W rd D G → m < 18446744073709551616 → Calls Tryz.prog 56 #[.pointer (some ⟨rd, 0, none⟩), .int .u64 (m : Int)] W (RecAns W D m)) := fun W m hW hm => rread_any hW hg hs m hm
  have H : Hid (RefAt w rd D G) := h
  obtain ⟨b, hbb⟩ : ∃ b, b = Ri.markAt D := ⟨_, rfl⟩
  have hbs : b.size = 64 := by rw [hbb]; exact h64
  rw [he, show txt (D.readS (3 : Nat)) = b from hbb.symm] at hR1
  rw [← hbb] at hm
  obtain ⟨n, hn⟩ : ∃ n, n = D.safe.length := ⟨_, rfl⟩
  have HNn : Hid (n = D.safe.length) := hn
  rw [← hn] at c0 hle hs
  have hS := fun W => rSlots_any n (by omega) W
  obtain ⟨N, hN⟩ : ∃ N, N = Ri.slots n := ⟨_, rfl⟩
  have HNN : Hid (N = Ri.slots n) := hN
  have hN100 : N ≤ 100 := by rw [hN]; unfold Ri.slots; omega
  rw [← hN] at hS hs
  have hz0 : ((N : Int) == 0) = false := by rw [beq_eq_false_iff_ne]; omega
  have ho : Crc.opens b.data.toList = true := by unfold Ri.isMark at hm; rw [Bool.and_eq_true] at hm; exact hm.1
  have hbm : b = Ri.markB (Ri.told b) := by unfold Ri.isMark at hm; rw [Bool.and_eq_true, decide_eq_true_iff] at hm; exact hm.2
  have HO := fun W => refOpen_yes b (by omega) ho W
  obtain ⟨t, ht⟩ : ∃ t, t = Crc.headB b := ⟨_, rfl⟩
  have ts : t.size = 60 := by rw [ht]; exact Pg.head_size hbs
  have tsi : (t.size : Int) = 60 := by omega
  obtain ⟨u, hu⟩ : ∃ u, u = t.extract 4 12 := ⟨_, rfl⟩
  have hu8 : u.size = 8 := by rw [hu, ByteArray.size_extract, ts]; rfl
  have hD := rdec13 u hu8
  have htold : (Pk.dec u.data.toList [8]).getD 0 0 = Ri.told b := by unfold Ri.told; rw [← ht, ← hu]
  rw [htold] at hD
  obtain ⟨l0, hl0⟩ : ∃ l0, l0 = Ri.told b := ⟨_, rfl⟩
  have hl0b : l0 < 18446744073709551616 := by rw [hl0]; exact Pg.dec8_lt _
  have HL0 : Hid (Ri.openT D = l0) := by show _ = _; unfold Ri.openT; rw [← hbb, hl0]
  rw [← hl0] at hD hbm
  have hMk := fun W => rMark_any l0 hl0b W
  have htx := Pg.tx_eq b (Ri.markB l0)
  rw [decide_eq_true hbm] at htx
  obtain ⟨mk, hmk⟩ : ∃ mk, mk = Ri.markB l0 := ⟨_, rfl⟩
  rw [← hmk] at htx hMk
  rw [← ht] at HO
  have HR : Hid (w.cell? ⟨rd, 0, none⟩ = some (.slice a n cap)) := c0
  have HD : Hid _ := hD
  have hu' := hu.symm
  obtain ⟨s1, hs1⟩ : ∃ s1, s1 = Ri.nth l0 1 := ⟨_, rfl⟩
  have hw1 : IntKind.u64.wrap ((l0 : Int) + 1) = (s1 : Int) := by
    rw [IntKind.wrap_u64, hs1]; unfold Ri.nth Ri.top; omega
  have HS1 : Hid (s1 = Ri.nth l0 (0 + 1)) := hs1
  obtain ⟨i0, hi, hz0', hz1, hz2⟩ := info_parts info_rec12
  clear ho hbb hbs h64 he h hg hn hN hle hs c0 ht htold hl0 hmk hD hu ts hm hbm hs1
  go_enter Tryz.func17, Tryz.ntmps17
  go_wp2_with fail
  refine hR1.mono ?_
  rintro e w1 ⟨rfl, rfl⟩
  clear hR1
  go_wp2_with fail
  refine (HO _).mono ?_
  rintro e w2 ⟨rfl, hb2⟩
  have HB2 : Hid (Below w1.heap.size w1 w2) := hb2
  have c2 := (hb2.cell (p := ⟨rd, 0, none⟩) (World.block_lt_of_cell? w1 _ HR.out)).trans HR.out
  clear hb2
  go_wp2_with fail
  refine (hS _).mono ?_
  rintro e w3 ⟨rfl, rfl⟩
  clear c2
  go_wp2_with fail
  refine (HD.out _ _ _ (RowI.new .i64 _ [8] _ _ rfl)).mono ?_
  rintro e w4 ⟨al, cl, rfl, hR4, hb4⟩
  obtain ⟨b1, o1, rfl, r0⟩ := hR4 0 (by decide)
  rw [Nat.add_zero] at r0
  have HB4 : Hid (Below w1.heap.size w1 w4) := below2 HB2.out (((Below.refl _ _).alloc (Nat.le_refl _) _).trans (hb4.mono (by simp)))
  have R0 : Hid (w4.cell? ⟨b1, o1, none⟩ = some (.int .u64 (l0 : Int))) := r0
  clear hR4 hb4
  go_wp2_with fail
  refine (hMk _).mono ?_
  rintro e w5 ⟨rfl, hb5⟩
  have HB5 : Hid (Below w1.heap.size w1 w5) := below2 HB4.out hb5
  have hbl4 := World.block_lt_of_cell? w4 _ R0.out
  have r5 := (hb5.cell (p := ⟨b1, o1, none⟩) hbl4).trans R0.out
  have hbl : b1 < w5.heap.size := Nat.lt_of_lt_of_le hbl4 hb5.size
  clear hb5 r0 hbl4
  go_wp2_with fail
  go_region
  obtain ⟨w6, hw6⟩ : ∃ w6, w6 = (w5.alloc (.cells #[.pointer (some ⟨rd, 0, none⟩), .int .u64 (l0 : Int), .int .u64 (s1 : Int)] 65)).drew := ⟨_, rfl⟩
  obtain ⟨rr, hrr⟩ : ∃ rr, rr = w5.heap.size := ⟨_, rfl⟩
  have hn6 : w6.heap[rr]? = some (.cells #[.pointer (some ⟨rd, 0, none⟩), .int .u64 (l0 : Int), .int .u64 (s1 : Int)] 65 (0, 0)) := by rw [hw6, hrr]; exact heap_alloc_new w5 _
  have hr6 : RRing w6 rr rd l0 0 := by unfold RRing; rw [← HS1.out]; exact hn6
  have b6 : Below w5.heap.size w5 w6 := by rw [hw6]; exact ((Below.refl _ w5).alloc (Nat.le_refl _) _).drew
  have HB6 : Hid (Below w1.heap.size w1 w6) := below2 HB5.out b6
  have HR6 : Hid (RRing w6 rr rd l0 0) := hr6
  have HLt : Hid (w1.heap.size ≤ rr ∧ rr < w6.heap.size) := ⟨by rw [hrr]; exact HB5.out.size, hr6.lt⟩
  rw [← hw6, ← hrr]
  clear hn6 hr6 b6 hw6 hrr r5 hbl
  go_wp2
  go_loopg [12, 14] N (fun gg v u14 wr => ∃ (k : Nat) (u : Value) (A : Nat → Option Addr × Nat), k ≤ N ∧ gg = N - k ∧ u = v ∧ wr.ownsRow w6.heap.size 74 3 u k (vals3 (rec3 A (fun j => Ri.recT D (Ri.nth l0 (j + 1)))) k) ∧ Apart3 wr w6.heap.size u A (fun j => Ri.recT D (Ri.nth l0 (j + 1))) k ∧ RRing wr rr rd l0 k ∧ Only (fun x => x = rr) w6 wr ∧ ∀ j, j < k → Ri.isRec D (Ri.nth l0 (j + 1)) = true)
  case atStart =>
    refine ⟨0, _, fun _ => (none, 0), Nat.zero_le _, rfl, rfl, ?_, fun j hj => absurd hj (Nat.not_lt_zero _), HR6.out.below ((Below.refl _ w6).alloc (Nat.le_refl _) _), Only.alloc _ _ _, fun j hj => absurd hj (Nat.not_lt_zero _)⟩
    exact World.ownsRow_lit (base := w6.heap.size) (e := 74) (size := 3) w6 #[] 0 (Nat.le_refl _) (by decide) rfl
  case round =>
  obtain ⟨k, u, A, hk, rfl, rfl, hown, hA, hring, ho, hrec⟩ := hrel
  obtain ⟨aO, cO, rfl, hrecs, _, _⟩ := RecsR.of_owns hown (fun j hj => (hA j hj).1)
  have OWN : Hid (wr.ownsRow w6.heap.size 74 3 (.slice aO k cO) k (vals3 (rec3 A (fun j => Ri.recT D (Ri.nth l0 (j + 1)))) k)) := hown
  have HA : Hid (Apart3 wr w6.heap.size (.slice aO k cO) A (fun j => Ri.recT D (Ri.nth l0 (j + 1))) k) := hA
  have HRi : Hid (RRing wr rr rd l0 k) := hring
  have HOn : Hid (Only (fun x => x = rr) w6 wr) := ho
  have HRec : Hid (∀ j, j < k → Ri.isRec D (Ri.nth l0 (j + 1)) = true) := hrec
  have HRs : Hid (RecsR wr aO k (fun j => Ri.recT D (Ri.nth l0 (j + 1)))) := hrecs
  have HBr : Hid (Below w1.heap.size w1 wr) := HB6.out.trans (ho.below (fun x hx => by rw [hx]; exact HLt.out.1) HB6.out.size)
  have hsz := ho.size
  have c2 := (HBr.out.cell (p := ⟨rd, 0, none⟩) (World.block_lt_of_cell? w1 _ HR.out)).trans HR.out
  clear hown hA ho hrec hrecs
  by_cases hlt : k < N
  case neg =>
    have hkn : k = N := by omega
    have HC : Hid (Ri.openC D = k) := by
      show _ = _
      unfold Ri.openC
      rw [HL0.out, ← HNn.out, ← HNN.out]
      exact Ri.cnt_is HRec.out (by omega) (fun hh => by omega)
    clear hlt hk hring
    subst hkn
    go_wp2_with fail
    refine (hS _).mono ?_
    rintro e w7 ⟨rfl, rfl⟩
    clear c2
    go_wp2
    go_ret3
    refine ⟨.inr ⟨HE.out, rr, aO, cO, ?_, ?_, HLt.out.1, ?_⟩, HBr.out⟩
    · rw [HC.out]; rfl
    · rw [HC.out, HL0.out]; exact HRi.out
    · rw [HC.out, HL0.out]; exact HRs.out
  case pos =>
  have hki : (k : Int) < (N : Int) := by omega
  obtain ⟨m, hmm⟩ : ∃ m, m = Ri.nth l0 (k + 1) := ⟨_, rfl⟩
  have hml : m < 18446744073709551616 := by rw [hmm]; exact Ri.nth_lt _ _
  have hread := HRd.out wr m (H.out.below HBr.out) hml
  unfold RecAns at hread
  have hz2c : wr.cell? ⟨rr, 2, none⟩ = some (.int .u64 (m : Int)) := by rw [cell_of_row wr rr 2 _ _ _ hring, hmm]; rfl
  have HM : Hid (m = Ri.nth l0 (k + 1)) := hmm
  clear hmm hring
  cases hir : Ri.isRec D m with
  | false =>
    rw [hir] at hread
    have HC : Hid (Ri.openC D = k) := by
      show _ = _
      unfold Ri.openC
      rw [HL0.out, ← HNn.out, ← HNN.out]
      exact Ri.cnt_is HRec.out (by omega) (fun _ => by rw [← HM.out]; exact hir)
    clear hir
    go_wp2_with fail
    refine (hS _).mono ?_
    rintro e w7 ⟨rfl, rfl⟩
    clear c2
    go_wp2_with fail
    refine hread.mono ?_
    rintro e w8 ⟨q, r, ap, np, cp, rfl, _, hb8⟩
    have HB8 : Hid (Below w1.heap.size w1 w8) := below2 HBr.out hb8
    have HRi8 : Hid (RRing w8 rr rd l0 k) := HRi.out.below hb8
    have HRs8 : Hid (RecsR w8 aO k (fun j => Ri.recT D (Ri.nth l0 (j + 1)))) := HRs.out.below hb8
    clear hb8 hz2c hread
    go_wp2
    go_ret3
    refine ⟨.inr ⟨HE.out, rr, aO, cO, ?_, ?_, HLt.out.1, ?_⟩, HB8.out.alloc HB8.out.size _⟩
    · rw [HC.out]; rfl
    · rw [HC.out, HL0.out]; exact HRi8.out.below ((Below.refl _ _).alloc (Nat.le_refl _) _)
    · rw [HC.out, HL0.out]; exact HRs8.out.below ((Below.refl _ _).alloc (Nat.le_refl _) _)
  | true =>
    rw [hir] at hread
    obtain ⟨rwk, hrwk⟩ : ∃ rwk, rwk = Ri.recRow D m := ⟨_, rfl⟩
    obtain ⟨nk, hnk⟩ : ∃ nk, nk = Ri.recN D m := ⟨_, rfl⟩
    have HRk : Hid ((fun j => Ri.recT D (Ri.nth l0 (j + 1))) k = ⟨m, (rwk : Nat), nk, Ri.recP D m⟩) := by
      show _ = _
      dsimp only
      rw [← HM.out, hrwk, hnk]; rfl
    have HHp := (Ri.isRec_iff D m).1 hir
    have hhp := Rc.head_places HHp.2.1
    have hrl : rwk < 256 := by rw [hrwk]; exact hhp.2.2.1
    have hnl : 1 ≤ nk ∧ nk ≤ 40 := by rw [hnk]; exact ⟨hhp.2.2.2.1, hhp.2.2.2.2.1⟩
    have HT : Hid (Calls Tryz.prog 56 #[.pointer (some ⟨rd, 0, none⟩), .int .u64 (m : Int)] wr fun e w' => ∃ (ap : Option Addr) (cp : Nat), e = .returned (.tuple #[.agg #[.int .u64 (m : Int), .int .i64 (rwk : Int), .slice ap nk cp], .bool true]) ∧ PartsR w' ap nk (Ri.recP D m) ∧ (∀ x, ap = some x → wr.heap.size ≤ x.block) ∧ Below wr.heap.size wr w') := hread.mono fun e w' ⟨q, r, ap, np, cp, he, hok, hb⟩ => by
      obtain ⟨rfl, rfl, rfl, hp, hnw⟩ := hok rfl
      rw [hrwk, hnk]
      exact ⟨ap, cp, he, hp, hnw, hb⟩
    have HRec2 : Hid (∀ j, j < k + 1 → Ri.isRec D (Ri.nth l0 (j + 1)) = true) := fun j hj => by
      by_cases e : j = k
      · rw [e, ← HM.out]; exact hir
      · exact HRec.out j (by omega)
    obtain ⟨m2, hm2⟩ : ∃ m2, m2 = Ri.nth l0 (k + 2) := ⟨_, rfl⟩
    have hw2 : IntKind.u64.wrap ((m : Int) + 1) = (m2 : Int) := by
      rw [IntKind.wrap_u64, HM.out, hm2, ← nth_next l0 (k + 1)]; omega
    have HM2 : Hid (m2 = Ri.nth l0 (k + 1 + 1)) := hm2
    clear hir hrwk hnk HHp hhp hread hm2
    go_wp2_with fail
    refine (hS _).mono ?_
    rintro e w7 ⟨rfl, rfl⟩
    clear c2
    go_wp2_with fail
    refine HT.out.mono ?_
    rintro e w8 ⟨ap, cp, rfl, hp8, hnw8, hb8⟩
    have HB8 : Hid (Below w7.heap.size w7 w8) := hb8
    have HRi8 : Hid (RRing w8 rr rd l0 k) := HRi.out.below hb8
    have OWN8 : Hid (w8.ownsRow w6.heap.size 74 3 (.slice aO k cO) k (vals3 (rec3 A (fun j => Ri.recT D (Ri.nth l0 (j + 1)))) k)) := ownsRow_below OWN.out hb8
    have HP8 : Hid (PartsR w8 ap nk (Ri.recP D m)) := hp8
    have HNw8 : Hid (∀ x, ap = some x → w7.heap.size ≤ x.block) := hnw8
    clear hb8 hp8 hnw8 hz2c
    have HNx8 : Hid (∀ x, ap = some x → w7.heap.size ≤ x.block ∧ x.block < w8.heap.size) := fun x hx => ⟨HNw8.out x hx, HP8.out.lt hnl.1 x hx⟩
    have HPp8 : Hid (PartsR w8 ap ((fun j => Ri.recT D (Ri.nth l0 (j + 1))) k).n ((fun j => Ri.recT D (Ri.nth l0 (j + 1))) k).f) := by
      show PartsR _ _ _ _
      have := HRk.out
      dsimp only at this ⊢
      rw [this]
      exact HP8.out
    clear hlt
    go_upto_region 16 with fail
    obtain ⟨w9, hw9⟩ : ∃ w9, w9 = w8.alloc (.cells #[.int .u64 (m : Int), .int .i64 (rwk : Int), .slice ap nk cp] 74) := ⟨_, rfl⟩
    obtain ⟨xb, hxb⟩ : ∃ xb, xb = w8.heap.size := ⟨_, rfl⟩
    have hx9 : BoxAt w9 xb (.int .u64 (m : Int)) (.int .i64 (rwk : Int)) (.slice ap nk cp) := by rw [hw9, hxb]; exact BoxAt.new w8 _ _ _ _
    have b9 : Below w8.heap.size w8 w9 := by rw [hw9]; exact (Below.refl _ w8).alloc (Nat.le_refl _) _
    have HB9 : Hid (Below w8.heap.size w8 w9) := b9
    have OWN9 : Hid (w9.ownsRow w6.heap.size 74 3 (.slice aO k cO) k (vals3 (rec3 A (fun j => Ri.recT D (Ri.nth l0 (j + 1)))) k)) := ownsRow_below OWN8.out b9
    have HRi9 : Hid (RRing w9 rr rd l0 k) := HRi8.out.below b9
    have hs9 : w6.heap.size ≤ w9.heap.size := Nat.le_trans hsz (Nat.le_trans HB8.out.size b9.size)
    have hlx := hx9.lt
    obtain ⟨k0, k1, k2, f0, f1, f2⟩ := hx9
    rw [← hw9, ← hxb]
    clear b9 hw9 hxb
    have t1 : True := trivial
    go_wp2_with (first | (at_builtin; go_loud (have _t := t1; refine wpList_append_lies _ rfl _ _ 39 rfl w6.heap.size 74 i0 (.agg #[.int .u64 0, .int .i64 0, .slice none 0 0]) 3 40 Tryz.underlying39 hi hz0' hz1 hz2 rfl (by decide) (.slice aO k cO) k (vals3 (rec3 A (fun j => Ri.recT D (Ri.nth l0 (j + 1)))) k) rfl (OWN9.out.alloc _) ⟨_, 0, none⟩ 1 1 [.int .u64 (m : Int), .int .i64 (rwk : Int), .slice ap nk cp] rfl rfl (news3 _ _ _ _ _) (by simp [Value.oneCell']) (by decide) (by unfold maxLen; omega) (by omega) (by simp; omega) _ rfl ?_; intro g c' w10 hown' hgrow hlies hglt; obtain ⟨hap10, hb10⟩ := HA.out.grow (c' := c') OWN.out hsz HB8.out HPp8.out HNx8.out (HB9.out.alloc HB9.out.size _) hgrow hlies; have HA10 : Hid (Apart3 w10 w6.heap.size (.slice (some ⟨g, 0, none⟩) (k + 1) c') (with2 A k (ap, cp)) (fun j => Ri.recT D (Ri.nth l0 (j + 1))) (k + 1)) := hap10; have OWN10 : Hid (w10.ownsRow w6.heap.size 74 3 (.slice (some ⟨g, 0, none⟩) (k + 1) c') (k + 1) (vals3 (rec3 (with2 A k (ap, cp)) (fun j => Ri.recT D (Ri.nth l0 (j + 1)))) (k + 1))) := own_next HRk.out hown'; have hr10 : RRing w10 rr rd l0 k := (hb10.block rr HLt.out.2).trans HRi.out; have HRi10 : Hid (RRing w10 rr rd l0 k) := hr10; have HOn10 : Hid (Only (fun x => x = rr) w6 w10) := only_low HOn.out (hb10.mono (Nat.le_refl _)); have m10 : w10.cell? ⟨rr, 2, none⟩ = some (.int .u64 (m : Int)) := (by rw [cell_of_row w10 rr 2 _ _ _ hr10, HM.out]; rfl); have fz10 := frozen_of_row w10 rr 2 _ _ hr10; have hl10 := hr10.lt; clear hown' hgrow hlies hap10 hr10 hb10 t1 k0 k1 k2 f0 f1 f2)))
    go_roundg (N - (k + 1))
    case measure => omega
    case rel => exact ⟨k + 1, _, with2 A k (ap, cp), by omega, rfl, rfl, own_set OWN10.out HLt.out.2 _, HA10.out.set HLt.out.2 _, HRi10.out.stored HM2.out, HOn10.out.then (Only.setCell _ _ _ _ rfl), HRec2.out⟩
/-- the document's own Open -/
theorem rOpen_any (h : RefAt w rd D G) (hg : D.goes = false) : Calls Tryz.prog 17 #[.pointer (some ⟨rd, 0, none⟩)] w (ROpenAns w rd D) := by
  by_cases he : D.readE (3 : Nat) = 0
  · by_cases hb : Ri.isMark (Ri.markAt D) = true ∧ 0 < Ri.slots D.safe.length
    · exact rOpen_yes h hg he hb.1 hb.2
    · exact rOpen_bad h hg he hb
  · exact rOpen_err h hg he
end
end Go.Proofs.YtjmeiifogblmoaaGreatDoor

namespace Go.Proofs.YtjmeiifogblmoaaGreatDoor
open Go.RowKit

section
variable {w : World} {rd : Nat} {D : Dr} {G : Nat → Prop}
theorem pair0 {x : Nat × Dr} (h : x.1 = 0) : x = (0, x.2) := by rw [← h]
set_option maxRecDepth 100000 in
set_option maxHeartbeats 1000000 in
theorem rFormat_arg (h : RefAt w rd D G) (hs : Ri.slots D.safe.length = 0) : Calls Tryz.prog 13 #[.pointer (some ⟨rd, 0, none⟩)] w fun e w' => e = .returned (.int .i64 ((Ri.formatS D).1 : Nat)) ∧ REnd w w' rd (Ri.formatS D).2 G := by
  obtain ⟨a, cap, c0⟩ := h.sectors
  have hle := h.ok.le
  have hf : Ri.formatS D = (1, D) := if_pos hs
  rw [hf]
  obtain ⟨n, hn⟩ : ∃ n, n = D.safe.length := ⟨_, rfl⟩
  rw [← hn] at c0 hs hle
  have hS := fun W => rSlots_any n (by omega) W
  rw [hs] at hS
  have H : Hid (RefAt w rd D G) := h
  clear h hn hf hs
  go_enter Tryz.func13, Tryz.ntmps13
  go_wp2_with fail
  refine (hS _).mono ?_
  rintro e w1 ⟨rfl, rfl⟩
  go_wp2
  go_ret
  exact ⟨rfl, REnd.of_same H.out (Only.refl _ _)⟩
set_option maxRecDepth 100000 in
set_option maxHeartbeats 4000000 in
theorem rFormat_yes (h : RefAt w rd D G) (hg : D.goes = false) (hf : D.Few 900000) (hs : 0 < Ri.slots D.safe.length) : Calls Tryz.prog 13 #[.pointer (some ⟨rd, 0, none⟩)] w fun e w' => e = .returned (.int .i64 ((Ri.formatS D).1 : Nat)) ∧ REnd w w' rd (Ri.formatS D).2 G := by
  obtain ⟨a, cap, c0⟩ := h.sectors
  have hle := h.ok.le
  obtain ⟨n, hn⟩ : ∃ n, n = D.safe.length := ⟨_, rfl⟩
  have HNl : Hid (n = D.safe.length) := hn
  rw [← hn] at c0 hle
  have hS := fun W => rSlots_any n (by omega) W
  obtain ⟨N, hN⟩ : ∃ N, N = Ri.slots n := ⟨_, rfl⟩
  have hN1 : N ≤ 100 := by rw [hN]; unfold Ri.slots; omega
  rw [← hN] at hS
  have HFm : Hid (Ri.formatS D = Dr.fl1 (Dr.wr1 (Dr.wrTo (0, D) (fun i => 4 + 41 * i) (fun _ => List.replicate 64 0) N) 3 (Ri.markB 0).data.toList)) := by
    show _ = _
    unfold Ri.formatS
    rw [if_neg (by omega), ← hn, ← hN]
  have hs0 : ((N : Int) == 0) = false := by rw [← hn, ← hN] at hs; rw [beq_eq_false_iff_ne]; omega
  have hS2 : Hid _ := hS
  have H : Hid (RefAt w rd D G) := h
  have HG : Hid (D.goes = false) := hg
  have HF : Hid (D.Few 900000) := hf
  have hbl := blank_any
  obtain ⟨bk, ebk⟩ : ∃ bk, bk = blankB := ⟨_, rfl⟩
  rw [← ebk] at hbl
  have HBk : Hid (bk.size = 64 ∧ bk.data.toList = List.replicate 64 0) := ⟨by rw [ebk]; exact blank_size, by rw [ebk]; rfl⟩
  have HMs : Hid (∀ W, Calls Tryz.prog 47 #[.int .u64 0] W fun e w' => e = .returned (.string (Ri.markB 0)) ∧ Below W.heap.size W w') := fun W => rMark_any 0 (by decide) W
  have HMz : Hid ((Ri.markB 0).size = 64) := Ri.markB_size (by decide)
  obtain ⟨mk, emk⟩ : ∃ mk, mk = Ri.markB 0 := ⟨_, rfl⟩
  rw [← emk] at HMs HMz HFm
  have HKp : Hid (∀ k, (Dr.wrTo (0, D) (fun i => 4 + 41 * i) (fun _ => List.replicate 64 0) k).2.safe.length = n ∧ (Dr.wrTo (0, D) (fun i => 4 + 41 * i) (fun _ => List.replicate 64 0) k).2.goes = false) := fun k => by
    obtain ⟨e1, _, e3⟩ := Dr.wrTo_keeps (0, D) (fun i => 4 + 41 * i) (fun _ => List.replicate 64 0) k
    exact ⟨by rw [e1, hn], by rw [e3]; exact hg⟩
  clear h hn hN hs hg hf ebk emk hS
  go_enter Tryz.func13, Tryz.ntmps13
  go_wp2_with fail
  refine (hS2.out _).mono ?_
  rintro e w1 ⟨rfl, rfl⟩
  clear c0
  go_wp2
  go_loopg [3, 4] N (fun gg i e wr => ∃ k : Nat, k ≤ N ∧ gg = N - k ∧ i = .int .i64 (k : Int) ∧ (Dr.wrTo (0, D) (fun i => 4 + 41 * i) (fun _ => List.replicate 64 0) k).1 = 0 ∧ REnd w1 wr rd (Dr.wrTo (0, D) (fun i => 4 + 41 * i) (fun _ => List.replicate 64 0) k).2 G)
  case atStart => exact ⟨0, Nat.zero_le _, rfl, rfl, rfl, REnd.of_same H.out (Only.refl _ _)⟩
  case round =>
  obtain ⟨k, hk, rfl, rfl, hx0, hre⟩ := hrel
  have HX0 : Hid _ := hx0
  have HRe : Hid (REnd w1 wr rd (Dr.wrTo (0, D) (fun i => 4 + 41 * i) (fun _ => List.replicate 64 0) k).2 G) := hre
  obtain ⟨a2, cap2, c2⟩ := hre.1.sectors
  rw [(HKp.out k).1] at c2
  clear hx0 hre
  by_cases hlt : k < N
  case pos =>
    have hki : (k : Int) < (N : Int) := by omega
    obtain ⟨q, hq⟩ : ∃ q : Nat, q = 4 + 41 * k := ⟨_, rfl⟩
    obtain ⟨r, hr⟩ : ∃ r : Nat, r = 41 * k := ⟨_, rfl⟩
    have hm1 : (41 : Int) * (k : Int) = (r : Int) := by omega
    have hm2 : (4 : Int) + (r : Int) = (q : Int) := by omega
    have hw := rWr1 HRe.out.1 (HKp.out k).2 ((Dr.Few.wrTo (x := (0, D)) HF.out (fun i => 4 + 41 * i) (fun _ => List.replicate 64 0) k).mono (by omega)) q bk HBk.out.1
    have hx := pair0 HX0.out
    have hstep : Dr.wr1 (0, (Dr.wrTo (0, D) (fun i => 4 + 41 * i) (fun _ => List.replicate 64 0) k).2) q bk.data.toList = Dr.wrTo (0, D) (fun i => 4 + 41 * i) (fun _ => List.replicate 64 0) (k + 1) := by
      rw [← hx, HBk.out.2, hq]; rfl
    rw [hstep] at hw
    obtain ⟨ee, hee⟩ : ∃ ee, ee = (Dr.wrTo (0, D) (fun i => 4 + 41 * i) (fun _ => List.replicate 64 0) (k + 1)).1 := ⟨_, rfl⟩
    rw [← hee] at hw
    have HW : Hid _ := hw
    have HEE : Hid (ee = (Dr.wrTo (0, D) (fun i => 4 + 41 * i) (fun _ => List.replicate 64 0) (k + 1)).1) := hee
    clear hw hx hstep hee hq hr
    go_wp2_with fail
    refine (hS2.out _).mono ?_
    rintro e w2 ⟨rfl, rfl⟩
    clear c2
    go_wp2_with fail
    refine (hbl _).mono ?_
    rintro e w3 ⟨rfl, rfl⟩
    go_wp2_with fail
    refine Calls.mono HW.out ?_
    rintro e w4 ⟨rfl, hd4, ho4⟩
    have HR4 : Hid (REnd w1 w4 rd (Dr.wrTo (0, D) (fun i => 4 + 41 * i) (fun _ => List.replicate 64 0) (k + 1)).2 G) := HRe.out.step hd4 ho4
    clear hd4 ho4
    by_cases hz : ee = 0
    · have hz' : ((ee : Int) != 0) = false := by rw [bne_eq_false_iff_eq]; omega
      clear hm1 hm2
      go_wp2
      go_roundg (N - (k + 1))
      case measure => omega
      case rel => exact ⟨k + 1, by omega, rfl, by go_num, by rw [← HEE.out]; exact hz, HR4.out⟩
    · have hz' : ((ee : Int) != 0) = true := by rw [bne_iff_ne]; omega
      have HFin : Hid (Ri.formatS D = Dr.wrTo (0, D) (fun i => 4 + 41 * i) (fun _ => List.replicate 64 0) (k + 1)) := by
        show _ = _
        have hne : (Dr.wrTo (0, D) (fun i => 4 + 41 * i) (fun _ => List.replicate 64 0) (k + 1)).1 ≠ 0 := by rw [← HEE.out]; exact hz
        rw [HFm.out, Dr.wrTo_stuck hne (m := N) (by omega), Dr.wr1_bad hne, Dr.fl1_bad hne]
      clear hm1 hm2 hz
      go_wp2
      go_ret
      refine ⟨by rw [HFin.out, ← HEE.out]; rfl, ?_⟩
      rw [HFin.out]; exact HR4.out
  case neg =>
    have hkn : k = N := by omega
    subst hkn
    have hw := rWr1 HRe.out.1 (HKp.out k).2 ((Dr.Few.wrTo (x := (0, D)) HF.out (fun i => 4 + 41 * i) (fun _ => List.replicate 64 0) k).mono (by omega)) 3 mk HMz.out
    have hx := pair0 HX0.out
    rw [← hx] at hw
    obtain ⟨ee, hee⟩ : ∃ ee, ee = (Dr.wr1 (Dr.wrTo (0, D) (fun i => 4 + 41 * i) (fun _ => List.replicate 64 0) k) 3 mk.data.toList).1 := ⟨_, rfl⟩
    rw [← hee] at hw
    have hRe3 := fun (W : World) (hb : Below wr.heap.size wr W) => rWr1 (HRe.out.1.below hb) (HKp.out k).2 ((Dr.Few.wrTo (x := (0, D)) HF.out (fun i => 4 + 41 * i) (fun _ => List.replicate 64 0) k).mono (by omega)) 3 mk HMz.out
    rw [← hx, ← hee] at hRe3
    have HRe3 : Hid _ := hRe3
    have HEE : Hid (ee = (Dr.wr1 (Dr.wrTo (0, D) (fun i => 4 + 41 * i) (fun _ => List.replicate 64 0) k) 3 mk.data.toList).1) := hee
    clear hw hx hee hlt hk hRe3
    go_wp2_with fail
    refine (hS2.out _).mono ?_
    rintro e w2 ⟨rfl, rfl⟩
    clear c2
    go_wp2_with fail
    refine (HMs.out _).mono ?_
    rintro e w3 ⟨rfl, hb3⟩
    have HR3 : Hid (REnd w1 w3 rd (Dr.wrTo (0, D) (fun i => 4 + 41 * i) (fun _ => List.replicate 64 0) k).2 G) := HRe.out.below hb3
    have hw3 := HRe3.out _ hb3
    clear hb3
    go_wp2_with fail
    refine hw3.mono ?_
    rintro e w4 ⟨rfl, hd4, ho4⟩
    have HR4 : Hid (REnd w1 w4 rd (Dr.wr1 (Dr.wrTo (0, D) (fun i => 4 + 41 * i) (fun _ => List.replicate 64 0) k) 3 mk.data.toList).2 G) := HR3.out.step hd4 ho4
    clear hd4 ho4 hw3
    by_cases hz : ee = 0
    · have hz' : ((ee : Int) != 0) = false := by rw [bne_eq_false_iff_eq]; omega
      have hz2 : (Dr.wr1 (Dr.wrTo (0, D) (fun i => 4 + 41 * i) (fun _ => List.replicate 64 0) k) 3 mk.data.toList).1 = 0 := by rw [← HEE.out]; exact hz
      have hg2 : (Dr.wr1 (Dr.wrTo (0, D) (fun i => 4 + 41 * i) (fun _ => List.replicate 64 0) k) 3 mk.data.toList).2.goes = false := by rw [(Dr.wr1_keeps _ _ _).2.2]; exact (HKp.out k).2
      have hfl := rFl1 HR4.out.1 hg2 (((Dr.Few.wrTo (x := (0, D)) HF.out (fun i => 4 + 41 * i) (fun _ => List.replicate 64 0) k).wr1 _ _).mono (by omega))
      rw [← pair0 hz2, ← HFm.out] at hfl
      clear hz hz2 hg2
      go_wp2_with fail
      refine hfl.mono ?_
      rintro e w5 ⟨rfl, hd5, ho5⟩
      have HR5 : Hid (REnd w1 w5 rd (Ri.formatS D).2 G) := HR4.out.same hd5 ho5
      clear hd5 ho5
      go_wp2
      go_ret
      exact ⟨rfl, HR5.out⟩
    · have hz' : ((ee : Int) != 0) = true := by rw [bne_iff_ne]; omega
      have HFin : Hid (Ri.formatS D = Dr.wr1 (Dr.wrTo (0, D) (fun i => 4 + 41 * i) (fun _ => List.replicate 64 0) k) 3 mk.data.toList) := by
        show _ = _
        rw [HFm.out, Dr.fl1_bad (by rw [← HEE.out]; exact hz)]
      clear hz
      go_wp2
      go_ret
      refine ⟨by rw [HFin.out, ← HEE.out]; rfl, ?_⟩
      rw [HFin.out]; exact HR4.out
/-- the document's own Format -/
theorem rFormat_any (h : RefAt w rd D G) (hg : D.goes = false) (hf : D.Few 900000) : Calls Tryz.prog 13 #[.pointer (some ⟨rd, 0, none⟩)] w fun e w' => e = .returned (.int .i64 ((Ri.formatS D).1 : Nat)) ∧ REnd w w' rd (Ri.formatS D).2 G := by
  by_cases hs : Ri.slots D.safe.length = 0
  · exact rFormat_arg h hs
  · exact rFormat_yes h hg hf (by omega)
end
end Go.Proofs.YtjmeiifogblmoaaGreatDoor

namespace Go.Proofs.YtjmeiifogblmoaaGreatDoor
open Go.RowKit

namespace Ri
theorem nth_ahead {t q : Nat} (ht : t < 18446744073709551616) (hq : q < 18446744073709551616) : nth t (ahead t q) = q := by unfold nth ahead top; omega
theorem nth_after {t q c : Nat} (ht : t < 18446744073709551616) (hq : q < 18446744073709551616) (h : ahead t q ≤ c) : nth q (c - ahead t q + 1) = nth t (c + 1) := by
  have e := nth_ahead ht hq
  unfold nth at e ⊢
  generalize ahead t q = k at *
  unfold top at *
  omega
/-- how many are behind the trimmed number, after a Trim -/
def trimT (D : Dr) (t c q : Nat) : Nat × Nat := if (trimS D t c q).1 = 0 then (q, c - ahead t q) else (t, c)
end Ri
section
variable {w : World} {rd rr t c : Nat} {D : Dr} {G : Nat → Prop}
theorem RRing.cells (h : RRing w rr rd t c) : w.cell? ⟨rr, 0, none⟩ = some (.pointer (some ⟨rd, 0, none⟩)) ∧ w.cell? ⟨rr, 1, none⟩ = some (.int .u64 (t : Int)) ∧ w.cell? ⟨rr, 2, none⟩ = some (.int .u64 (Ri.nth t (c + 1) : Nat)) :=
  ⟨(cell_of_row w rr 0 _ _ _ h).trans rfl, (cell_of_row w rr 1 _ _ _ h).trans rfl, (cell_of_row w rr 2 _ _ _ h).trans rfl⟩
set_option maxRecDepth 100000 in
set_option maxHeartbeats 1000000 in
/-- the document's own Left -/
theorem rLeft_any (h : RefAt w rd D G) (hr : RRing w rr rd t c) (_ht : t < 18446744073709551616) (hc : c ≤ 1000000) : Calls Tryz.prog 34 #[.pointer (some ⟨rr, 0, none⟩)] w fun e w' => e = .returned (.int .i64 ((Ri.slots D.safe.length : Nat) - (c : Nat))) ∧ Below w.heap.size w w' := by
  obtain ⟨a, cap, c0⟩ := h.sectors
  have hle := h.ok.le
  obtain ⟨n, hn⟩ : ∃ n, n = D.safe.length := ⟨_, rfl⟩
  rw [← hn] at c0 hle ⊢
  have hS := fun W => rSlots_any n (by omega) W
  obtain ⟨N, hN⟩ : ∃ N, N = Ri.slots n := ⟨_, rfl⟩
  have hN1 : N ≤ 100 := by rw [hN]; unfold Ri.slots; omega
  rw [← hN] at hS ⊢
  obtain ⟨r0, r1, r2⟩ := hr.cells
  obtain ⟨s, hs⟩ : ∃ s, s = Ri.nth t (c + 1) := ⟨_, rfl⟩
  rw [← hs] at r2
  have hw1 : IntKind.u64.wrap ((s : Int) - (t : Int)) = ((c + 1 : Nat) : Int) := by
    rw [IntKind.wrap_u64, hs]; unfold Ri.nth Ri.top; omega
  obtain ⟨c1, hc1⟩ : ∃ c1, c1 = c + 1 := ⟨_, rfl⟩
  rw [← hc1] at hw1
  have hw2 : IntKind.u64.wrap ((c1 : Int) - 1) = (c : Int) := by rw [IntKind.wrap_u64]; omega
  have hw3 : IntKind.i64.wrap (c : Int) = (c : Int) := by rw [IntKind.wrap_i64]; omega
  have hw4 : IntKind.i64.wrap ((N : Int) - (c : Int)) = (N : Int) - (c : Int) := by rw [IntKind.wrap_i64]; omega
  clear h hn hN hr hs hc1
  go_enter Tryz.func34, Tryz.ntmps34
  go_wp2
  go_quiet ((go_at_call 15; refine Calls.quiet_of_same (hS _)))
  go_wp2
  go_ret
  exact ⟨rfl, below_drewN (Below.refl _ _) _⟩
/-- what Trim leaves -/
def RTrimAns (w : World) (rr rd t c q : Nat) (D : Dr) (G : Nat → Prop) (e : Ending) (w' : World) : Prop :=
  e = .returned (.int .i64 ((Ri.trimS D t c q).1 : Nat)) ∧ RefAt w' rd (Ri.trimS D t c q).2 (Plus G w.heap.size) ∧ RRing w' rr rd (Ri.trimT D t c q).1 (Ri.trimT D t c q).2 ∧ Only (fun x => G x ∨ x = rr) w w'
set_option maxRecDepth 100000 in
set_option maxHeartbeats 2000000 in
theorem rTrim_far (h : RefAt w rd D G) (hr : RRing w rr rd t c) (ht : t < 18446744073709551616) (q : Nat) (hq : q < 18446744073709551616) (hc : c ≤ 1000000) (ha : c < Ri.ahead t q) :
    Calls Tryz.prog 32 #[.pointer (some ⟨rr, 0, none⟩), .int .u64 (q : Int)] w (RTrimAns w rr rd t c q D G) := by
  have HT : Hid (Ri.trimS D t c q = (1, D)) := Ri.trim_far ha
  obtain ⟨r0, r1, r2⟩ := hr.cells
  have H : Hid (RefAt w rd D G ∧ RRing w rr rd t c) := ⟨h, hr⟩
  obtain ⟨s, hs⟩ : ∃ s, s = Ri.nth t (c + 1) := ⟨_, rfl⟩
  rw [← hs] at r2
  have hw1 : IntKind.u64.wrap ((s : Int) - (t : Int)) = ((c + 1 : Nat) : Int) := by
    rw [IntKind.wrap_u64, hs]; unfold Ri.nth Ri.top; omega
  have hw2 : IntKind.u64.wrap ((q : Int) - (t : Int)) = ((Ri.ahead t q : Nat) : Int) := by
    rw [IntKind.wrap_u64]; unfold Ri.ahead Ri.top; omega
  obtain ⟨c1, hc1⟩ : ∃ c1, c1 = c + 1 := ⟨_, rfl⟩
  obtain ⟨k, hk⟩ : ∃ k, k = Ri.ahead t q := ⟨_, rfl⟩
  rw [← hc1] at hw1
  rw [← hk] at hw2 ha
  have hge : (c1 : Int) ≤ (k : Int) := by omega
  clear h hr hs hc1 hk ha ht hq
  go_enter Tryz.func32, Tryz.ntmps32
  go_wp2
  go_quiet (fail)
  go_wp2
  go_ret
  have hT : Ri.trimT D t c q = (t, c) := by unfold Ri.trimT; rw [HT.out]; rfl
  refine ⟨by rw [HT.out]; rfl, ?_, ?_, Only.of_below (below_drewN (Below.refl _ _) _) _⟩
  · rw [HT.out]; exact (H.out.1.below (below_drewN (Below.refl _ _) _)).mono fun _ hk => .inl hk
  · rw [hT]; exact H.out.2.below (below_drewN (Below.refl _ _) _)
theorem Dr.goes_fl1 {x : Nat × Dr} (h : x.2.goes = false) : (Dr.fl1 x).2.goes = false := by rw [(Dr.fl1_keeps x).2.2]; exact h
theorem keep_at {W W' : World} {p : Addr} {u : Value} (hb : Below W.heap.size W W') (h : W.cell? p = some u) : W'.cell? p = some u := (hb.cell (p := p) (World.block_lt_of_cell? W _ h)).trans h
theorem only_ring {w w1 : World} {rr : Nat} {G : Nat → Prop} (h : Only G w w1) : Only (fun x => G x ∨ x = rr) w w1 := h.mono fun _ hk => .inl hk
theorem RRing.trimmed {w : World} {rr rd t c q : Nat} (h : RRing w rr rd t c) (ht : t < 18446744073709551616) (hq : q < 18446744073709551616) (ha : Ri.ahead t q ≤ c) : RRing (w.setCell ⟨rr, 1, none⟩ (.int .u64 (q : Int))) rr rd q (c - Ri.ahead t q) := by
  unfold RRing at h ⊢
  rw [Ri.nth_after ht hq ha]
  exact heap_setCell_same w rr 1 _ _ _ h
theorem RefAt.stored {w : World} {rd : Nat} {D : Dr} {F : Nat → Prop} (h : RefAt w rd D F) {a : Addr} (x : Value) (hn : ¬ F a.block) : RefAt (w.setCell a x) rd D F := h.only (Only.setCell (fun b => b = a.block) w a x rfl) (fun y _ hy e => hn (by rw [← e]; exact hy))
set_option maxRecDepth 100000 in
set_option maxHeartbeats 4000000 in
theorem rTrim_near (h : RefAt w rd D G) (hg : D.goes = false) (hf : D.Few 900000) (hr : RRing w rr rd t c) (hG : ¬ G rr) (ht : t < 18446744073709551616) (q : Nat) (hq : q < 18446744073709551616) (hc : c ≤ 1000000) (ha : Ri.ahead t q ≤ c) :
    Calls Tryz.prog 32 #[.pointer (some ⟨rr, 0, none⟩), .int .u64 (q : Int)] w (RTrimAns w rr rd t c q D G) := by
  have HT : Hid (Ri.trimS D t c q = Dr.fl1 (Dr.wr1 (0, D) 3 (Ri.markB q).data.toList)) := by show _ = _; unfold Ri.trimS; rw [if_pos ha]
  obtain ⟨r0, r1, r2⟩ := hr.cells
  have HR : Hid (RRing w rr rd t c) := hr
  have HRl : Hid (rr < w.heap.size ∧ ¬ Plus G w.heap.size rr) := ⟨hr.lt, fun e => e.elim hG (fun e2 => by have := hr.lt; omega)⟩
  obtain ⟨s, hs⟩ : ∃ s, s = Ri.nth t (c + 1) := ⟨_, rfl⟩
  rw [← hs] at r2
  have hw1 : IntKind.u64.wrap ((s : Int) - (t : Int)) = ((c + 1 : Nat) : Int) := by
    rw [IntKind.wrap_u64, hs]; unfold Ri.nth Ri.top; omega
  have hw2 : IntKind.u64.wrap ((q : Int) - (t : Int)) = ((Ri.ahead t q : Nat) : Int) := by
    rw [IntKind.wrap_u64]; unfold Ri.ahead Ri.top; omega
  obtain ⟨c1, hc1⟩ : ∃ c1, c1 = c + 1 := ⟨_, rfl⟩
  have HA : Hid (t < 18446744073709551616 ∧ q < 18446744073709551616 ∧ Ri.ahead t q ≤ c) := ⟨ht, hq, ha⟩
  obtain ⟨k, hk⟩ : ∃ k, k = Ri.ahead t q := ⟨_, rfl⟩
  rw [← hc1] at hw1
  rw [← hk] at hw2 ha
  have hge : ¬ (c1 : Int) ≤ (k : Int) := by omega
  have HMk : Hid (∀ W, Calls Tryz.prog 47 #[.int .u64 (q : Int)] W fun e w' => e = .returned (.string (Ri.markB q)) ∧ Below W.heap.size W w') := fun W => rMark_any q hq W
  obtain ⟨mk, hmk⟩ : ∃ mk, mk = Ri.markB q := ⟨_, rfl⟩
  have hms : mk.size = 64 := by rw [hmk]; exact Ri.markB_size hq
  rw [← hmk] at HMk HT
  obtain ⟨x1, hx1⟩ : ∃ x1, x1 = Dr.wr1 (0, D) 3 mk.data.toList := ⟨_, rfl⟩
  rw [← hx1] at HT
  have HW : Hid (∀ W, REnd w W rd D G → Calls Tryz.prog 22 #[.pointer (some ⟨rd, 0, none⟩), .int .i64 3, .string mk] W fun e w' => e = .returned (.int .i64 (x1.1 : Nat)) ∧ REnd w w' rd x1.2 G) := fun W hW => (rWr1 hW.1 hg (hf.mono (by omega)) 3 mk hms).mono fun e w' ⟨he, hd, ho⟩ => by
    rw [← hx1] at he hd
    exact ⟨he, hW.step hd ho⟩
  have HX : Hid (x1.2.goes = false ∧ x1.2.Few 1000000) := ⟨by rw [hx1, (Dr.wr1_keeps _ _ _).2.2]; exact hg, by rw [hx1]; exact (Dr.Few.wr1 (x := (0, D)) hf _ _).mono (by omega)⟩
  have hS0 : REnd w w rd D G := REnd.of_same h (Only.refl _ _)
  have HS0 : Hid (REnd w w rd D G) := hS0
  clear h hg hf hr hs hc1 hk ha ht hq hmk hms hx1 hS0
  go_enter Tryz.func32, Tryz.ntmps32
  go_wp2
  go_quiet (fail)
  go_wp2
  obtain ⟨W0, hW0⟩ : ∃ W0, W0 = w.drewN nq := ⟨_, rfl⟩
  have b0 : Below w.heap.size w W0 := by rw [hW0]; exact below_drewN (Below.refl _ _) _
  rw [← hW0]
  have s0 : W0.drew.cell? ⟨rr, 0, none⟩ = some (.pointer (some ⟨rd, 0, none⟩)) := (b0.cell (p := ⟨rr, 0, none⟩) HRl.out.1).trans r0
  have e0 : REnd w W0.drew rd D G := HS0.out.below b0.drew
  clear b0 hW0 r1 r2 hw1 hw2 hge
  have t1 : True := trivial
  go_region_held3 (fun W => W.cell? ⟨rr, 0, none⟩ = some (.pointer (some ⟨rd, 0, none⟩))) (first | exact s0 | assumption) (first | (go_at_call 47; refine (HMk.out _).mono ?_; rintro e w1 ⟨rfl, hb1⟩; have s1 := keep_at (p := ⟨rr, 0, none⟩) hb1 (by assumption); have e1 : REnd w w1 rd D G := REnd.below (by assumption) hb1; clear hb1) | (go_at_call 22; refine (HW.out _ (by assumption)).mono ?_; rintro e w2 ⟨rfl, e2⟩; have s2 := (RRing.cells ((e2.2.block rr HRl.out.1 hG).trans HR.out)).1))
  have HE2 : Hid (REnd w w2 rd x1.2 G) := e2
  have hr2 : RRing w2 rr rd t c := (e2.2.block rr HRl.out.1 hG).trans HR.out
  have HR2 : Hid (RRing w2 rr rd t c) := hr2
  clear e2 e1 e0 s0 s1 hr2 r0
  obtain ⟨z, hz⟩ : ∃ z, z = x1.1 := ⟨_, rfl⟩
  have HZ : Hid (z = x1.1) := hz
  rw [← hz]
  clear hz
  by_cases hzz : z = 0
  case neg =>
    have hz' : ((z : Int) != 0) = true := by rw [bne_iff_ne]; omega
    have HTb : Hid (Ri.trimS D t c q = x1) := by show _ = _; rw [HT.out, Dr.fl1_bad (by rw [← HZ.out]; exact hzz)]
    have HTt : Hid (Ri.trimT D t c q = (t, c)) := by show _ = _; unfold Ri.trimT; rw [HTb.out, ← HZ.out, if_neg hzz]
    clear hzz
    go_wp2
    go_ret
    refine ⟨by rw [HTb.out, ← HZ.out]; rfl, by rw [HTb.out]; exact HE2.out.1, by rw [HTt.out]; exact HR2.out, only_ring HE2.out.2⟩
  case pos =>
  have hz' : ((z : Int) != 0) = false := by rw [bne_eq_false_iff_eq]; omega
  have hfl := rFl1 HE2.out.1 HX.out.1 HX.out.2
  rw [← pair0 (show x1.1 = 0 by rw [← HZ.out]; exact hzz), ← HT.out] at hfl
  obtain ⟨y, hy⟩ : ∃ y, y = (Ri.trimS D t c q).1 := ⟨_, rfl⟩
  have HY : Hid (y = (Ri.trimS D t c q).1) := hy
  rw [← hy] at hfl
  have HFl : Hid (Calls Tryz.prog 48 #[.pointer (some ⟨rd, 0, none⟩)] w2 fun e w' => e = .returned (.int .i64 (y : Nat)) ∧ RefAt w' rd (Ri.trimS D t c q).2 (Plus G w.heap.size) ∧ Only (Plus G w.heap.size) w2 w') := hfl
  clear hzz hfl hy
  go_wp2_with fail
  refine HFl.out.mono ?_
  rintro e w3 ⟨rfl, hd3, ho3⟩
  have HE3 : Hid (REnd w w3 rd (Ri.trimS D t c q).2 G) := HE2.out.same hd3 ho3
  have hr3 : RRing w3 rr rd t c := HR2.out.only ho3 HRl.out.2
  have HR3 : Hid (RRing w3 rr rd t c) := hr3
  have s3 := hr3.cells.1
  have s4 := hr3.cells.2.1
  have l3 := hr3.lt
  have f3 := frozen_of_row w3 rr 1 _ _ hr3
  clear hd3 ho3 hr3 s2
  by_cases hyy : y = 0
  case neg =>
    have hz' : ((y : Int) != 0) = true := by rw [bne_iff_ne]; omega
    have HTt : Hid (Ri.trimT D t c q = (t, c)) := by show _ = _; unfold Ri.trimT; rw [← HY.out, if_neg hyy]
    clear hyy
    go_wp2
    go_ret
    refine ⟨by rw [← HY.out]; rfl, HE3.out.1, by rw [HTt.out]; exact HR3.out, only_ring HE3.out.2⟩
  case pos =>
  have hz' : ((y : Int) != 0) = false := by rw [bne_eq_false_iff_eq]; omega
  have HTt : Hid (Ri.trimT D t c q = (q, c - Ri.ahead t q)) := by show _ = _; unfold Ri.trimT; rw [← HY.out, if_pos hyy]
  have HY0 : Hid (0 = y) := hyy.symm
  clear hyy
  go_wp2
  go_ret
  refine ⟨by rw [← HY.out, ← HY0.out]; rfl, HE3.out.1.stored _ HRl.out.2, ?_, (only_ring HE3.out.2).then (Only.setCell _ _ _ _ (.inr rfl))⟩
  rw [HTt.out]
  exact HR3.out.trimmed HA.out.1 HA.out.2.1 HA.out.2.2
/-- the document's own Trim -/
theorem rTrim_any (h : RefAt w rd D G) (hg : D.goes = false) (hf : D.Few 900000) (hr : RRing w rr rd t c) (hG : ¬ G rr) (ht : t < 18446744073709551616) (q : Nat) (hq : q < 18446744073709551616) (hc : c ≤ 1000000) :
    Calls Tryz.prog 32 #[.pointer (some ⟨rr, 0, none⟩), .int .u64 (q : Int)] w (RTrimAns w rr rd t c q D G) := by
  by_cases ha : Ri.ahead t q ≤ c
  · exact rTrim_near h hg hf hr hG ht q hq hc ha
  · exact rTrim_far h hr ht q hq hc (by omega)
end
end Go.Proofs.YtjmeiifogblmoaaGreatDoor

namespace Go.Proofs.YtjmeiifogblmoaaGreatDoor
open Go.RowKit

namespace Ri
/-- the number that Append answers, and how many there are behind the trimmed one then -/
def appV (D : Dr) (t c : Nat) (row : Int) (n : Nat) (f : Nat → Prt) : Nat := if (appS D t c row n f).1 = 0 then nth t (c + 1) else 0
def appC (D : Dr) (t c : Nat) (row : Int) (n : Nat) (f : Nat → Prt) : Nat := if (appS D t c row n f).1 = 0 then c + 1 else c
end Ri
section
variable {w : World} {rd rr t c : Nat} {D : Dr} {G : Nat → Prop} {row : Int} {n cap : Nat} {a : Option Addr} {f : Nat → Prt}
/-- what Append leaves -/
def RAppAns (w : World) (rr rd t c : Nat) (row : Int) (n : Nat) (f : Nat → Prt) (D : Dr) (G : Nat → Prop) (e : Ending) (w' : World) : Prop :=
  e = .returned (.tuple #[.int .u64 (Ri.appV D t c row n f : Nat), .int .i64 ((Ri.appS D t c row n f).1 : Nat)]) ∧ RefAt w' rd (Ri.appS D t c row n f).2 (Plus G w.heap.size) ∧ RRing w' rr rd t (Ri.appC D t c row n f) ∧ Only (fun x => G x ∨ x = rr) w w'
theorem app_none {w w' : World} (h : RefAt w rd D G) (hr : RRing w rr rd t c) {k : Nat} (hk : k ≠ 0) (ha : Ri.appS D t c row n f = (k, D)) (hb : Below w.heap.size w w') {e : Ending} (he : e = .returned (.tuple #[.int .u64 0, .int .i64 (k : Nat)])) : RAppAns w rr rd t c row n f D G e w' := by
  have e1 : Ri.appV D t c row n f = 0 := by unfold Ri.appV; rw [ha]; exact if_neg hk
  have e2 : Ri.appC D t c row n f = c := by unfold Ri.appC; rw [ha]; exact if_neg hk
  refine ⟨by rw [he, e1, ha]; rfl, ?_, ?_, Only.of_below hb _⟩
  · rw [ha]; exact (h.below hb).mono fun _ hk => .inl hk
  · rw [e2]; exact hr.below hb
set_option maxRecDepth 100000 in
set_option maxHeartbeats 1000000 in
theorem rAppend_full (h : RefAt w rd D G) (hr : RRing w rr rd t c) (ht : t < 18446744073709551616) (hc : c ≤ 1000000) (hf : Ri.slots D.safe.length ≤ c) :
    Calls Tryz.prog 29 #[.pointer (some ⟨rr, 0, none⟩), .int .i64 row, .slice a n cap] w (RAppAns w rr rd t c row n f D G) := by
  have HA : Hid (Ri.appS D t c row n f = (130, D)) := if_pos hf
  have hL := rLeft_any h hr ht hc
  have H : Hid (RefAt w rd D G ∧ RRing w rr rd t c) := ⟨h, hr⟩
  obtain ⟨r0, r1, r2⟩ := hr.cells
  obtain ⟨N, hN⟩ : ∃ N, N = Ri.slots D.safe.length := ⟨_, rfl⟩
  rw [← hN] at hL hf
  have hle : (N : Int) - (c : Int) ≤ 0 := by omega
  obtain ⟨x, hx⟩ : ∃ x : Int, x = (N : Int) - (c : Int) := ⟨_, rfl⟩
  rw [← hx] at hL hle
  clear h hr hN hf hx hc ht
  go_enter Tryz.func29, Tryz.ntmps29
  go_wp2_with fail
  refine hL.mono ?_
  rintro e w1 ⟨rfl, hb1⟩
  have HB1 : Hid (Below w.heap.size w w1) := hb1
  clear hb1
  go_wp2
  go_ret2
  exact app_none H.out.1 H.out.2 (by decide) HA.out HB1.out rfl
set_option maxRecDepth 100000 in
set_option maxHeartbeats 1000000 in
theorem rAppend_no (h : RefAt w rd D G) (hr : RRing w rr rd t c) (ht : t < 18446744073709551616) (hc : c ≤ 1000000) (hf : c < Ri.slots D.safe.length) (hin : RecIn row n f) (hp : PartsR w a n f) (hm : Rc.mayB row n f = false) :
    Calls Tryz.prog 29 #[.pointer (some ⟨rr, 0, none⟩), .int .i64 row, .slice a n cap] w (RAppAns w rr rd t c row n f D G) := by
  have HA : Hid (Ri.appS D t c row n f = (1, D)) := by show _ = _; unfold Ri.appS; rw [if_neg (by omega), if_neg (by rw [hm]; decide)]
  have hL := rLeft_any h hr ht hc
  have H : Hid (RefAt w rd D G ∧ RRing w rr rd t c) := ⟨h, hr⟩
  obtain ⟨r0, r1, r2⟩ := hr.cells
  obtain ⟨m, hmm⟩ : ∃ m, m = Ri.nth t (c + 1) := ⟨_, rfl⟩
  rw [← hmm] at r2
  have HE : Hid (∀ W, Below w.heap.size w W → Calls Tryz.prog 67 #[.agg #[.int .u64 (m : Int), .int .i64 row, .slice a n cap]] W (EncAns W m row n f)) := fun W hW => rEncode12_any m row a n cap f W (by rw [hmm]; exact Ri.nth_lt _ _) hin (hp.below hW)
  have HEe : Hid (Rc.encE row n f = 1 ∧ Rc.encN row n f = 0 ∧ Rc.encT m row n f = ⟨#[]⟩) := by
    refine ⟨?_, ?_, ?_⟩
    · unfold Rc.encE; rw [hm]; rfl
    · unfold Rc.encN; rw [hm]; rfl
    · unfold Rc.encT; rw [hm]; rfl
  obtain ⟨N, hN⟩ : ∃ N, N = Ri.slots D.safe.length := ⟨_, rfl⟩
  rw [← hN] at hL hf
  have hle : ¬ (N : Int) - (c : Int) ≤ 0 := by omega
  obtain ⟨x, hx⟩ : ∃ x : Int, x = (N : Int) - (c : Int) := ⟨_, rfl⟩
  rw [← hx] at hL hle
  clear h hr hN hf hx hc ht hm hmm hin hp
  go_enter Tryz.func29, Tryz.ntmps29
  go_wp2_with fail
  refine hL.mono ?_
  rintro e w1 ⟨rfl, hb1⟩
  have HB1 : Hid (Below w.heap.size w w1) := hb1
  clear hb1
  go_wp2_with fail
  refine (HE.out _ HB1.out).mono ?_
  rintro e w2 ⟨ax, cx, rfl, _, hb2⟩
  have HB2 : Hid (Below w.heap.size w w2) := below2 HB1.out hb2
  clear hb2
  rw [HEe.out.1, HEe.out.2.1, HEe.out.2.2]
  go_wp2
  go_ret2
  exact app_none H.out.1 H.out.2 (by decide) HA.out HB2.out rfl
end
end Go.Proofs.YtjmeiifogblmoaaGreatDoor

namespace Go.Proofs.YtjmeiifogblmoaaGreatDoor
open Go.RowKit

section
variable {w : World} {rd rr t c : Nat} {D : Dr} {G : Nat → Prop} {row : Int} {n cap : Nat} {a : Option Addr} {f : Nat → Prt}
theorem app_end {w2 w7 : World} {E : Dr} (hb : Below w.heap.size w w2) (he : REnd w2 w7 rd E (fun k => G k ∧ k < w.heap.size)) : RefAt w7 rd E (Plus G w.heap.size) ∧ Only (fun x => G x ∨ x = rr) w w7 :=
  ⟨he.1.mono (fun _ hk => hk.elim (fun h => .inl h.1) (fun h => .inr (Nat.le_trans hb.size h))), (Only.of_below hb _).then (he.2.mono fun _ hk => .inl hk.1)⟩
theorem app_fail {w2 w7 : World} {E : Nat × Dr} {e : Ending} (ha : Ri.appS D t c row n f = E) (hE : E.1 ≠ 0) (hb : Below w.heap.size w w2) (he : REnd w2 w7 rd E.2 (fun k => G k ∧ k < w.heap.size)) (hr : RRing w7 rr rd t c)
    (hee : e = .returned (.tuple #[.int .u64 0, .int .i64 (E.1 : Nat)])) : RAppAns w rr rd t c row n f D G e w7 := by
  have e1 : Ri.appV D t c row n f = 0 := by unfold Ri.appV; rw [ha]; exact if_neg hE
  have e2 : Ri.appC D t c row n f = c := by unfold Ri.appC; rw [ha]; exact if_neg hE
  obtain ⟨h1, h2⟩ := app_end (rr := rr) hb he
  exact ⟨by rw [hee, e1, ha]; rfl, by rw [ha]; exact h1, by rw [e2]; exact hr, h2⟩
theorem app_good {w2 w7 : World} {E : Nat × Dr} {e : Ending} (ha : Ri.appS D t c row n f = E) (hE : E.1 = 0) (hb : Below w.heap.size w w2) (he : REnd w2 w7 rd E.2 (fun k => G k ∧ k < w.heap.size)) (hn : ¬ (fun k => Plus (fun k => G k ∧ k < w.heap.size) w2.heap.size k) rr) (hr : RRing w7 rr rd t c)
    (hee : e = .returned (.tuple #[.int .u64 (Ri.nth t (c + 1) : Nat), .int .i64 0])) : RAppAns w rr rd t c row n f D G e (w7.setCell ⟨rr, 2, none⟩ (.int .u64 (Ri.nth t (c + 1 + 1) : Nat))) := by
  have e1 : Ri.appV D t c row n f = Ri.nth t (c + 1) := by unfold Ri.appV; rw [ha]; exact if_pos hE
  have e2 : Ri.appC D t c row n f = c + 1 := by unfold Ri.appC; rw [ha]; exact if_pos hE
  exact ⟨by rw [hee, e1, ha, hE]; rfl, by rw [ha]; exact (he.1.stored _ hn).mono (fun k hk => hk.elim (fun h => .inl h.1) (fun h => .inr (Nat.le_trans hb.size h))), by rw [e2]; exact hr.stored rfl, (app_end (rr := rr) hb he).2.then (Only.setCell _ _ _ _ (.inr rfl))⟩
set_option maxRecDepth 100000 in
set_option maxHeartbeats 8000000 in
theorem rAppend_yes (h : RefAt w rd D G) (hg : D.goes = false) (hfw : D.Few 900000) (hr : RRing w rr rd t c) (hG : ¬ G rr) (ht : t < 18446744073709551616) (hc : c ≤ 1000000) (hf : c < Ri.slots D.safe.length) (hin : RecIn row n f) (hp : PartsR w a n f) (hm : Rc.mayB row n f = true) :
    Calls Tryz.prog 29 #[.pointer (some ⟨rr, 0, none⟩), .int .i64 row, .slice a n cap] w (RAppAns w rr rd t c row n f D G) := by
  have HA : Hid (Ri.appS D t c row n f = Ri.putS D (Ri.nth t (c + 1)) row n f) := by show _ = _; unfold Ri.appS; rw [if_neg (by omega), if_pos hm]
  have hL := rLeft_any h hr ht hc
  have HR : Hid (RRing w rr rd t c ∧ ¬ G rr) := ⟨hr, hG⟩
  have HH : Hid (RefAt w rd D (fun k => G k ∧ k < w.heap.size)) := h.tight
  obtain ⟨r0, r1, r2⟩ := hr.cells
  obtain ⟨hfu, hpl⟩ := (Rc.may_iff _ _ _).1 hm
  obtain ⟨row0, row1, n1, n40⟩ := (Rc.few_iff _ _).1 ((Rc.places_iff _ _ _).1 hpl).1
  have hhs : (Rc.headS (Ri.nth t (c + 1)) row n f (Rc.sumF n f)).size = 64 := Rc.headS_size (Ri.nth_lt _ _) (by omega) (by omega) (Rc.sumF_lt n f) n40 f
  have h64 := (Rc.fullTo_iff f n).1 hfu
  have HM2 : Hid (IntKind.u64.wrap (((Ri.nth t (c + 1) : Nat) : Int) + 1) = ((Ri.nth t (c + 1 + 1) : Nat) : Int)) := by
    show _ = _
    rw [IntKind.wrap_u64, ← nth_next t (c + 1)]; omega
  have hfst := fun (W : World) (hW : Below w.heap.size w W) => rfirst_any (h.below hW) (show 0 < Ri.slots D.safe.length by omega) (Ri.nth t (c + 1)) (Ri.nth_lt _ _)
  obtain ⟨m, hmm⟩ : ∃ m, m = Ri.nth t (c + 1) := ⟨_, rfl⟩
  have hml : m < 18446744073709551616 := by rw [hmm]; exact Ri.nth_lt _ _
  rw [← hmm] at r2 HA hhs HM2 hfst
  obtain ⟨p, hpp⟩ : ∃ p, p = Ri.first D.safe.length m := ⟨_, rfl⟩
  have hp9 : p ≤ 1000000 := by
    have := Nat.mod_lt m (show 0 < Ri.slots D.safe.length by omega)
    have := h.ok.le
    rw [hpp]; unfold Ri.first Ri.slots at *; omega
  obtain ⟨hd, hhd⟩ : ∃ hd, hd = Rc.headS m row n f (Rc.sumF n f) := ⟨_, rfl⟩
  rw [← hpp] at hfst
  rw [← hhd] at hhs
  have hput : Ri.putS D m row n f = Dr.fl1 (Dr.wr1 (Dr.fl1 (Dr.wrTo (0, D) (fun j => p + 1 + j) (fun j => (f j).data.data.toList) n)) p hd.data.toList) := by unfold Ri.putS; rw [← hpp, ← hhd]
  rw [hput] at HA
  have HE : Hid (∀ W, Below w.heap.size w W → Calls Tryz.prog 67 #[.agg #[.int .u64 (m : Int), .int .i64 row, .slice a n cap]] W (EncNew12 W m row n f)) := fun W hW => rEncode12_new m row a n cap f W hml hin (hp.below hW)
  have HEe : Hid (Rc.encE row n f = 0 ∧ Rc.encN row n f = n ∧ Rc.encT m row n f = hd) := by
    refine ⟨?_, ?_, ?_⟩
    · unfold Rc.encE; rw [hm]; rfl
    · unfold Rc.encN; rw [hm]; rfl
    · unfold Rc.encT; rw [hm, hhd]; rfl
  obtain ⟨X, hX⟩ : ∃ X, X = Dr.wrTo (0, D) (fun j => p + 1 + j) (fun j => (f j).data.data.toList) := ⟨_, rfl⟩
  rw [← hX] at HA
  have HX0 : Hid (X 0 = (0, D)) := by show _ = _; rw [hX]; rfl
  have HXs : Hid (∀ k, X (k + 1) = Dr.wr1 (X k) (p + 1 + k) (f k).data.data.toList) := fun k => by rw [hX]; rfl
  have HXk : Hid (∀ k, k ≤ n → (X k).2.goes = false ∧ (X k).2.Few 950000) := fun k hk => by
    rw [hX]
    exact ⟨by rw [(Dr.wrTo_keeps _ _ _ k).2.2]; exact hg, (Dr.Few.wrTo (x := (0, D)) hfw _ _ k).mono (by omega)⟩
  have HXst : Hid (∀ k, k ≤ n → (X k).1 ≠ 0 → X n = X k) := fun k hk hne => by rw [hX] at hne ⊢; exact Dr.wrTo_stuck hne hk
  have HFst : Hid _ := hfst
  have H64 : Hid (∀ j, j < n → (f j).data.size = 64) := h64
  have HHs : Hid (hd.size = 64) := hhs
  have HMm : Hid (m = Ri.nth t (c + 1)) := hmm
  obtain ⟨N, hN⟩ : ∃ N, N = Ri.slots D.safe.length := ⟨_, rfl⟩
  rw [← hN] at hL hf
  have hle : ¬ (N : Int) - (c : Int) ≤ 0 := by omega
  obtain ⟨x, hx⟩ : ∃ x : Int, x = (N : Int) - (c : Int) := ⟨_, rfl⟩
  rw [← hx] at hL hle
  clear h hr hN hf hx hc ht hm hmm hin hp hG hfu hpl hhs h64 hpp hhd hput hX hg hfw hfst row0 row1
  go_enter Tryz.func29, Tryz.ntmps29
  go_wp2_with fail
  refine hL.mono ?_
  rintro e w1 ⟨rfl, hb1⟩
  have HB1 : Hid (Below w.heap.size w w1) := hb1
  clear hb1 hL
  go_wp2_with fail
  refine (HE.out _ HB1.out).mono ?_
  rintro e w2 ⟨ax, cx, rfl, hrs, hnw, hb2⟩
  have HB2 : Hid (Below w.heap.size w w2) := below2 HB1.out hb2
  rw [HEe.out.1, HEe.out.2.1, HEe.out.2.2]
  rw [HEe.out.2.1] at hrs
  obtain ⟨b2, o2, rfl, _⟩ := hrs 0 n1
  have HRs : Hid (∀ j, j < n → w2.cell? ⟨b2, o2 + j, none⟩ = some (.string (f j).data)) := fun j hj => by
    obtain ⟨b, o, e, hh⟩ := hrs j hj
    cases e
    exact hh
  have HLow : Hid (w.heap.size ≤ b2 ∧ b2 < w2.heap.size) := ⟨Nat.le_trans HB1.out.size (hnw _ rfl), World.block_lt_of_cell? w2 _ (HRs.out 0 n1)⟩
  have HR2 : Hid (RRing w2 rr rd t c) := HR.out.1.below HB2.out
  have HG2 : Hid (¬ Plus (fun k => G k ∧ k < w.heap.size) w2.heap.size rr) := fun e => e.elim (fun g => HR.out.2 g.1) (fun g => by have := HR2.out.lt; omega)
  have HGb : Hid (¬ (fun k => G k ∧ k < w.heap.size) b2) := fun e => by have := e.2; have := HLow.out; omega
  have hfs := HFst.out _ HB2.out
  have q0 := HR2.out.cells.1
  clear hrs hnw hb2 r0 r1 r2
  go_wp2_with fail
  refine hfs.mono ?_
  rintro e w3 ⟨rfl, rfl⟩
  clear hfs q0
  go_wp2
  go_loopg [13, 14] n (fun gg i u14 wr => ∃ k : Nat, k ≤ n ∧ gg = n - k ∧ i = .int .i64 (k : Int) ∧ (X k).1 = 0 ∧ REnd w3 wr rd (X k).2 (fun k => G k ∧ k < w.heap.size))
  case atStart => exact ⟨0, Nat.zero_le _, rfl, rfl, by rw [HX0.out], by rw [HX0.out]; exact REnd.of_same (HH.out.below HB2.out) (Only.refl _ _)⟩
  case round =>
  obtain ⟨k, hk, rfl, rfl, hx0, hre⟩ := hrel
  have HX1 : Hid ((X k).1 = 0) := hx0
  have HRe : Hid (REnd w3 wr rd (X k).2 (fun k => G k ∧ k < w.heap.size)) := hre
  have HRr : Hid (RRing wr rr rd t c) := HR2.out.only hre.2 (fun e => HG2.out (.inl e))
  have q0 := HRr.out.cells.1
  clear hx0 hre
  by_cases hlt : k < n
  case pos =>
    have hki : (k : Int) < (n : Int) := by omega
    have hk0 : (0 : Int) ≤ (k : Int) := by omega
    have hkt : ((k : Int)).toNat = k := by omega
    obtain ⟨p1, hp1⟩ : ∃ p1 : Nat, p1 = p + 1 := ⟨_, rfl⟩
    obtain ⟨q, hq⟩ : ∃ q : Nat, q = p + 1 + k := ⟨_, rfl⟩
    have hw1 : IntKind.i64.wrap ((p : Int) + 1) = (p1 : Int) := by rw [IntKind.wrap_i64]; omega
    have hw2 : IntKind.i64.wrap ((p1 : Int) + (k : Int)) = (q : Int) := by rw [IntKind.wrap_i64]; omega
    obtain ⟨s, hs⟩ : ∃ s, s = (f k).data := ⟨_, rfl⟩
    have hs64 : s.size = 64 := by rw [hs]; exact H64.out k hlt
    have hld : wr.cell? ⟨b2, o2 + k, none⟩ = some (.string s) := by
      rw [hs]
      exact (World.cell?_of_block (w := w3) (HRe.out.2.block b2 HLow.out.2 HGb.out)).trans (HRs.out k hlt)
    obtain ⟨ee, hee⟩ : ∃ ee, ee = (X (k + 1)).1 := ⟨_, rfl⟩
    have HEE : Hid (ee = (X (k + 1)).1) := hee
    have HW : Hid (∀ W, REnd w3 W rd (X k).2 (fun k => G k ∧ k < w.heap.size) → Calls Tryz.prog 22 #[.pointer (some ⟨rd, 0, none⟩), .int .i64 (q : Nat), .string s] W fun e w' => e = .returned (.int .i64 (ee : Nat)) ∧ REnd w3 w' rd (X (k + 1)).2 (fun k => G k ∧ k < w.heap.size)) := fun W hW => (rWr1 hW.1 (HXk.out k hk).1 ((HXk.out k hk).2.mono (by omega)) q s hs64).mono fun e w' ⟨he, hd, ho⟩ => by
      rw [hs, hq, ← pair0 HX1.out, ← HXs.out k] at he hd
      rw [← hee] at he
      exact ⟨he, hW.step hd ho⟩
    have s0 : wr.drew.cell? ⟨rr, 0, none⟩ = some (.pointer (some ⟨rd, 0, none⟩)) := q0
    have l0 : wr.drew.cell? ⟨b2, o2 + k, none⟩ = some (.string s) := hld
    have hS0 : wr.drew.cell? ⟨rr, 0, none⟩ = some (.pointer (some ⟨rd, 0, none⟩)) ∧ wr.drew.cell? ⟨b2, o2 + k, none⟩ = some (.string s) := ⟨s0, l0⟩
    have e0 : REnd w3 wr.drew rd (X k).2 (fun k => G k ∧ k < w.heap.size) := HRe.out.below (Below.refl _ _).drew
    have HLd : Hid (w3.cell? ⟨b2, o2 + k, none⟩ = some (.string s)) := by show _ = _; rw [hs]; exact HRs.out k hlt
    clear hee hs hq hp1
    go_wp2
    go_region_held3 (fun W => W.cell? ⟨rr, 0, none⟩ = some (.pointer (some ⟨rd, 0, none⟩)) ∧ W.cell? ⟨b2, o2 + k, none⟩ = some (.string s)) (first | exact hS0 | assumption) (first | (go_at_call 22; refine (HW.out _ (by assumption)).mono ?_; rintro e w4 ⟨rfl, e4⟩; have s4 : w4.cell? ⟨rr, 0, none⟩ = some (.pointer (some ⟨rd, 0, none⟩)) ∧ w4.cell? ⟨b2, o2 + k, none⟩ = some (.string s) := ⟨(RRing.cells (HR2.out.only e4.2 (fun e => HG2.out (.inl e)))).1, (World.cell?_of_block (w := w3) (e4.2.block b2 HLow.out.2 HGb.out)).trans HLd.out⟩))
    have HR4 : Hid (REnd w3 w4 rd (X (k + 1)).2 (fun k => G k ∧ k < w.heap.size)) := e4
    have HRr4 : Hid (RRing w4 rr rd t c) := HR2.out.only e4.2 (fun e => HG2.out (.inl e))
    clear e4 s4 e0 hS0 l0 s0 hld q0 hw1 hw2
    by_cases hz : ee = 0
    · have hz' : ((ee : Int) != 0) = false := by rw [bne_eq_false_iff_eq]; omega
      go_wp2
      go_roundg (n - (k + 1))
      case measure => omega
      case rel => exact ⟨k + 1, by omega, rfl, by go_num, by rw [← HEE.out]; exact hz, HR4.out⟩
    · have hz' : ((ee : Int) != 0) = true := by rw [bne_iff_ne]; omega
      have HFin : Hid (Ri.appS D t c row n f = X (k + 1)) := by
        show _ = _
        have hne : (X (k + 1)).1 ≠ 0 := by rw [← HEE.out]; exact hz
        rw [HA.out, HXst.out (k + 1) hlt hne, Dr.fl1_bad hne, Dr.wr1_bad hne, Dr.fl1_bad hne]
      have HNe : Hid ((X (k + 1)).1 ≠ 0) := by show _ ≠ _; rw [← HEE.out]; exact hz
      clear hz
      go_wp2
      go_ret2
      exact app_fail HFin.out HNe.out HB2.out HR4.out HRr4.out (by rw [← HEE.out]; rfl)
  case neg =>
    have hkn : k = n := by omega
    subst hkn
    have hfl := rFl1 HRe.out.1 (HXk.out k (Nat.le_refl _)).1 ((HXk.out k (Nat.le_refl _)).2.mono (by omega))
    rw [← pair0 HX1.out] at hfl
    obtain ⟨Y, hY⟩ : ∃ Y, Y = Dr.fl1 (X k) := ⟨_, rfl⟩
    rw [← hY] at hfl
    have HYk : Hid (Y.2.goes = false ∧ Y.2.Few 950000) := by
      rw [hY]
      exact ⟨Dr.goes_fl1 (HXk.out k (Nat.le_refl _)).1, (HXk.out k (Nat.le_refl _)).2.fl1⟩
    rw [← hY] at HA
    obtain ⟨y, hy⟩ : ∃ y, y = Y.1 := ⟨_, rfl⟩
    have HY : Hid (y = Y.1) := hy
    rw [← hy] at hfl
    clear hY hy hlt hk
    go_wp2_with fail
    refine hfl.mono ?_
    rintro e w5 ⟨rfl, hd5, ho5⟩
    have HR5 : Hid (REnd w3 w5 rd Y.2 (fun k => G k ∧ k < w.heap.size)) := HRe.out.same hd5 ho5
    have HRr5 : Hid (RRing w5 rr rd t c) := HRr.out.only ho5 (fun e => HG2.out e)
    have q5 := HRr5.out.cells.1
    clear hd5 ho5 hfl q0
    by_cases hyz : y = 0
    case neg =>
      have hz' : ((y : Int) != 0) = true := by rw [bne_iff_ne]; omega
      have HNe : Hid (Y.1 ≠ 0) := by show _ ≠ _; rw [← HY.out]; exact hyz
      have HFin : Hid (Ri.appS D t c row k f = Y) := by show _ = _; rw [HA.out, Dr.wr1_bad HNe.out, Dr.fl1_bad HNe.out]
      clear hyz
      go_wp2
      go_ret2
      exact app_fail HFin.out HNe.out HB2.out HR5.out HRr5.out (by rw [← HY.out]; rfl)
    case pos =>
    have hz' : ((y : Int) != 0) = false := by rw [bne_eq_false_iff_eq]; omega
    have hwr := rWr1 HR5.out.1 HYk.out.1 (HYk.out.2.mono (by omega)) p hd HHs.out
    rw [← pair0 (show Y.1 = 0 by rw [← HY.out]; exact hyz)] at hwr
    obtain ⟨Z, hZ⟩ : ∃ Z, Z = Dr.wr1 Y p hd.data.toList := ⟨_, rfl⟩
    rw [← hZ] at hwr HA
    have HZk : Hid (Z.2.goes = false ∧ Z.2.Few 960000) := by
      rw [hZ]
      exact ⟨by rw [(Dr.wr1_keeps _ _ _).2.2]; exact HYk.out.1, (HYk.out.2.wr1 _ _).mono (by omega)⟩
    obtain ⟨z, hz⟩ : ∃ z, z = Z.1 := ⟨_, rfl⟩
    have HZ : Hid (z = Z.1) := hz
    rw [← hz] at hwr
    clear hZ hz hyz
    go_wp2_with fail
    refine hwr.mono ?_
    rintro e w6 ⟨rfl, hd6, ho6⟩
    have HR6 : Hid (REnd w3 w6 rd Z.2 (fun k => G k ∧ k < w.heap.size)) := HR5.out.step hd6 ho6
    have HRr6 : Hid (RRing w6 rr rd t c) := HR2.out.only HR6.out.2 (fun e => HG2.out (.inl e))
    have q6 := HRr6.out.cells.1
    clear hd6 ho6 hwr q5 hz'
    by_cases hzz : z = 0
    case neg =>
      have hz' : ((z : Int) != 0) = true := by rw [bne_iff_ne]; omega
      have HNe : Hid (Z.1 ≠ 0) := by show _ ≠ _; rw [← HZ.out]; exact hzz
      have HFin : Hid (Ri.appS D t c row k f = Z) := by show _ = _; rw [HA.out, Dr.fl1_bad HNe.out]
      clear hzz
      go_wp2
      go_ret2
      exact app_fail HFin.out HNe.out HB2.out HR6.out HRr6.out (by rw [← HZ.out]; rfl)
    case pos =>
    have hz' : ((z : Int) != 0) = false := by rw [bne_eq_false_iff_eq]; omega
    have hfl := rFl1 HR6.out.1 HZk.out.1 (HZk.out.2.mono (by omega))
    rw [← pair0 (show Z.1 = 0 by rw [← HZ.out]; exact hzz), ← HA.out] at hfl
    obtain ⟨v, hv⟩ : ∃ v, v = (Ri.appS D t c row k f).1 := ⟨_, rfl⟩
    have HV : Hid (v = (Ri.appS D t c row k f).1) := hv
    rw [← hv] at hfl
    clear hv hzz
    go_wp2_with fail
    refine hfl.mono ?_
    rintro e w7 ⟨rfl, hd7, ho7⟩
    have HR7 : Hid (REnd w3 w7 rd (Ri.appS D t c row k f).2 (fun k => G k ∧ k < w.heap.size)) := HR6.out.same hd7 ho7
    have hr7 : RRing w7 rr rd t c := HR2.out.only HR7.out.2 (fun e => HG2.out (.inl e))
    have HRr7 : Hid (RRing w7 rr rd t c) := hr7
    have m7 := hr7.cells.2.2
    have f7 := frozen_of_row w7 rr 2 _ _ hr7
    have l7 := hr7.lt
    clear hd7 ho7 hfl q6 hz' hr7
    by_cases hvz : v = 0
    case neg =>
      have hz' : ((v : Int) != 0) = true := by rw [bne_iff_ne]; omega
      have HNe : Hid ((Ri.appS D t c row k f).1 ≠ 0) := by show _ ≠ _; rw [← HV.out]; exact hvz
      clear hvz
      go_wp2
      go_ret2
      exact app_fail rfl HNe.out HB2.out HR7.out HRr7.out (by rw [← HV.out]; rfl)
    case pos =>
    have hz' : ((v : Int) != 0) = false := by rw [bne_eq_false_iff_eq]; omega
    have HV0 : Hid ((Ri.appS D t c row k f).1 = 0) := by show _ = _; rw [← HV.out]; exact hvz
    have hm2 := HM2.out
    obtain ⟨m2, hmm2⟩ : ∃ m2, m2 = Ri.nth t (c + 1 + 1) := ⟨_, rfl⟩
    rw [← hmm2] at hm2
    have HMm2 : Hid (m2 = Ri.nth t (c + 1 + 1)) := hmm2
    clear hvz hmm2
    go_wp2
    go_ret2
    rw [HMm2.out]
    exact app_good rfl HV0.out HB2.out HR7.out HG2.out HRr7.out (by rw [← HMm.out]; rfl)
/-- the document's own Append -/
theorem rAppend_any (h : RefAt w rd D G) (hg : D.goes = false) (hfw : D.Few 900000) (hr : RRing w rr rd t c) (hG : ¬ G rr) (ht : t < 18446744073709551616) (hc : c ≤ 1000000) (hin : RecIn row n f) (hp : PartsR w a n f) :
    Calls Tryz.prog 29 #[.pointer (some ⟨rr, 0, none⟩), .int .i64 row, .slice a n cap] w (RAppAns w rr rd t c row n f D G) := by
  by_cases hf : c < Ri.slots D.safe.length
  · cases hm : Rc.mayB row n f with
    | false => exact rAppend_no h hr ht hc hf hin hp hm
    | true => exact rAppend_yes h hg hfw hr hG ht hc hf hin hp hm
  · exact rAppend_full h hr ht hc (by omega)
end
end Go.Proofs.YtjmeiifogblmoaaGreatDoor
