/- Several texts in one. The walk of the program's own load of a journal's record. The walk of the program's own find of a journal's record. The walk of the program's own Open of a journal. -/
import Derived.Test.YtjmeiifogblmoaaGreatDoorMRgA
import Derived.Test.YtjmeiifogblmoaaGreatDoorMR13
import Derived.Deep.LoopGhost
import Derived.Test.YtjmeiifogblmoaaGreatDoorMRkB
import Derived.Test.YtjmeiifogblmoaaGreatDoorRiSays
namespace Go.Proofs.YtjmeiifogblmoaaGreatDoor
open Go.RowKit

/-- what load answers -/
def LoadAns (w : World) (D : Dr) (q n : Nat) (e : Ending) (w' : World) : Prop :=
  ((∀ j, j < n → D.readE ((q + j : Nat) : Int) = 0) ∧ (∃ a cap, e = .returned (.tuple #[.slice a n cap, .bool true]) ∧ RowS w' a n (fun j => txt (D.readS ((q + j : Nat) : Int))) ∧ n ≤ cap) ∨
   (¬ ∀ j, j < n → D.readE ((q + j : Nat) : Int) = 0) ∧ e = .returned (.tuple #[.slice none 0 0, .bool false])) ∧ Below w.heap.size w w'
section
variable {w : World} {rp dp t c : Nat} {D : Dr} {F : Nat → Prop}
theorem readS_sizeP (h : DriveAt w dp D F) (i : Int) : (D.readS i).length ≤ 64 := by
  obtain ⟨sb, pb, mb, hd, hin, _⟩ := h
  have ok := hin.ok
  unfold Dr.readS
  split
  · rename_i he
    unfold Dr.last
    split
    · rw [List.getD_eq_getElem?_getD]
      cases hh : D.safe[i.toNat]? with
      | none => simp
      | some s => exact Nat.le_of_eq (ok.sector s (List.mem_of_getElem? hh))
    · rename_i hne
      exact Nat.le_of_eq (ok.writes i.toNat _ (by
        rw [List.getD_eq_getElem?_getD, List.getElem?_eq_getElem (by have := List.length_pos_iff.2 hne; omega)]
        exact List.getElem_mem _))
  · simp
set_option maxRecDepth 100000 in
set_option maxHeartbeats 2000000 in
theorem gload_any (h : DriveAt w dp D F) (hr : GRing w rp dp t c) (q n : Nat) (hq : q ≤ 10001) (hn : n ≤ 40) :
    Calls Tryz.prog 93 #[.pointer (some ⟨rp, 0, none⟩), .int .i64 (q : Nat), .int .i64 (n : Nat)] w (LoadAns w D q n) := by
  have HR : Hid (∀ (W : World), Below w.heap.size w W → ∀ i : Int, Calls Tryz.prog 49 #[.pointer (some ⟨dp, 0, none⟩), .int .i64 i] W fun e w' => e = .returned (.tuple #[.string (txt (D.readS i)), .int .i64 (D.readE i : Nat)]) ∧ Below W.heap.size W w') := fun W hW i => read_any (h.below hW) i
  have HSz : Hid (∀ i : Int, (txt (D.readS i)).size ≤ 64) := fun i => by rw [txt_size]; exact readS_sizeP h i
  have HG : Hid (GRing w rp dp t c) := hr
  obtain ⟨i0, hi, hz0, hz1, hz2⟩ := info_parts info_str
  clear h hr
  go_enter Tryz.func93, Tryz.ntmps93
  go_wp2
  go_loopg [8, 9, 10, 11, 13] n (fun gg v u9 u10 u11 i wr => ∃ (k : Nat) (u : Value), k ≤ n ∧ gg = n - k ∧ u = v ∧ i = .int .i64 (k : Int) ∧ wr.ownsRow w.heap.size 9 1 u k (textVals k (fun j => txt (D.readS ((q + j : Nat) : Int)))) ∧ Below w.heap.size w wr ∧ ∀ j, j < k → D.readE ((q + j : Nat) : Int) = 0)
  case atStart => exact ⟨0, _, Nat.zero_le _, rfl, rfl, rfl, World.ownsRow_nil _ _ _ _, Below.refl _ _, fun j hj => absurd hj (Nat.not_lt_zero _)⟩
  case round =>
  obtain ⟨k, u, hk, rfl, rfl, rfl, hown, hb, hgo⟩ := hrel
  have HBr : Hid (Below w.heap.size w wr) := hb
  have OWN : Hid (wr.ownsRow w.heap.size 9 1 u k (textVals k (fun j => txt (D.readS ((q + j : Nat) : Int))))) := hown
  have HGo : Hid (∀ j, j < k → D.readE ((q + j : Nat) : Int) = 0) := hgo
  have hsz := hb.size
  have k0 := (HG.out.below hb).k0
  clear hown hb hgo
  by_cases hlt : k < n
  case neg =>
    have hkn : k = n := by omega
    subst hkn
    obtain ⟨aL, cL, rfl, hrs, hcap, _⟩ := RowS.of_owns OWN.out
    have HCap : Hid (k ≤ cL) := hcap
    have HRs : Hid (RowS wr aL k (fun j => txt (D.readS ((q + j : Nat) : Int)))) := hrs
    clear hrs hlt hk k0 hcap
    go_wp2
    go_ret2
    exact ⟨.inl ⟨HGo.out, aL, cL, rfl, HRs.out, HCap.out⟩, HBr.out⟩
  case pos =>
  have hki : (k : Int) < (n : Int) := by omega
  obtain ⟨p, hp⟩ : ∃ p : Nat, p = q + k := ⟨_, rfl⟩
  have hp1 : (q : Int) + (k : Int) = (p : Int) := by omega
  have hrd := HR.out wr HBr.out (p : Nat)
  obtain ⟨ek, hek⟩ : ∃ ek, ek = D.readE (p : Nat) := ⟨_, rfl⟩
  have hsk := HSz.out (p : Nat)
  obtain ⟨sk, hsk2⟩ : ∃ sk, sk = txt (D.readS (p : Nat)) := ⟨_, rfl⟩
  rw [← hek, ← hsk2] at hrd
  rw [← hsk2] at hsk
  have HSk : Hid (sk = txt (D.readS ((q + k : Nat) : Int))) := by show _ = _; rw [hsk2, hp]
  have HEk : Hid (ek = D.readE ((q + k : Nat) : Int)) := by show _ = _; rw [hek, hp]
  have HLt : Hid (k < n) := hlt
  have hpb : p ≤ 20000 := by omega
  clear hsk2 hek hp hq
  go_wp2_with fail
  refine hrd.mono ?_
  rintro e w5 ⟨rfl, hb5⟩
  have HB5 : Hid (Below w.heap.size w w5) := below2 HBr.out hb5
  have OWN5 : Hid (w5.ownsRow w.heap.size 9 1 u k (textVals k (fun j => txt (D.readS ((q + j : Nat) : Int))))) := ownsRow_below OWN.out hb5
  have hsz5 : w.heap.size ≤ w5.heap.size := Nat.le_trans hsz hb5.size
  clear hrd hb5 k0
  by_cases hez : ek = 0
  case neg =>
    have hne4 : ((ek : Int) != 0) = true := by rw [bne_iff_ne]; omega
    have HNo : Hid (¬ ∀ j, j < n → D.readE ((q + j : Nat) : Int) = 0) := fun hh => hez (by rw [HEk.out]; exact hh k HLt.out)
    clear hez hp1
    go_wp2
    go_ret2
    exact ⟨.inr ⟨HNo.out, rfl⟩, HB5.out⟩
  case pos =>
  have hne4 : ((ek : Int) != 0) = false := by rw [bne_eq_false_iff_eq]; omega
  have HGo2 : Hid (∀ j, j < k + 1 → D.readE ((q + j : Nat) : Int) = 0) := fun j hj => by
    by_cases e : j = k
    · rw [e, ← HEk.out]; exact hez
    · exact HGo.out j (by omega)
  have t1 : True := trivial
  clear hez hp1
  go_wp2_with (first | (at_builtin; go_loud (have _t := t1; refine wpList_append_own _ rfl _ _ 42 rfl w.heap.size 9 i0 (.string ByteArray.empty) 1 16 Tryz.underlying42 hi hz0 hz1 hz2 rfl (by decide) u k (textVals k (fun j => txt (D.readS ((q + j : Nat) : Int)))) rfl (OWN5.out.alloc _) ⟨_, 0, none⟩ 1 1 [.string sk] rfl rfl (cell_one_new _ _ _) (by simp [Value.oneCell']) (by unfold maxLen; omega) (by omega) (by simp; omega) ?_; intro v' w6 hown' hgrow _; obtain ⟨g', cap', rfl⟩ := ownsRow_succ hown'; have hb6 := below_append OWN5.out hsz5 hgrow; have OWN6 : Hid (w6.ownsRow w.heap.size 9 1 (.slice (some ⟨g', 0, none⟩) (k + 1) cap') (k + 1) (textVals (k + 1) (fun j => txt (D.readS ((q + j : Nat) : Int))))) := (by rw [← textVals_snoc, ← HSk.out]; exact hown'); have HB6 : Hid (Below w.heap.size w w6) := HB5.out.trans hb6; clear hown' hgrow hb6 t1)))
  go_roundg (n - (k + 1))
  case measure => omega
  case rel => exact ⟨k + 1, _, by omega, rfl, rfl, by go_num, OWN6.out, HB6.out, HGo2.out⟩
end
end Go.Proofs.YtjmeiifogblmoaaGreatDoor

namespace Go.Proofs.YtjmeiifogblmoaaGreatDoor
open Go.RowKit

section
variable {w : World} {rp dp t c : Nat} {D : Dr} {F : Nat → Prop}
set_option maxRecDepth 100000 in
set_option maxHeartbeats 4000000 in
theorem gfind_any (h : DriveAt w dp D F) (hr : GRing w rp dp t c) (hs : 0 < Ri.slots D.safe.length) (m : Nat) (hm : m < 18446744073709551616) :
    Calls Tryz.prog 52 #[.pointer (some ⟨rp, 0, none⟩), .int .u64 (m : Int)] w (RecAns w D m) := by
  have hF := fun (W : World) (hW : Below w.heap.size w W) => gplace_any (h.below hW) (hr.below hW) hs m hm
  have hR := fun (W : World) (hW : Below w.heap.size w W) (i : Int) => read_any (h.below hW) i
  have hLo := fun (W : World) (hW : Below w.heap.size w W) (q n : Nat) (hq : q ≤ 10001) (hn : n ≤ 40) => gload_any (h.below hW) (hr.below hW) q n hq hn
  obtain ⟨at_, hat⟩ : ∃ a, a = Ri.first D.safe.length m := ⟨_, rfl⟩
  have hat1 : at_ ≤ 10000 := by
    have := Nat.mod_lt m hs
    have h2 := slots_few h
    rw [hat]; unfold Ri.first
    omega
  rw [← hat] at hF
  obtain ⟨b, hb⟩ : ∃ b, b = Ri.headAt D m := ⟨_, rfl⟩
  have hbx : b = txt (D.readS (at_ : Nat)) := by rw [hb, hat]; rfl
  have hR0 := fun (W : World) (hW : Below w.heap.size w W) => hR W hW (at_ : Nat)
  rw [← hbx] at hR0
  obtain ⟨e0, he0⟩ : ∃ e0, e0 = D.readE (at_ : Nat) := ⟨_, rfl⟩
  rw [← he0] at hR0
  have HDat : Hid (∀ j, txt (D.readS ((at_ + 1 + j : Nat) : Int)) = Ri.dataAt D m j) := fun j => by rw [hat]; rfl
  have HGot : Hid (∀ k, Ri.gotTo D m k = true ↔ ∀ j, j < k → D.readE ((at_ + 1 + j : Nat) : Int) = 0) := fun k => by rw [hat]; exact Ri.gotTo_iff D m k
  have HIs : Hid (Ri.isRec D m = true ↔ e0 = 0 ∧ Rc.headE b = 0 ∧ Rc.hSeq b = m ∧ Ri.gotTo D m (Rc.hN b) = true ∧ Rc.decE b (Rc.hN b) (Ri.dataAt D m) = 0) := by
    show _ ↔ _
    rw [Ri.isRec_iff, ← hb, ← hat, ← he0]
  have HB : Hid (b = Ri.headAt D m) := hb
  have HSzs : Hid (∀ j, (Ri.dataAt D m j).size ≤ 64) := fun j => by unfold Ri.dataAt; rw [txt_size]; exact readS_sizeP h _
  have HF : Hid _ := hF
  have HR0 : Hid _ := hR0
  have HLo : Hid _ := hLo
  have HG : Hid (GRing w rp dp t c) := hr
  have hmi : (m : Int) < 18446744073709551616 := by omega
  have k0 := hr.k0
  have kb0 := hr.lt
  clear h hr hs hF hR hR0 hLo hat hb hbx he0
  go_enter Tryz.func52, Tryz.ntmps52
  go_wp2_with fail
  refine (HF.out _ ((Below.refl _ w).alloc (Nat.le_refl _) _)).mono ?_
  rintro e w1 ⟨rfl, rfl⟩
  have g0 := ((Below.refl w.heap.size w).alloc (Nat.le_refl _) (.cells #[.int .u64 0, .int .i64 0, .slice none 0 0] 71)).cell (p := ⟨rp, 0, none⟩) kb0 |>.trans k0
  clear k0
  go_wp2_with fail
  refine (HR0.out _ ((Below.refl _ w).alloc (Nat.le_refl _) _)).mono ?_
  rintro e w1 ⟨rfl, hb1⟩
  have HX1 : Hid (BoxAt w1 w.heap.size (.int .u64 0) (.int .i64 0) (.slice none 0 0)) := (BoxAt.new w 71 (.int .u64 0) (.int .i64 0) (.slice none 0 0)).below hb1 (by simp)
  have HB1 : Hid (Below w.heap.size w w1) := box_below hb1
  clear hb1 g0
  by_cases hz : e0 = 0
  case neg =>
    have hne : ((e0 : Int) != 0) = true := by rw [bne_iff_ne]; omega
    have HNo : Hid (Ri.isRec D m = false) := by
      show _ = _
      rw [← Bool.not_eq_true]
      exact fun hh => hz (HIs.out.1 hh).1
    have hl := HX1.out.lt
    obtain ⟨k0, k1, k2, f0, f1, f2⟩ := HX1.out
    clear hz
    go_wp2
    refine bodyPost_ret (ret_cell_tmp rfl _ _ ⟨w.heap.size, 0, none⟩ noRec rfl (by unfold noRec; go_simp)) rfl ?_
    exact rec_bad HNo.out (stored3 HB1.out (Nat.le_refl _) HB1.out.size _ _ _)
  case pos =>
  have hne : ((e0 : Int) != 0) = false := by rw [bne_eq_false_iff_eq]; omega
  have HH := fun W => (Head12_any b W)
  unfold HeadOwn at HH
  obtain ⟨he, hhe⟩ : ∃ he, he = Rc.headE b := ⟨_, rfl⟩
  obtain ⟨sq, hsq⟩ : ∃ sq, sq = Rc.hSeq b := ⟨_, rfl⟩
  obtain ⟨rw_, hrw⟩ : ∃ rw_, rw_ = Rc.hRow b := ⟨_, rfl⟩
  obtain ⟨n, hn⟩ : ∃ n, n = Rc.hN b := ⟨_, rfl⟩
  have hn40 : n ≤ 40 := by
    rw [hn]
    by_cases hh : Rc.headE b = 0
    · exact (Rc.head_places hh).2.2.2.2.1
    · unfold Rc.hN; rw [if_neg hh]; decide
  rw [← hhe, ← hsq, ← hrw, ← hn] at HH
  have HIs2 : Hid (Ri.isRec D m = true ↔ he = 0 ∧ sq = m ∧ Ri.gotTo D m n = true ∧ Rc.decE b n (Ri.dataAt D m) = 0) := by
    show _ ↔ _
    rw [HIs.out, hhe, hsq, hn]
    exact ⟨fun x => x.2, fun x => ⟨hz, x⟩⟩
  have HNm : Hid (he = Rc.headE b ∧ sq = Rc.hSeq b ∧ rw_ = Rc.hRow b ∧ n = Rc.hN b) := ⟨hhe, hsq, hrw, hn⟩
  clear hhe hsq hrw hn hz
  go_wp2_with fail
  refine (HH _).mono ?_
  rintro e w2 ⟨ah, ch, rfl, hp2, hb2⟩
  have HB2 : Hid (Below w.heap.size w w2) := below2 HB1.out hb2
  have HX2 : Hid (BoxAt w2 w.heap.size (.int .u64 0) (.int .i64 0) (.slice none 0 0)) := HX1.out.below hb2 HX1.out.lt
  clear hp2 hb2 HH
  go_upto_region 6 with fail
  obtain ⟨w3, hw3⟩ : ∃ w3, w3 = w2.alloc (.cells #[.int .u64 (sq : Int), .int .i64 (rw_ : Int), .slice ah n ch] 71) := ⟨_, rfl⟩
  rw [← hw3]
  obtain ⟨rb, hrb⟩ : ∃ rb, rb = w2.heap.size := ⟨_, rfl⟩
  have hr3 : BoxAt w3 rb (.int .u64 (sq : Int)) (.int .i64 (rw_ : Int)) (.slice ah n ch) := by rw [hw3, hrb]; exact BoxAt.new w2 _ _ _ _
  have b3 : Below w2.heap.size w2 w3 := by rw [hw3]; exact (Below.refl _ w2).alloc (Nat.le_refl _) _
  have HB3 : Hid (Below w.heap.size w w3) := below2 HB2.out b3
  have HX3 : Hid (BoxAt w3 w.heap.size (.int .u64 0) (.int .i64 0) (.slice none 0 0)) := HX2.out.below b3 HX2.out.lt
  have HR3 : Hid (BoxAt w3 rb (.int .u64 (sq : Int)) (.int .i64 (rw_ : Int)) (.slice ah n ch)) := hr3
  rw [← hrb]
  clear b3 hw3 hrb hr3
  by_cases hhz : he = 0
  case neg =>
    have hne2 : ((he : Int) != 0) = true := by rw [bne_iff_ne]; omega
    have HNo : Hid (Ri.isRec D m = false) := by
      show _ = _
      rw [← Bool.not_eq_true]
      exact fun hh => hhz (HIs2.out.1 hh).1
    have hl := HX3.out.lt
    obtain ⟨k0, k1, k2, f0, f1, f2⟩ := HX3.out
    clear hhz
    go_wp2
    refine bodyPost_ret (ret_cell_tmp rfl _ _ ⟨w.heap.size, 0, none⟩ noRec rfl (by unfold noRec; go_simp)) rfl ?_
    exact rec_bad HNo.out (stored3 HB3.out (Nat.le_refl _) HB3.out.size _ _ _)
  case pos =>
  have hne2 : ((he : Int) != 0) = false := by rw [bne_eq_false_iff_eq]; omega
  by_cases hsm : sq = m
  case neg =>
    have hne3 : ((sq : Int) != (m : Int)) = true := by rw [bne_iff_ne]; omega
    have HNo : Hid (Ri.isRec D m = false) := by
      show _ = _
      rw [← Bool.not_eq_true]
      exact fun hh => hsm (HIs2.out.1 hh).2.1
    have hl := HX3.out.lt
    have y0 := HR3.out.k0
    obtain ⟨k0, k1, k2, f0, f1, f2⟩ := HX3.out
    clear hhz hsm
    go_wp2
    refine bodyPost_ret (ret_cell_tmp rfl _ _ ⟨w.heap.size, 0, none⟩ noRec rfl (by unfold noRec; go_simp)) rfl ?_
    exact rec_bad HNo.out (stored3 HB3.out (Nat.le_refl _) HB3.out.size _ _ _)
  case pos =>
  have hne3 : ((sq : Int) != (m : Int)) = false := by rw [bne_eq_false_iff_eq]; omega
  have HIs3 : Hid (Ri.isRec D m = true ↔ Ri.gotTo D m n = true ∧ Rc.decE b n (Ri.dataAt D m) = 0) := by
    show _ ↔ _
    rw [HIs2.out]
    exact ⟨fun x => x.2.2, fun x => ⟨hhz, hsm, x⟩⟩
  have HHz : Hid (he = 0 ∧ sq = m) := ⟨hhz, hsm⟩
  have y0 := HR3.out.k0
  have y2 := HR3.out.k2
  have hlo := HLo.out w3 HB3.out (at_ + 1) n (by omega) hn40
  unfold LoadAns at hlo
  obtain ⟨p1, hp1⟩ : ∃ p1 : Nat, p1 = at_ + 1 := ⟨_, rfl⟩
  rw [← hp1] at hlo
  have hq1 : (at_ : Int) + 1 = (p1 : Int) := by omega
  have HLd : Hid ((∀ j, j < n → D.readE ((p1 + j : Nat) : Int) = 0) ↔ Ri.gotTo D m n = true) := by show _ ↔ _; rw [HGot.out, hp1]
  have HFn : Hid ((fun j => txt (D.readS ((p1 + j : Nat) : Int))) = Ri.dataAt D m) := by show _ = _; funext j; rw [hp1]; exact HDat.out j
  clear hhz hsm hp1
  go_wp2_with fail
  refine hlo.mono ?_
  rintro e w4 ⟨⟨hgot, aL, cL, rfl, hrs, hcap⟩ | ⟨hgot, rfl⟩, hb4⟩
  case inr =>
    have HB4 : Hid (Below w.heap.size w w4) := below2 HB3.out hb4
    have HX4 : Hid (BoxAt w4 w.heap.size (.int .u64 0) (.int .i64 0) (.slice none 0 0)) := HX3.out.below hb4 HX3.out.lt
    have HNo : Hid (Ri.isRec D m = false) := by
      show _ = _
      rw [← Bool.not_eq_true]
      exact fun hh => hgot (HLd.out.2 (HIs3.out.1 hh).1)
    have hl := HX4.out.lt
    obtain ⟨k0, k1, k2, f0, f1, f2⟩ := HX4.out
    clear hb4 hgot hlo y0 y2
    go_wp2
    refine bodyPost_ret (ret_cell_tmp rfl _ _ ⟨w.heap.size, 0, none⟩ noRec rfl (by unfold noRec; go_simp)) rfl ?_
    exact rec_bad HNo.out (stored3 HB4.out (Nat.le_refl _) HB4.out.size _ _ _)
  case inl =>
  have HB4 : Hid (Below w.heap.size w w4) := below2 HB3.out hb4
  have HX4 : Hid (BoxAt w4 w.heap.size (.int .u64 0) (.int .i64 0) (.slice none 0 0)) := HX3.out.below hb4 HX3.out.lt
  rw [HFn.out] at hrs
  have HGt : Hid (Ri.gotTo D m n = true) := HLd.out.1 hgot
  have hde := Decode12_new b aL n cL (Ri.dataAt D m) w4 (fun j _ => by have := HSzs.out j; omega) hcap hrs
  unfold DecNew12 at hde
  obtain ⟨de, hdee⟩ : ∃ de, de = Rc.decE b n (Ri.dataAt D m) := ⟨_, rfl⟩
  obtain ⟨ds, hds⟩ : ∃ ds, ds = Rc.dSeq b n (Ri.dataAt D m) := ⟨_, rfl⟩
  obtain ⟨dr, hdr⟩ : ∃ dr, dr = Rc.dRow b n (Ri.dataAt D m) := ⟨_, rfl⟩
  obtain ⟨dn, hdn⟩ : ∃ dn, dn = Rc.dN b n (Ri.dataAt D m) := ⟨_, rfl⟩
  rw [← hdee, ← hds, ← hdr, ← hdn] at hde
  have HDe : Hid (de = Rc.decE b n (Ri.dataAt D m) ∧ ds = Rc.dSeq b n (Ri.dataAt D m) ∧ dr = Rc.dRow b n (Ri.dataAt D m) ∧ dn = Rc.dN b n (Ri.dataAt D m)) := ⟨hdee, hds, hdr, hdn⟩
  clear hdee hds hdr hdn hrs hb4 hgot hlo y0 y2 hq1 hcap
  go_wp2_with fail
  refine hde.mono ?_
  rintro e w5 ⟨a5, c5, rfl, hp5, hn5, hb5⟩
  have HNw5 : Hid (∀ x, a5 = some x → w.heap.size ≤ x.block) := fun x hx => Nat.le_trans HB4.out.size (hn5 x hx)
  have HB5 : Hid (Below w.heap.size w w5) := below2 HB4.out hb5
  have HX5 : Hid (BoxAt w5 w.heap.size (.int .u64 0) (.int .i64 0) (.slice none 0 0)) := HX4.out.below hb5 HX4.out.lt
  have HP5 : Hid (PartsR w5 a5 dn (Rc.dPart b (Ri.dataAt D m))) := hp5
  have hl := HX5.out.lt
  obtain ⟨k0, k1, k2, f0, f1, f2⟩ := HX5.out
  clear hb5 hp5 hn5 hde
  by_cases hdz : de = 0
  case neg =>
    have hne5 : ((de : Int) == 0) = false := by rw [beq_eq_false_iff_ne]; omega
    have HNo : Hid (Ri.isRec D m = false) := by
      show _ = _
      rw [← Bool.not_eq_true]
      exact fun hh => hdz (by rw [HDe.out.1]; exact (HIs3.out.1 hh).2)
    clear hdz
    go_wp2
    refine bodyPost_ret (ret_cell_tmp rfl _ _ ⟨w.heap.size, 0, none⟩ (.agg #[.int .u64 (ds : Int), .int .i64 (dr : Int), .slice a5 dn c5]) rfl (by go_simp)) rfl ?_
    exact ⟨(ds : Int), (dr : Int), a5, dn, c5, by rw [HNo.out]; rfl, (fun e => by rw [HNo.out] at e; cases e), (stored3 HB5.out (Nat.le_refl _) HB5.out.size _ _ _).alloc (stored3 HB5.out (Nat.le_refl _) HB5.out.size _ _ _).size _⟩
  case pos =>
  have hne5 : ((de : Int) == 0) = true := by rw [beq_iff_eq]; omega
  have HYes : Hid (Ri.isRec D m = true) := HIs3.out.2 ⟨HGt.out, by rw [← HDe.out.1]; exact hdz⟩
  have HVal : Hid (ds = m ∧ dr = Ri.recRow D m ∧ dn = Ri.recN D m ∧ Rc.dPart b (Ri.dataAt D m) = Ri.recP D m) := by
    have hd0 : Rc.decE b n (Ri.dataAt D m) = 0 := by rw [← HDe.out.1]; exact hdz
    refine ⟨?_, ?_, ?_, ?_⟩
    · have e1 : Rc.dSeq b n (Ri.dataAt D m) = Rc.hSeq b := by unfold Rc.dSeq; rw [if_pos hd0]
      rw [HDe.out.2.1, e1, ← HNm.out.2.1]; exact HHz.out.2
    · rw [HDe.out.2.2.1]; unfold Rc.dRow Ri.recRow; rw [if_pos hd0, HB.out]
    · rw [HDe.out.2.2.2]; unfold Rc.dN Ri.recN; rw [if_pos hd0, HB.out]
    · unfold Ri.recP; rw [HB.out]
  clear hdz
  go_wp2
  refine bodyPost_ret (ret_cell_tmp rfl _ _ ⟨w.heap.size, 0, none⟩ (.agg #[.int .u64 (ds : Int), .int .i64 (dr : Int), .slice a5 dn c5]) rfl (by go_simp)) rfl ?_
  refine ⟨(ds : Int), (dr : Int), a5, dn, c5, by rw [HYes.out]; rfl, fun _ => ⟨by rw [HVal.out.1], by rw [HVal.out.2.1], HVal.out.2.2.1, ?_, HNw5.out⟩, (stored3 HB5.out (Nat.le_refl _) HB5.out.size _ _ _).alloc (stored3 HB5.out (Nat.le_refl _) HB5.out.size _ _ _).size _⟩
  rw [← HVal.out.2.2.1, ← HVal.out.2.2.2]
  have hpx := HP5.out.boxed HX5.out (.int .u64 (ds : Int)) (.int .i64 (dr : Int)) (.slice a5 dn c5)
  exact hpx.below ((Below.refl _ _).alloc (Nat.le_refl _) _)
end
end Go.Proofs.YtjmeiifogblmoaaGreatDoor

namespace Go.Proofs.YtjmeiifogblmoaaGreatDoor
open Go.RowKit

theorem info_rec13 : (Tryz.prog.info? 71).map (fun i => (i.zero, i.size, i.bytes)) = some (some (.agg #[.int .u64 0, .int .i64 0, .slice none 0 0]), 3, 40) := by kernel_rfl
/-- the program's own ring, its block in H -/
def GAt (w : World) (rp dp t c : Nat) (H : Nat → Prop) : Prop := GRing w rp dp t c ∧ H rp
theorem GRing.stored {w : World} {rp dp t c m : Nat} (h : GRing w rp dp t c) (hm : m = c + 1) : GRing (w.setCell ⟨rp, 2, none⟩ (.int .u64 (m : Int))) rp dp t (c + 1) := by
  unfold GRing at h ⊢
  rw [hm]
  exact heap_setCell_same w rp 2 _ _ _ h
section
variable {w : World} {dp : Nat} {D : Dr} {F : Nat → Prop}
/-- what can be read is a sector -/
theorem readS_fullP (h : DriveAt w dp D F) {i : Int} (he : D.readE i = 0) : (D.readS i).length = 64 := by
  obtain ⟨sb, pb, mb, hd, hin, _⟩ := h
  have ok := hin.ok
  have hr : D.reachE i = 0 := by
    refine Decidable.byContradiction fun hn => ?_
    unfold Dr.readE at he
    rw [if_neg hn] at he
    exact hn he
  have hb : D.hasB i = true := by
    unfold Dr.reachE at hr
    split at hr
    · split at hr
      · assumption
      · cases hr
    · contradiction
  unfold Dr.hasB at hb
  simp only [Bool.and_eq_true, decide_eq_true_eq] at hb
  unfold Dr.readS
  rw [if_pos he]
  unfold Dr.last
  split
  · rw [List.getD_eq_getElem?_getD, List.getElem?_eq_getElem (by omega)]
    exact ok.sector _ (List.getElem_mem _)
  · rename_i hne
    refine ok.writes i.toNat _ ?_
    rw [List.getD_eq_getElem?_getD, List.getElem?_eq_getElem (by have := List.length_pos_iff.2 hne; omega)]
    exact List.getElem_mem _
set_option maxRecDepth 100000 in
set_option maxHeartbeats 2000000 in
theorem gOpen_err (h : DriveAt w dp D F) (he : D.readE (3 : Nat) ≠ 0) : Calls Tryz.prog 16 #[.pointer (some ⟨dp, 0, none⟩)] w (POpenAns GAt w dp D) := by
  have HE : Hid (Ri.openE D = D.readE (3 : Nat) ∧ D.readE (3 : Nat) ≠ 0) := ⟨by unfold Ri.openE; rw [if_neg he], he⟩
  obtain ⟨q, hq⟩ : ∃ q, q = D.readE (3 : Nat) := ⟨_, rfl⟩
  have hne : ((q : Int) != 0) = true := by rw [bne_iff_ne]; omega
  have hR1 := read_any h (3 : Nat)
  rw [← hq] at hR1 HE
  clear he hq h
  go_enter Tryz.func16, Tryz.ntmps16
  go_wp2_with fail
  refine hR1.mono ?_
  rintro e w1 ⟨rfl, hb1⟩
  have HB1 : Hid (Below w.heap.size w w1) := hb1
  clear hb1 hR1
  go_wp2
  go_ret3
  exact ⟨.inl ⟨by rw [HE.out.1]; exact HE.out.2, none, 0, by rw [HE.out.1]; rfl⟩, HB1.out⟩
theorem gring_new (w : World) (dp x : Nat) : GRing (w.alloc (.cells #[.pointer (some ⟨dp, 0, none⟩), .int .u64 (x : Int), .int .u64 0] 90)) w.heap.size dp x 0 := heap_alloc_new w _
set_option maxRecDepth 100000 in
set_option maxHeartbeats 8000000 in
theorem gOpen_rest (h : DriveAt w dp D F) (he : D.readE (3 : Nat) = 0) : Calls Tryz.prog 16 #[.pointer (some ⟨dp, 0, none⟩)] w (POpenAns GAt w dp D) := by
  have h64 := readS_fullP h he
  have hR1 := read_any h (3 : Nat)
  have HE : Hid (Ri.openE D = if Ri.isMark (Ri.markAt D) = true ∧ 0 < Ri.slots D.safe.length then 0 else 200) := by show _ = _; unfold Ri.openE; rw [if_pos he]
  have H : Hid (DriveAt w dp D F) := h
  have hfew := slots_few h
  obtain ⟨b, hbb⟩ : ∃ b, b = Ri.markAt D := ⟨_, rfl⟩
  have hbs : b.size = 64 := by rw [hbb]; exact h64
  rw [he, show txt (D.readS (3 : Nat)) = b from hbb.symm] at hR1
  have HTo : Hid (Ri.openT D = Ri.told b) := by show _ = _; unfold Ri.openT; rw [hbb]
  rw [← hbb] at HE
  have hMk := fun W => gmarked_any b hbs W
  unfold MarkedAns at hMk
  obtain ⟨im, him⟩ : ∃ im, im = Ri.isMark b := ⟨_, rfl⟩
  rw [← him] at hMk HE
  clear h64 h he hbb hbs him
  go_enter Tryz.func16, Tryz.ntmps16
  go_wp2_with fail
  refine hR1.mono ?_
  rintro e w1 ⟨rfl, hb1⟩
  have HB1 : Hid (Below w.heap.size w w1) := hb1
  clear hR1 hb1
  go_wp2_with fail
  refine (hMk _).mono ?_
  rintro e w2 ⟨l0, rfl, ht, hl0, hb2⟩
  have HB2 : Hid (Below w.heap.size w w2) := below2 HB1.out hb2
  clear hMk hb2
  cases im with
  | false =>
    have HE2 : Hid (Ri.openE D = 200) := by show _ = _; rw [HE.out, if_neg (fun x => by cases x.1)]
    clear ht hl0
    go_wp2
    go_ret3
    exact ⟨.inl ⟨by rw [HE2.out]; decide, none, 0, by rw [HE2.out]; rfl⟩, HB2.out.alloc HB2.out.size _⟩
  | true =>
  have HT : Hid (Ri.openT D = l0) := by show _ = _; rw [HTo.out, ht rfl]
  clear ht
  go_upto_region 6 with fail
  obtain ⟨w3, hw3⟩ : ∃ w3, w3 = w2.alloc (.cells #[.pointer (some ⟨dp, 0, none⟩), .int .u64 (l0 : Int), .int .u64 0] 90) := ⟨_, rfl⟩
  obtain ⟨rr, hrr⟩ : ∃ rr, rr = w2.heap.size := ⟨_, rfl⟩
  have hr3 : GRing w3 rr dp l0 0 := by rw [hw3, hrr]; exact gring_new w2 dp l0
  have b3 : Below w2.heap.size w2 w3 := by rw [hw3]; exact (Below.refl _ w2).alloc (Nat.le_refl _) _
  have HB3 : Hid (Below w.heap.size w w3) := below2 HB2.out b3
  have HR3 : Hid (GRing w3 rr dp l0 0) := hr3
  have HLt : Hid (w.heap.size ≤ rr ∧ rr < w3.heap.size) := ⟨by rw [hrr]; exact HB2.out.size, hr3.lt⟩
  rw [← hw3, ← hrr]
  have hsl := gslots_any (H.out.below HB3.out) hr3
  obtain ⟨N, hN⟩ : ∃ N, N = Ri.slots D.safe.length := ⟨_, rfl⟩
  have HNN : Hid (N = Ri.slots D.safe.length) := hN
  rw [← hN] at hsl hfew
  clear hr3 b3 hw3 hrr hN
  by_cases hz : N = 0
  case pos =>
    have hz0 : ((N : Int) == 0) = true := by rw [beq_iff_eq]; omega
    have HE2 : Hid (Ri.openE D = 200) := by show _ = _; rw [HE.out, if_neg (fun x => by have := x.2; have := HNN.out; omega)]
    clear hz
    go_wp2_with fail
    refine hsl.mono ?_
    rintro e w4 ⟨rfl, rfl⟩
    go_wp2
    go_ret3
    exact ⟨.inl ⟨by rw [HE2.out]; decide, none, 0, by rw [HE2.out]; rfl⟩, HB3.out⟩
  case neg =>
  have hz0 : ((N : Int) == 0) = false := by rw [beq_eq_false_iff_ne]; omega
  have HE2 : Hid (Ri.openE D = 0) := by show _ = _; rw [HE.out, if_pos ⟨trivial, by have := HNN.out; omega⟩]
  have HS : Hid (0 < Ri.slots D.safe.length) := by show 0 < _; have := HNN.out; omega
  obtain ⟨i0, hi, hz0', hz1, hz2⟩ := info_parts info_rec13
  clear hz
  go_wp2_with fail
  refine hsl.mono ?_
  rintro e w6 ⟨rfl, rfl⟩
  clear hsl
  go_wp2
  go_loopg [10, 12] N (fun gg v u12 wr => ∃ (k : Nat) (u : Value) (A : Nat → Option Addr × Nat), k ≤ N ∧ gg = N - k ∧ u = v ∧ wr.ownsRow w6.heap.size 71 3 u k (vals3 (rec3 A (fun j => Ri.recT D (Ri.nth l0 (j + 1)))) k) ∧ Apart3 wr w6.heap.size u A (fun j => Ri.recT D (Ri.nth l0 (j + 1))) k ∧ GRing wr rr dp l0 k ∧ Only (fun x => x = rr) w6 wr ∧ ∀ j, j < k → Ri.isRec D (Ri.nth l0 (j + 1)) = true)
  case atStart => exact ⟨0, _, fun _ => (none, 0), Nat.zero_le _, rfl, rfl, World.ownsRow_nil _ _ _ _, fun j hj => absurd hj (Nat.not_lt_zero _), HR3.out, Only.refl _ _, fun j hj => absurd hj (Nat.not_lt_zero _)⟩
  case round =>
  obtain ⟨k, u, A, hk, rfl, rfl, hown, hA, hring, ho, hrec⟩ := hrel
  obtain ⟨aO, cO, rfl, hrecs, _, _⟩ := RecsR.of_owns hown (fun j hj => (hA j hj).1)
  have OWN : Hid (wr.ownsRow w6.heap.size 71 3 (.slice aO k cO) k (vals3 (rec3 A (fun j => Ri.recT D (Ri.nth l0 (j + 1)))) k)) := hown
  have HA : Hid (Apart3 wr w6.heap.size (.slice aO k cO) A (fun j => Ri.recT D (Ri.nth l0 (j + 1))) k) := hA
  have HRi : Hid (GRing wr rr dp l0 k) := hring
  have HOn : Hid (Only (fun x => x = rr) w6 wr) := ho
  have HRec : Hid (∀ j, j < k → Ri.isRec D (Ri.nth l0 (j + 1)) = true) := hrec
  have HRs : Hid (RecsR wr aO k (fun j => Ri.recT D (Ri.nth l0 (j + 1)))) := hrecs
  have HBr : Hid (Below w.heap.size w wr) := HB3.out.trans (ho.below (fun x hx => by rw [hx]; exact HLt.out.1) HB3.out.size)
  have hsz := ho.size
  have hlf := Left_any (H.out.below HBr.out) hring (by omega)
  rw [← HNN.out] at hlf
  obtain ⟨vv, hvv⟩ : ∃ vv : Int, vv = (N : Int) - (k : Int) := ⟨_, rfl⟩
  rw [← hvv] at hlf
  clear hown hA ho hrec hrecs hring
  by_cases hlt : k < N
  case neg =>
    have hkn : k = N := by omega
    have hv0 : decide ((0 : Int) < vv) = false := by rw [decide_eq_false_iff_not]; omega
    have HC : Hid (Ri.openC D = k) := by
      show _ = _
      unfold Ri.openC
      rw [HT.out, ← HNN.out]
      exact Ri.cnt_is HRec.out (by omega) (fun hh => by omega)
    clear hlt hk hvv
    subst hkn
    go_wp2_with fail
    refine hlf.mono ?_
    rintro e w7 ⟨rfl, hb7⟩
    have HB7 : Hid (Below w.heap.size w w7) := below2 HBr.out hb7
    have HRi7 : Hid (GRing w7 rr dp l0 k) := HRi.out.below hb7
    have HRs7 : Hid (RecsR w7 aO k (fun j => Ri.recT D (Ri.nth l0 (j + 1)))) := HRs.out.below hb7
    clear hb7 hlf
    go_wp2
    go_ret3
    refine ⟨.inr ⟨HE2.out, rr, aO, cO, ?_, ?_, ?_⟩, HB7.out⟩
    · rw [HC.out]; rfl
    · rw [HC.out, HT.out]; exact ⟨HRi7.out, HLt.out.1⟩
    · rw [HC.out, HT.out]; exact HRs7.out
  case pos =>
  have hv0 : decide ((0 : Int) < vv) = true := by rw [decide_eq_true_iff]; omega
  obtain ⟨m, hmm⟩ : ∃ m, m = Ri.nth l0 (k + 1) := ⟨_, rfl⟩
  have hml : m < 18446744073709551616 := by rw [hmm]; exact Ri.nth_lt _ _
  have HM : Hid (m = Ri.nth l0 (k + 1)) := hmm
  have HMl : Hid (m < 18446744073709551616) := hml
  clear hvv hmm hml
  go_wp2_with fail
  refine hlf.mono ?_
  rintro e w7 ⟨rfl, hb7⟩
  have HB7 : Hid (Below wr.heap.size wr w7) := hb7
  have hnx := Next_any (HRi.out.below hb7)
  rw [← HM.out] at hnx
  clear hb7 hlf
  go_wp2_with fail
  refine hnx.mono ?_
  rintro e wn ⟨rfl, hbn⟩
  have HBn : Hid (Below wr.heap.size wr wn) := below2 HB7.out hbn
  have HBWn : Hid (Below w.heap.size w wn) := below2 HBr.out HBn.out
  have hfind := gfind_any (H.out.below HBWn.out) (HRi.out.below HBn.out) HS.out m HMl.out
  unfold RecAns at hfind
  clear hbn hnx
  cases hir : Ri.isRec D m with
  | false =>
    rw [hir] at hfind
    have HC : Hid (Ri.openC D = k) := by
      show _ = _
      unfold Ri.openC
      rw [HT.out, ← HNN.out]
      exact Ri.cnt_is HRec.out (by omega) (fun _ => by rw [← HM.out]; exact hir)
    clear hir
    go_wp2_with fail
    refine hfind.mono ?_
    rintro e w8 ⟨q, r, ap, np, cp, rfl, _, hb8⟩
    have hb48 := below2 HBn.out hb8
    have HB8 : Hid (Below w.heap.size w w8) := below2 HBr.out hb48
    have HRi8 : Hid (GRing w8 rr dp l0 k) := HRi.out.below hb48
    have HRs8 : Hid (RecsR w8 aO k (fun j => Ri.recT D (Ri.nth l0 (j + 1)))) := HRs.out.below hb48
    clear hb8 hb48 hfind
    go_wp2
    go_ret3
    refine ⟨.inr ⟨HE2.out, rr, aO, cO, ?_, ?_, ?_⟩, HB8.out.alloc HB8.out.size _⟩
    · rw [HC.out]; rfl
    · rw [HC.out, HT.out]; exact ⟨HRi8.out.below ((Below.refl _ _).alloc (Nat.le_refl _) _), HLt.out.1⟩
    · rw [HC.out, HT.out]; exact HRs8.out.below ((Below.refl _ _).alloc (Nat.le_refl _) _)
  | true =>
    rw [hir] at hfind
    obtain ⟨rwk, hrwk⟩ : ∃ rwk, rwk = Ri.recRow D m := ⟨_, rfl⟩
    obtain ⟨nk, hnk⟩ : ∃ nk, nk = Ri.recN D m := ⟨_, rfl⟩
    have HRk : Hid ((fun j => Ri.recT D (Ri.nth l0 (j + 1))) k = ⟨m, (rwk : Nat), nk, Ri.recP D m⟩) := by
      show _ = _
      dsimp only
      rw [← HM.out, hrwk, hnk]; rfl
    have HHp := (Ri.isRec_iff D m).1 hir
    have hhp := Rc.head_places HHp.2.1
    have hrl : rwk < 256 := by rw [hrwk]; exact hhp.2.2.1
    have hnl : 1 ≤ nk ∧ nk ≤ 40 := by rw [hnk]; exact ⟨hhp.2.2.2.1, hhp.2.2.2.2.1⟩
    have HFd : Hid (Calls Tryz.prog 52 #[.pointer (some ⟨rr, 0, none⟩), .int .u64 (m : Int)] wn fun e w' => ∃ (ap : Option Addr) (cp : Nat), e = .returned (.tuple #[.agg #[.int .u64 (m : Int), .int .i64 (rwk : Int), .slice ap nk cp], .bool true]) ∧ PartsR w' ap nk (Ri.recP D m) ∧ (∀ x, ap = some x → wn.heap.size ≤ x.block) ∧ Below wn.heap.size wn w') := hfind.mono fun e w' ⟨q, r, ap, np, cp, he, hok, hb⟩ => by
      obtain ⟨rfl, rfl, rfl, hp, hnw⟩ := hok rfl
      rw [hrwk, hnk]
      exact ⟨ap, cp, he, hp, hnw, hb⟩
    have HRec2 : Hid (∀ j, j < k + 1 → Ri.isRec D (Ri.nth l0 (j + 1)) = true) := fun j hj => by
      by_cases e : j = k
      · rw [e, ← HM.out]; exact hir
      · exact HRec.out j (by omega)
    have hkw : IntKind.u64.wrap ((k : Int) + 1) = (((k + 1 : Nat)) : Int) := by rw [IntKind.wrap_u64]; omega
    obtain ⟨k2, hk2⟩ : ∃ k2, k2 = k + 1 := ⟨_, rfl⟩
    have HK2 : Hid (k2 = k + 1) := hk2
    rw [← hk2] at hkw
    clear hir hrwk hnk HHp hhp hfind hk2
    go_wp2_with fail
    refine HFd.out.mono ?_
    rintro e w8 ⟨ap, cp, rfl, hp8, hnw8, hb8⟩
    have HB8 : Hid (Below wr.heap.size wr w8) := below2 HBn.out hb8
    have HRi8 : Hid (GRing w8 rr dp l0 k) := HRi.out.below HB8.out
    have OWN8 : Hid (w8.ownsRow w6.heap.size 71 3 (.slice aO k cO) k (vals3 (rec3 A (fun j => Ri.recT D (Ri.nth l0 (j + 1)))) k)) := ownsRow_below OWN.out HB8.out
    have HP8 : Hid (PartsR w8 ap nk (Ri.recP D m)) := hp8
    have HNw8 : Hid (∀ x, ap = some x → wr.heap.size ≤ x.block) := fun x hx => Nat.le_trans HBn.out.size (hnw8 x hx)
    clear hb8 hp8 hnw8
    have HNx8 : Hid (∀ x, ap = some x → wr.heap.size ≤ x.block ∧ x.block < w8.heap.size) := fun x hx => ⟨HNw8.out x hx, HP8.out.lt hnl.1 x hx⟩
    have HPp8 : Hid (PartsR w8 ap ((fun j => Ri.recT D (Ri.nth l0 (j + 1))) k).n ((fun j => Ri.recT D (Ri.nth l0 (j + 1))) k).f) := by
      show PartsR _ _ _ _
      have := HRk.out
      dsimp only at this ⊢
      rw [this]
      exact HP8.out
    have HLn : Hid (k < N) := hlt
    clear hlt
    go_upto_region 11 with fail
    obtain ⟨w9, hw9⟩ : ∃ w9, w9 = w8.alloc (.cells #[.int .u64 (m : Int), .int .i64 (rwk : Int), .slice ap nk cp] 71) := ⟨_, rfl⟩
    obtain ⟨xb, hxb⟩ : ∃ xb, xb = w8.heap.size := ⟨_, rfl⟩
    have hx9 : BoxAt w9 xb (.int .u64 (m : Int)) (.int .i64 (rwk : Int)) (.slice ap nk cp) := by rw [hw9, hxb]; exact BoxAt.new w8 _ _ _ _
    have b9 : Below w8.heap.size w8 w9 := by rw [hw9]; exact (Below.refl _ w8).alloc (Nat.le_refl _) _
    have HB9 : Hid (Below w8.heap.size w8 w9) := b9
    have OWN9 : Hid (w9.ownsRow w6.heap.size 71 3 (.slice aO k cO) k (vals3 (rec3 A (fun j => Ri.recT D (Ri.nth l0 (j + 1)))) k)) := ownsRow_below OWN8.out b9
    have HRi9 : Hid (GRing w9 rr dp l0 k) := HRi8.out.below b9
    have hs9 : w6.heap.size ≤ w9.heap.size := Nat.le_trans hsz (Nat.le_trans HB8.out.size b9.size)
    have hlx := hx9.lt
    obtain ⟨k0, k1, k2', f0, f1, f2⟩ := hx9
    rw [← hw9, ← hxb]
    clear b9 hw9 hxb
    have t1 : True := trivial
    go_wp2_with (first | (at_builtin; go_loud (have _t := t1; refine wpList_append_lies _ rfl _ _ 35 rfl w6.heap.size 71 i0 (.agg #[.int .u64 0, .int .i64 0, .slice none 0 0]) 3 40 Tryz.underlying35 hi hz0' hz1 hz2 rfl (by decide) (.slice aO k cO) k (vals3 (rec3 A (fun j => Ri.recT D (Ri.nth l0 (j + 1)))) k) rfl (OWN9.out.alloc _) ⟨_, 0, none⟩ 1 1 [.int .u64 (m : Int), .int .i64 (rwk : Int), .slice ap nk cp] rfl rfl (news3 _ _ _ _ _) (by simp [Value.oneCell']) (by decide) (by unfold maxLen; omega) (by omega) (by simp; omega) _ rfl ?_; intro g c' w10 hown' hgrow hlies hglt; obtain ⟨hap10, hb10⟩ := HA.out.grow (c' := c') OWN.out hsz HB8.out HPp8.out HNx8.out (HB9.out.alloc HB9.out.size _) hgrow hlies; have HA10 : Hid (Apart3 w10 w6.heap.size (.slice (some ⟨g, 0, none⟩) (k + 1) c') (with2 A k (ap, cp)) (fun j => Ri.recT D (Ri.nth l0 (j + 1))) (k + 1)) := hap10; have OWN10 : Hid (w10.ownsRow w6.heap.size 71 3 (.slice (some ⟨g, 0, none⟩) (k + 1) c') (k + 1) (vals3 (rec3 (with2 A k (ap, cp)) (fun j => Ri.recT D (Ri.nth l0 (j + 1)))) (k + 1))) := own_next HRk.out hown'; have hr10 : GRing w10 rr dp l0 k := (hb10.block rr HLt.out.2).trans HRi.out; have HRi10 : Hid (GRing w10 rr dp l0 k) := hr10; have HOn10 : Hid (Only (fun x => x = rr) w6 w10) := only_low HOn.out (hb10.mono (Nat.le_refl _)); have m10 : w10.cell? ⟨rr, 2, none⟩ = some (.int .u64 (k : Int)) := hr10.k2; have fz10 := hr10.fz 2; have hl10 := hr10.lt; clear hown' hgrow hlies hap10 hr10 hb10 t1 k0 k1 k2' f0 f1 f2)))
    go_roundg (N - (k + 1))
    case measure => have := HLn.out; omega
    case rel => exact ⟨k + 1, _, with2 A k (ap, cp), by have := HLn.out; omega, rfl, rfl, own_set OWN10.out HLt.out.2 _, HA10.out.set HLt.out.2 _, HRi10.out.stored HK2.out, HOn10.out.then (Only.setCell _ _ _ _ rfl), HRec2.out⟩
theorem gOpen_any (h : DriveAt w dp D F) : Calls Tryz.prog 16 #[.pointer (some ⟨dp, 0, none⟩)] w (POpenAns GAt w dp D) := by
  by_cases he : D.readE (3 : Nat) = 0
  · exact gOpen_rest h he
  · exact gOpen_err h he
end
end Go.Proofs.YtjmeiifogblmoaaGreatDoor
