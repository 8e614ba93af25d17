/- Several texts in one. The walk of the document's own Save, on whatever such a drive holds. The walk of the document's own Next, on whatever such a drive holds. The walk of same: what both drives' slots hold, held against one another. Both drives, the program's and the document's own, told by one plain drive: what each call of either makes of the pair. -/
import Derived.Test.YtgkhnfchohcjeaaGreatMRefD
import Derived.Test.YtgkhnfchohcjeaaGreatSlBase
import Derived.Test.YtgkhnfchohcjeaaGreatMSupA
import Derived.Test.YtgkhnfchohcjeaaGreatKitDet
import Derived.Deep.LoopGhost
import Derived.Test.YtgkhnfchohcjeaaGreatMRefA
import Derived.Deep.Onto
namespace Go.Proofs.YtgkhnfchohcjeaaGreat
open Go.RowKit

section
variable {w w' : World} {rp : Nat} {R : Dr} {G : Nat → Prop}
/-- what Save leaves of such a drive -/
def RSavedAt (w w' : World) (rp : Nat) (R' : Dr) (G : Nat → Prop) : Prop := RefAt w' rp R' (Plus G w.heap.size) ∧ Only G w w'
theorem rSavedAt_below (h : RefAt w rp R G) (hb : Below w.heap.size w w') : RSavedAt w w' rp R G :=
  ⟨(h.below hb).mono fun _ hk => .inl hk, Only.of_below hb G⟩
theorem rEnc (s : Su) (hI : s.Bd) (w : World) : Calls Tryz.prog 24 #[.agg (supL s).toArray] w fun e w' => e = .returned (.tuple #[.string (Sup.encT s), .int .i64 (Sup.encE s)]) ∧ Below w.heap.size w w' :=
  rEncode8_any s ⟨hI.1, hI.2.1, hI.2.2.1, hI.2.2.2⟩ w
set_option maxRecDepth 100000 in
set_option maxHeartbeats 2000000 in
theorem rSave_arg (h : RefAt w rp R G) (s : Su) (hI : s.Bd) (hm : Sup.mayB s = false) :
    Calls Tryz.prog 9 #[.pointer (some ⟨rp, 0, none⟩), .agg (supL s).toArray] w fun e w' => e = .returned (.int .i64 1) ∧ RSavedAt w w' rp R G := by
  have hE := fun W => rEnc s hI W
  rw [show Sup.encE s = 1 by simp [Sup.encE, hm]] at hE
  obtain ⟨l, el, L⟩ := rup_letter s
  rw [el] at hE ⊢
  have H : Hid (RefAt w rp R G) := h
  have HL : Hid _ := L
  have RR : Hid _ := range_new w 39 l
  clear h L el hI hm
  go_enter Tryz.func9, Tryz.ntmps9
  go_wp2_with (first
    | (refine wpList_load_mid rfl 39 _ rfl w.heap.size 0 rfl l _ RR.out Tryz.underlying39 rfl HL.out.info ?_))
  refine (hE _).mono ?_
  rintro e w1 ⟨rfl, hb1⟩
  have HB : Hid (Below w.heap.size w w1) := ((Below.refl w.heap.size w).alloc (Nat.le_refl _) _).trans (hb1.mono (by rw [World.size_alloc]; omega))
  clear hE hb1
  go_wp2
  go_ret
  exact ⟨rfl, rSavedAt_below H.out HB.out⟩
set_option maxRecDepth 100000 in
set_option maxHeartbeats 2000000 in
theorem rSave_no (h : RefAt w rp R G) (hg : R.goes = false) (s : Su) (hI : s.Bd) (hm : Sup.mayB s = true) (ht : R.reachE (Dr.slot s) ≠ 0) :
    Calls Tryz.prog 9 #[.pointer (some ⟨rp, 0, none⟩), .agg (supL s).toArray] w fun e w' => e = .returned (.int .i64 (R.reachE (Dr.slot s) : Nat)) ∧ RSavedAt w w' rp R G := by
  have hE := fun W => rEnc s hI W
  obtain ⟨e1, e2, e3⟩ := enc_yes hI hm
  rw [e1, e2] at hE
  have hW := fun (W : World) (hW : RefAt W rp R G) => rWrite_no hW hg (Dr.slot s) (Sup.secT s) ht
  simp only [slot_cast] at hW ht ⊢
  obtain ⟨r, er⟩ : ∃ r, r = R.reachE ((s.ev : Int) % 2) := ⟨_, rfl⟩
  rw [← er] at hW ht ⊢
  have hne : ((r : Int) != 0) = true := by simp only [bne_iff_ne, ne_eq]; omega
  obtain ⟨t, et⟩ : ∃ t, t = Sup.secT s := ⟨_, rfl⟩
  rw [← et] at hE hW
  obtain ⟨l, el, L⟩ := rup_letter s
  rw [el] at hE ⊢
  have HV := L.ev
  obtain ⟨v, ev⟩ : ∃ v, v = s.ev := ⟨_, rfl⟩
  rw [← ev] at hW HV
  have hv : (v : Int) < 18446744073709551616 := by have := hI.2.1; omega
  have H : Hid (RefAt w rp R G) := h
  have HW : Hid _ := hW
  have HV : Hid _ := HV
  have HL : Hid _ := L
  have RR : Hid _ := range_new w 39 l
  clear h L el hI hm er et ev e1 e2 e3 hW ht hg
  go_enter Tryz.func9, Tryz.ntmps9
  go_wp2_with (first
    | (refine wpList_load_mid rfl 39 _ rfl w.heap.size 0 rfl l _ RR.out Tryz.underlying39 rfl HL.out.info ?_))
  refine (hE _).mono ?_
  rintro e w1 ⟨rfl, hb1⟩
  have R1 := range_below RR.out (by rw [World.size_alloc]; exact Nat.lt_succ_self _) hb1
  have hb : Below w.heap.size w w1 := ((Below.refl w.heap.size w).alloc (Nat.le_refl _) _).trans (hb1.mono (by rw [World.size_alloc]; omega))
  have HB : Hid (Below w.heap.size w w1) := hb
  have hev := range_cell R1 HV.out
  have hw := HW.out w1 (H.out.below hb)
  clear hE hb1 R1 hb
  go_wp2_with fail
  refine hw.mono ?_
  rintro e w2 ⟨rfl, rfl⟩
  go_wp2
  go_ret
  exact ⟨rfl, rSavedAt_below H.out HB.out⟩
set_option maxRecDepth 100000 in
set_option maxHeartbeats 2000000 in
theorem rSave_yes (h : RefAt w rp R G) (hg : R.goes = false) (hd : R.dead = false) (s : Su) (hI : s.Bd) (hm : Sup.mayB s = true) (ht : R.reachE (Dr.slot s) = 0) (hi : Dr.slot s < R.safe.length) (hlen : ∀ i, (R.writes i).length < 1000000) :
    Calls Tryz.prog 9 #[.pointer (some ⟨rp, 0, none⟩), .agg (supL s).toArray] w fun e w' => e = .returned (.int .i64 0) ∧ RSavedAt w w' rp (R.savedD s) G := by
  have hE := fun W => rEnc s hI W
  obtain ⟨e1, e2, e3⟩ := enc_yes hI hm
  rw [e1, e2] at hE
  have hW := fun (W : World) (hW : RefAt W rp R G) => rWrite_yes hW hg (Dr.slot s) hi ht (Nat.le_of_lt (hlen _)) (Sup.secT s) e3
  have hlen2 : ∀ i, ((R.put (Dr.slot s) (Sup.secT s).data.toList).writes i).length ≤ 1000000 := fun i => by
    show (if i = Dr.slot s then R.writes (Dr.slot s) ++ [(Sup.secT s).data.toList] else R.writes i).length ≤ _
    split
    · have := hlen (Dr.slot s); simp; omega
    · exact Nat.le_of_lt (hlen i)
  have hDD : R.savedD s = (R.put (Dr.slot s) (Sup.secT s).data.toList).settle fun _ c => c := rfl
  have hg2 : (R.put (Dr.slot s) (Sup.secT s).data.toList).goes = false := hg
  have hd2 : (R.put (Dr.slot s) (Sup.secT s).data.toList).dead = false := hd
  obtain ⟨D2, eD⟩ : ∃ D2, D2 = R.put (Dr.slot s) (Sup.secT s).data.toList := ⟨_, rfl⟩
  rw [hDD]
  rw [← eD] at hW hlen2 hg2 hd2 ⊢
  simp only [slot_cast] at hW
  have hF := fun (W : World) (G : Nat → Prop) (hW : RefAt W rp D2 G) => rFlush_yes hW hg2 hd2 hlen2
  obtain ⟨t, et⟩ : ∃ t, t = Sup.secT s := ⟨_, rfl⟩
  rw [← et] at hE hW
  obtain ⟨l, el, L⟩ := rup_letter s
  rw [el] at hE ⊢
  have HV := L.ev
  obtain ⟨v, ev⟩ : ∃ v, v = s.ev := ⟨_, rfl⟩
  rw [← ev] at hW HV
  have hv : (v : Int) < 18446744073709551616 := by have := hI.2.1; omega
  have H : Hid (RefAt w rp R G) := h
  have HW : Hid _ := hW
  have HF : Hid _ := hF
  have HV : Hid _ := HV
  have HL : Hid _ := L
  have RR : Hid _ := range_new w 39 l
  clear h L el hI hm et ev e1 e2 e3 hW ht hF hlen hi eD hlen2 hg hd hg2 hd2 hDD
  go_enter Tryz.func9, Tryz.ntmps9
  go_wp2_with (first
    | (refine wpList_load_mid rfl 39 _ rfl w.heap.size 0 rfl l _ RR.out Tryz.underlying39 rfl HL.out.info ?_))
  refine (hE _).mono ?_
  rintro e w1 ⟨rfl, hb1⟩
  have R1 := range_below RR.out (by rw [World.size_alloc]; exact Nat.lt_succ_self _) hb1
  have hb : Below w.heap.size w w1 := ((Below.refl w.heap.size w).alloc (Nat.le_refl _) _).trans (hb1.mono (by rw [World.size_alloc]; omega))
  have HB : Hid (Below w.heap.size w w1) := hb
  have hev := range_cell R1 HV.out
  have hw := HW.out w1 (H.out.below hb)
  clear hE hb1 R1 hb
  go_wp2_with fail
  refine hw.mono ?_
  rintro e w2 ⟨rfl, hd, ho⟩
  have HD : Hid (RSavedAt w w2 rp D2 G) := ⟨hd.mono (plus_below HB.out.size), (Only.of_below HB.out G).then ho⟩
  have HS : Hid (w1.heap.size ≤ w2.heap.size ∧ Below w.heap.size w w1) := ⟨ho.size, HB.out⟩
  have hf := HF.out w2 _ hd
  clear hw hd ho
  go_wp2_with fail
  refine hf.mono ?_
  rintro e w3 ⟨rfl, hd, ho⟩
  have HE : Hid (RSavedAt w w3 rp (D2.settle fun _ c => c) G) := ⟨hd.mono (plus_below HS.out.2.size), HD.out.2.trans (ho.mono (plus_below HS.out.2.size))⟩
  clear hf hd ho
  go_wp2
  go_ret
  exact ⟨rfl, HE.out⟩
theorem rSave_any (h : RefAt w rp R G) (hg : R.goes = false) (s : Su) (hI : s.Bd) (h2 : 2 ≤ R.safe.length) (hlen : ∀ i, (R.writes i).length < 1000000) :
    Calls Tryz.prog 9 #[.pointer (some ⟨rp, 0, none⟩), .agg (supL s).toArray] w fun e w' => e = .returned (.int .i64 (R.saveE s : Nat)) ∧ RSavedAt w w' rp (R.saveD s) G := by
  have hi : Dr.slot s < R.safe.length := by have := Dr.slot_lt s; omega
  cases hm : Sup.mayB s
  case false =>
    have e1 : R.saveE s = 1 := by unfold Dr.saveE; rw [hm]; rfl
    have e2 : R.saveD s = R := by unfold Dr.saveD; rw [hm]; rfl
    rw [e1, e2]; exact rSave_arg h s hI hm
  case true =>
    cases hd : R.dead
    case true =>
      have hr : R.reachE (Dr.slot s) = 40 := by unfold Dr.reachE Dr.runsE; rw [hd]; rfl
      have ht : R.takeE (Dr.slot s) 64 = 40 := by unfold Dr.takeE; rw [hr]; rfl
      have e1 : R.saveE s = 40 := by unfold Dr.saveE; rw [hm, if_pos rfl, ht]; rfl
      have e2 : R.saveD s = R := by unfold Dr.saveD; rw [hm, if_pos rfl, ht]; rfl
      have := rSave_no h hg s hI hm (by rw [hr]; decide)
      rw [hr] at this
      rw [e1, e2]; exact this
    case false =>
      have hv : R.Live R.safe.length := ⟨hd, hg, rfl⟩
      obtain ⟨e1, e2⟩ := hv.saves h2 (show Sup.may s by simpa [Sup.mayB] using hm)
      rw [e1, e2]
      exact rSave_yes h hg hd s hI hm (hv.reach hi) hi hlen
end
end Go.Proofs.YtgkhnfchohcjeaaGreat

namespace Go.Proofs.YtgkhnfchohcjeaaGreat
open Go.RowKit

section
variable {w w' : World} {rp : Nat} {R : Dr} {G : Nat → Prop}
theorem rNext_done {w U w6 : World} {R2 : Dr} (hd : RefAt w6 rp R2 (Plus (fun k => G k ∧ k < w.heap.size) U.heap.size)) (ho : Only (fun k => G k ∧ k < w.heap.size) U w6) (hb : Below w.heap.size w U) (hs : w.heap.size + 2 ≤ U.heap.size) (vs : List Value) :
    RSavedAt w (w6.setCells (w.heap.size + 1) 0 vs) rp R2 G := by
  have o : Only (One (w.heap.size + 1)) w6 (w6.setCells (w.heap.size + 1) 0 vs) := Only.setCells _ w6 _ 0 vs rfl
  refine ⟨(hd.only o fun k _ hk e => ?_).mono fun k hk => ?_, ?_⟩
  · have e' : k = w.heap.size + 1 := e
    rcases hk with h1 | h1
    · have := h1.2; omega
    · omega
  · rcases hk with h1 | h1
    · exact .inl h1.1
    · exact .inr (by omega)
  · refine ((Only.of_below hb G).then (ho.mono fun k hk => hk.1)).trans ?_
    exact Only.setCells _ w6 _ 0 vs (.inr (Nat.le_succ _))
set_option maxRecDepth 100000 in
set_option maxHeartbeats 2000000 in
theorem rNext_yes (h : RefAt w rp R G) (hg : R.goes = false) (s : Su) (hI : s.Bd) (h2 : 2 ≤ R.safe.length) (hlen : ∀ i, (R.writes i).length < 1000000) (hL : R.loadE = 0) :
    Calls Tryz.prog 11 #[.pointer (some ⟨rp, 0, none⟩), .agg (supL s).toArray] w fun e w' => e = .returned (.tuple #[.agg (supL (R.nextS s)).toArray, .int .i64 (R.saveE (R.bump s) : Nat)]) ∧ RSavedAt w w' rp (R.saveD (R.bump s)) G := by
  have hb0 : Below w.heap.size w ((w.alloc (.cells (supL s).toArray 39)).alloc (.cells (supL Sup.none).toArray 39)) := ((Below.refl _ w).alloc (Nat.le_refl _) _).alloc (by rw [World.size_alloc]; omega) _
  have hLd := rLoad_any (h.tight.below hb0) hg
  have hbump : R.bump s = { s with ev := (R.loadS.ev + 1) % 18446744073709551616 } := by unfold Dr.bump; rw [if_pos hL]
  obtain ⟨y, ey⟩ : ∃ y, y = (R.loadS.ev + 1) % 18446744073709551616 := ⟨_, rfl⟩
  obtain ⟨x, ex⟩ : ∃ x, x = R.loadS.ev := ⟨_, rfl⟩
  rw [← ey] at hbump
  rw [← ex] at ey
  have hy : IntKind.u64.wrap ((x : Int) + 1) = (y : Int) := by rw [IntKind.wrap_u64]; omega
  have hyl : y < 18446744073709551616 := by rw [ey]; exact Nat.mod_lt _ (by decide)
  obtain ⟨z, ez⟩ : ∃ z, z = R.bump s := ⟨_, rfl⟩
  have hnext : R.nextS s = if R.saveE z = 0 then z else Sup.none := by unfold Dr.nextS; rw [ez]
  have hzI : z.Bd := by rw [ez, hbump]; exact ⟨hI.1, hyl, hI.2.2.1, hI.2.2.2⟩
  have hzL : supL z = (supL s).set 1 (.int .u64 (y : Int)) := by rw [ez, hbump, supL_set]
  have hSv := fun (W : World) (G : Nat → Prop) (h : RefAt W rp R G) => rSave_any h hg z hzI h2 hlen
  rw [← ez]
  obtain ⟨m, em, M⟩ := rup_letter R.loadS
  obtain ⟨l, el, L⟩ := rup_letter s
  obtain ⟨q, eq, Q⟩ := rup_letter z
  rw [em] at hLd
  rw [el] at hLd ⊢
  rw [eq] at hSv
  rw [eq, el] at hzL
  obtain ⟨r, er⟩ : ∃ r, r = R.saveE z := ⟨_, rfl⟩
  rw [← er] at hSv hnext ⊢
  obtain ⟨D2, eD⟩ : ∃ D2, D2 = R.saveD z := ⟨_, rfl⟩
  rw [← eD] at hSv ⊢
  rw [hL] at hLd
  have HME : Hid (m[1]? = some (.int .u64 (x : Int))) := by rw [ex]; exact M.ev
  have HLE : Hid (l[1]? = some (.int .u64 (s.ev : Int))) := L.ev
  have H : Hid (RefAt w rp R (fun k => G k ∧ k < w.heap.size)) := h.tight
  have HM : Hid _ := M
  have HL : Hid _ := L
  have HQ : Hid _ := Q
  have HS : Hid _ := hSv
  have HN : Hid (R.nextS s = if r = 0 then z else Sup.none) := hnext
  have HE : Hid (supL z = q ∧ q = l.set 1 (.int .u64 (y : Int))) := ⟨eq, hzL⟩
  have hxl : (x : Int) < 18446744073709551616 := by rw [ex]; have e0 := Dr.loadS_lt R; omega
  clear hb0 hL h M L Q hSv hnext eq hzL el em er eD ez hzI hbump hI h2 hlen hg ey ex hyl
  go_enter Tryz.func11, Tryz.ntmps11
  go_wp2_with fail
  refine hLd.mono ?_
  rintro e w1 ⟨rfl, hb1⟩
  have TA : Hid (∀ C : Array Value, C.size = 10 → (w1.alloc (.cells C 39)).there w1.heap.size 0 m.toArray.size) := fun C hC => by rw [HM.out.size]; exact there_new w1 C _ 10 (by omega)
  go_upto_region 2 with (first
    | (refine wpList_store_mid rfl 39 _ _ rfl w1.heap.size 0 m.toArray rfl rfl (TA.out _ rfl) HM.out.infoA HM.out.one ?_; change wpList _ _ _ _ _ (World.setCells _ _ _ m)))
  obtain ⟨V, hV⟩ : ∃ V, V = (w1.alloc (.cells (supL Sup.none).toArray 39)).setCells w1.heap.size 0 m := ⟨_, rfl⟩
  change Code.wp _ _ _ _ ((w1.alloc (.cells (supL Sup.none).toArray 39)).setCells w1.heap.size 0 m)
  have hv := next_at HL.out.len HM.out.len HME.out (supL Sup.none).toArray (supL Sup.none).toArray rfl rfl hb1
  rw [← hV] at hv ⊢
  have hlast := hv.last
  have harg := range_cell hv.arg HLE.out
  rw [Nat.zero_add] at harg
  have hfree := (hv.argT 1 (by decide)).2
  rw [Nat.zero_add] at hfree
  obtain ⟨B, hB⟩ : ∃ B, B = w1.heap.size := ⟨_, rfl⟩
  rw [← hB] at hv hlast ⊢
  have HVB : Hid (NextAt w V B l x) := hv
  clear hv hV TA hLd hb1 hB
  go_upto_region 6 with fail
  obtain ⟨U, hU⟩ : ∃ U, U = V.setCell ⟨w.heap.size, 1, none⟩ (.int .u64 (y : Int)) := ⟨_, rfl⟩
  rw [← hU]
  have hru : U.rangeAt w.heap.size 0 q ∧ U.there (w.heap.size + 1) 0 10 ∧ Below w.heap.size w U ∧ w.heap.size + 2 ≤ U.heap.size := by
    rw [hU, HE.out.2]
    exact next_set HVB.out HLE.out _
  have HU : Hid _ := hru
  have RU : Hid _ := hru.1
  have hs := HS.out U _ (H.out.below hru.2.2.1)
  clear hru hU harg hfree hlast
  go_wp2_with (first
    | (refine wpList_load_mid rfl 39 _ rfl w.heap.size 0 rfl q _ RU.out Tryz.underlying39 rfl HQ.out.info ?_))
  refine hs.mono ?_
  rintro e w6 ⟨rfl, hd6, ho6⟩
  have R6 : Hid _ := range_only HU.out.1 (by have := HU.out.2.2.2; omega) ho6 (fun hk => absurd hk.2 (Nat.lt_irrefl _))
  have T6 : Hid _ := there_only HU.out.2.1 (by have := HU.out.2.2.2; omega) ho6 (fun hk => absurd hk.2 (by omega))
  have HD : Hid (∀ vs, RSavedAt w (w6.setCells (w.heap.size + 1) 0 vs) rp D2 G) := fun vs => rNext_done hd6 ho6 HU.out.2.2.1 HU.out.2.2.2 vs
  clear hs hd6 ho6
  by_cases hr : r = 0
  · have HZ : Hid (R.nextS s = z) := HN.out.trans (if_pos hr)
    clear HN
    subst hr
    have T6q : Hid (w6.there (w.heap.size + 1) 0 q.toArray.size) := by rw [HQ.out.size]; exact T6.out
    go_wp2_with (first
      | (refine wpList_load_mid rfl 39 _ rfl w.heap.size 0 rfl q _ R6.out Tryz.underlying39 rfl HQ.out.info ?_)
      | (refine wpList_store_mid rfl 39 _ _ rfl (w.heap.size + 1) 0 q.toArray rfl rfl T6q.out HQ.out.infoA HQ.out.one ?_))
    refine bodyPost_ret (results_cell_slot rfl _ _ (w.heap.size + 1) 0 q _ rfl (World.rangeAt_setCells_same _ _ _ _ T6q.out) Tryz.underlying39 rfl HQ.out.info) rfl ⟨?_, HD.out _⟩
    rw [HZ.out, HE.out.1]; rfl
  · have hne : ((r : Int) != 0) = true := by simp only [bne_iff_ne, ne_eq]; omega
    have HZ : Hid (R.nextS s = Sup.none) := HN.out.trans (if_neg hr)
    clear hr HN
    go_wp2_with (first
      | (refine wpList_store_mid rfl 39 _ _ rfl (w.heap.size + 1) 0 (supL Sup.none).toArray rfl rfl T6.out info_rsup (supL_one _) ?_))
    refine bodyPost_ret (results_cell_slot rfl _ _ (w.heap.size + 1) 0 (supL Sup.none) _ rfl (World.rangeAt_setCells_same _ _ _ _ T6.out) Tryz.underlying39 rfl info_rsup) rfl ⟨?_, HD.out _⟩
    rw [HZ.out]; rfl
set_option maxRecDepth 100000 in
set_option maxHeartbeats 2000000 in
theorem rNext_no (h : RefAt w rp R G) (hg : R.goes = false) (s : Su) (hI : s.Bd) (h2 : 2 ≤ R.safe.length) (hlen : ∀ i, (R.writes i).length < 1000000) (hL : R.loadE ≠ 0) :
    Calls Tryz.prog 11 #[.pointer (some ⟨rp, 0, none⟩), .agg (supL s).toArray] w fun e w' => e = .returned (.tuple #[.agg (supL (R.nextS s)).toArray, .int .i64 (R.saveE (R.bump s) : Nat)]) ∧ RSavedAt w w' rp (R.saveD (R.bump s)) G := by
  have hb0 : Below w.heap.size w ((w.alloc (.cells (supL s).toArray 39)).alloc (.cells (supL Sup.none).toArray 39)) := ((Below.refl _ w).alloc (Nat.le_refl _) _).alloc (by rw [World.size_alloc]; omega) _
  have hLd := rLoad_any (h.tight.below hb0) hg
  have hbump : R.bump s = { s with ev := (s.ev + 1) % 18446744073709551616 } := by unfold Dr.bump; rw [if_neg hL]
  obtain ⟨y, ey⟩ : ∃ y, y = (s.ev + 1) % 18446744073709551616 := ⟨_, rfl⟩
  obtain ⟨x, ex⟩ : ∃ x, x = s.ev := ⟨_, rfl⟩
  rw [← ey] at hbump
  rw [← ex] at ey
  have hy : IntKind.u64.wrap ((x : Int) + 1) = (y : Int) := by rw [IntKind.wrap_u64]; omega
  have hyl : y < 18446744073709551616 := by rw [ey]; exact Nat.mod_lt _ (by decide)
  obtain ⟨z, ez⟩ : ∃ z, z = R.bump s := ⟨_, rfl⟩
  have hnext : R.nextS s = if R.saveE z = 0 then z else Sup.none := by unfold Dr.nextS; rw [ez]
  have hzI : z.Bd := by rw [ez, hbump]; exact ⟨hI.1, hyl, hI.2.2.1, hI.2.2.2⟩
  have hzL : supL z = (supL s).set 1 (.int .u64 (y : Int)) := by rw [ez, hbump, supL_set]
  have hSv := fun (W : World) (G : Nat → Prop) (h : RefAt W rp R G) => rSave_any h hg z hzI h2 hlen
  rw [← ez]
  obtain ⟨m, em, M⟩ := rup_letter R.loadS
  obtain ⟨l, el, L⟩ := rup_letter s
  obtain ⟨q, eq, Q⟩ := rup_letter z
  rw [em] at hLd
  rw [el] at hLd ⊢
  rw [eq] at hSv
  rw [eq, el] at hzL
  obtain ⟨r, er⟩ : ∃ r, r = R.saveE z := ⟨_, rfl⟩
  rw [← er] at hSv hnext ⊢
  obtain ⟨D2, eD⟩ : ∃ D2, D2 = R.saveD z := ⟨_, rfl⟩
  rw [← eD] at hSv ⊢
  obtain ⟨g, eg⟩ : ∃ g, g = R.loadE := ⟨_, rfl⟩
  rw [← eg] at hLd hL
  have hge : ((g : Int) == 0) = false := by rw [beq_eq_false_iff_ne]; omega
  obtain ⟨x2, ex2⟩ : ∃ x2, x2 = R.loadS.ev := ⟨_, rfl⟩
  have HME : Hid (m[1]? = some (.int .u64 (x2 : Int))) := by rw [ex2]; exact M.ev
  have HLE : Hid (l[1]? = some (.int .u64 (x : Int))) := by rw [ex]; exact L.ev
  have H : Hid (RefAt w rp R (fun k => G k ∧ k < w.heap.size)) := h.tight
  have HM : Hid _ := M
  have HL : Hid _ := L
  have HQ : Hid _ := Q
  have HS : Hid _ := hSv
  have HN : Hid (R.nextS s = if r = 0 then z else Sup.none) := hnext
  have HE : Hid (supL z = q ∧ q = l.set 1 (.int .u64 (y : Int))) := ⟨eq, hzL⟩
  have hxl : (x : Int) < 18446744073709551616 := by rw [ex]; have := hI.2.1; omega
  clear hb0 hL h M L Q hSv hnext eq hzL el em er eD ez hzI hbump hI h2 hlen hg eg ex2 ey ex hyl
  go_enter Tryz.func11, Tryz.ntmps11
  go_wp2_with fail
  refine hLd.mono ?_
  rintro e w1 ⟨rfl, hb1⟩
  have TA : Hid (∀ C : Array Value, C.size = 10 → (w1.alloc (.cells C 39)).there w1.heap.size 0 m.toArray.size) := fun C hC => by rw [HM.out.size]; exact there_new w1 C _ 10 (by omega)
  go_upto_region 2 with (first
    | (refine wpList_store_mid rfl 39 _ _ rfl w1.heap.size 0 m.toArray rfl rfl (TA.out _ rfl) HM.out.infoA HM.out.one ?_; change wpList _ _ _ _ _ (World.setCells _ _ _ m)))
  obtain ⟨V, hV⟩ : ∃ V, V = (w1.alloc (.cells (supL Sup.none).toArray 39)).setCells w1.heap.size 0 m := ⟨_, rfl⟩
  change Code.wp _ _ _ _ ((w1.alloc (.cells (supL Sup.none).toArray 39)).setCells w1.heap.size 0 m)
  have hv := next_at HL.out.len HM.out.len HME.out (supL Sup.none).toArray (supL Sup.none).toArray rfl rfl hb1
  rw [← hV] at hv ⊢
  have hlast := hv.last
  have harg := range_cell hv.arg HLE.out
  rw [Nat.zero_add] at harg
  have hfree := (hv.argT 1 (by decide)).2
  rw [Nat.zero_add] at hfree
  obtain ⟨B, hB⟩ : ∃ B, B = w1.heap.size := ⟨_, rfl⟩
  rw [← hB] at hv hlast ⊢
  have HVB : Hid (NextAt w V B l x2) := hv
  clear hv hV TA hLd hb1 hB
  go_upto_region 6 with fail
  obtain ⟨U, hU⟩ : ∃ U, U = V.setCell ⟨w.heap.size, 1, none⟩ (.int .u64 (y : Int)) := ⟨_, rfl⟩
  rw [← hU]
  have hru : U.rangeAt w.heap.size 0 q ∧ U.there (w.heap.size + 1) 0 10 ∧ Below w.heap.size w U ∧ w.heap.size + 2 ≤ U.heap.size := by
    rw [hU, HE.out.2]
    exact next_set HVB.out HLE.out _
  have HU : Hid _ := hru
  have RU : Hid _ := hru.1
  have hs := HS.out U _ (H.out.below hru.2.2.1)
  clear hru hU harg hfree hlast
  go_wp2_with (first
    | (refine wpList_load_mid rfl 39 _ rfl w.heap.size 0 rfl q _ RU.out Tryz.underlying39 rfl HQ.out.info ?_))
  refine hs.mono ?_
  rintro e w6 ⟨rfl, hd6, ho6⟩
  have R6 : Hid _ := range_only HU.out.1 (by have := HU.out.2.2.2; omega) ho6 (fun hk => absurd hk.2 (Nat.lt_irrefl _))
  have T6 : Hid _ := there_only HU.out.2.1 (by have := HU.out.2.2.2; omega) ho6 (fun hk => absurd hk.2 (by omega))
  have HD : Hid (∀ vs, RSavedAt w (w6.setCells (w.heap.size + 1) 0 vs) rp D2 G) := fun vs => rNext_done hd6 ho6 HU.out.2.2.1 HU.out.2.2.2 vs
  clear hs hd6 ho6
  by_cases hr : r = 0
  · have HZ : Hid (R.nextS s = z) := HN.out.trans (if_pos hr)
    clear HN
    subst hr
    have T6q : Hid (w6.there (w.heap.size + 1) 0 q.toArray.size) := by rw [HQ.out.size]; exact T6.out
    go_wp2_with (first
      | (refine wpList_load_mid rfl 39 _ rfl w.heap.size 0 rfl q _ R6.out Tryz.underlying39 rfl HQ.out.info ?_)
      | (refine wpList_store_mid rfl 39 _ _ rfl (w.heap.size + 1) 0 q.toArray rfl rfl T6q.out HQ.out.infoA HQ.out.one ?_))
    refine bodyPost_ret (results_cell_slot rfl _ _ (w.heap.size + 1) 0 q _ rfl (World.rangeAt_setCells_same _ _ _ _ T6q.out) Tryz.underlying39 rfl HQ.out.info) rfl ⟨?_, HD.out _⟩
    rw [HZ.out, HE.out.1]; rfl
  · have hne : ((r : Int) != 0) = true := by simp only [bne_iff_ne, ne_eq]; omega
    have HZ : Hid (R.nextS s = Sup.none) := HN.out.trans (if_neg hr)
    clear hr HN
    go_wp2_with (first
      | (refine wpList_store_mid rfl 39 _ _ rfl (w.heap.size + 1) 0 (supL Sup.none).toArray rfl rfl T6.out info_rsup (supL_one _) ?_))
    refine bodyPost_ret (results_cell_slot rfl _ _ (w.heap.size + 1) 0 (supL Sup.none) _ rfl (World.rangeAt_setCells_same _ _ _ _ T6.out) Tryz.underlying39 rfl info_rsup) rfl ⟨?_, HD.out _⟩
    rw [HZ.out]; rfl
theorem rNext_any (h : RefAt w rp R G) (hg : R.goes = false) (s : Su) (hI : s.Bd) (h2 : 2 ≤ R.safe.length) (hlen : ∀ i, (R.writes i).length < 1000000) :
    Calls Tryz.prog 11 #[.pointer (some ⟨rp, 0, none⟩), .agg (supL s).toArray] w fun e w' => e = .returned (.tuple #[.agg (supL (R.nextS s)).toArray, .int .i64 (R.saveE (R.bump s) : Nat)]) ∧ RSavedAt w w' rp (R.saveD (R.bump s)) G := by
  by_cases hL : R.loadE = 0
  · exact rNext_yes h hg s hI h2 hlen hL
  · exact rNext_no h hg s hI h2 hlen hL
end
end Go.Proofs.YtgkhnfchohcjeaaGreat

namespace Go.Proofs.YtgkhnfchohcjeaaGreat
open Go.RowKit

theorem exec_rload {op : Oper} {a : Act} {w : World} {l : List Value} {s : Su} (L : RupL l s) {x : Operand} (ho : op.op = .load 39 x) (b o : Nat) (hx : a.eval x = .pointer (some ⟨b, o, none⟩)) (hc : w.rangeAt b o l) : (execOp a.eval op).run Tryz.prog w = .ok (.value (.agg l.toArray)) w := by
  unfold execOp
  simp only [ho, hx, Instr.loadAt, Instr.sureAddr, Sem.run_bind, Sem.run_pure, Result.andThen_ok, run_loadVar_mid w b o 39 l _ hc Tryz.underlying39 rfl L.info]

/-- what same has laid ahead of its rounds -/
structure SameAt (W : World) (a5 a7 a9 a10 : Nat) (lS l0 l1 : List Value) (b0 b1 : Bool) : Prop where
  r5 : W.rangeAt a5 0 lS
  r7 : W.rangeAt a7 0 lS
  r9 : W.rangeAt a9 0 (l0 ++ l1)
  i0 : W.cell? ⟨a10, 0, none⟩ = some (.bool b0)
  i1 : W.cell? ⟨a10, 1, none⟩ = some (.bool b1)
  lt5 : a5 < W.heap.size
  lt7 : a7 < W.heap.size
  lt9 : a9 < W.heap.size
  lt10 : a10 < W.heap.size
theorem SameAt.below {W W' : World} {a5 a7 a9 a10 : Nat} {lS l0 l1 : List Value} {b0 b1 : Bool} (h : SameAt W a5 a7 a9 a10 lS l0 l1 b0 b1) (hb : Below W.heap.size W W') : SameAt W' a5 a7 a9 a10 lS l0 l1 b0 b1 :=
  ⟨range_below h.r5 h.lt5 hb, range_below h.r7 h.lt7 hb, range_below h.r9 h.lt9 hb, (hb.cell (p := ⟨a10, 0, none⟩) h.lt10).trans h.i0, (hb.cell (p := ⟨a10, 1, none⟩) h.lt10).trans h.i1,
    Nat.lt_of_lt_of_le h.lt5 hb.size, Nat.lt_of_lt_of_le h.lt7 hb.size, Nat.lt_of_lt_of_le h.lt9 hb.size, Nat.lt_of_lt_of_le h.lt10 hb.size⟩

set_option maxRecDepth 100000 in
set_option maxHeartbeats 4000000 in
theorem same_any {w : World} {p rp : Nat} {D : Dr} {F G : Nat → Prop} (h : DriveAt w p D F) (hr : RefAt w rp D G) (hg : D.goes = false) :
    Calls Tryz.prog 19 #[.pointer (some ⟨p, 0, none⟩), .pointer (some ⟨rp, 0, none⟩)] w fun e w' => e = .returned (.bool true) ∧ Below w.heap.size w w' := by
  have HMX : Hid (Tryz.prog.follows .mixedOrders = true) := by show _ = _; kernel_rfl
  have hL := load_any sup_says h
  have hrL := fun (W : World) (h : RefAt W rp D G) => rLoad_any h hg
  have hBo := fun (W : World) (h : DriveAt W p D F) => both_any sup_says h
  have hO := fun (W : World) (i : Int) (h : RefAt W rp D G) => rOne_any h hg i
  obtain ⟨sS, esS⟩ : ∃ s, s = D.loadS := ⟨_, rfl⟩
  obtain ⟨eE, eeE⟩ : ∃ e, e = D.loadE := ⟨_, rfl⟩
  rw [← esS, ← eeE] at hL hrL
  obtain ⟨lS, elS, LS⟩ := sup_letter sS
  have LSr : RupL lS sS := by rw [← elS]; exact ⟨rfl, rfl, supL_one sS, rfl, info_rsup, info_rsup⟩
  rw [elS] at hL hrL
  obtain ⟨s0, es0⟩ : ∃ s, s = D.slS 0 := ⟨_, rfl⟩
  obtain ⟨s1, es1⟩ : ∃ s, s = D.slS 1 := ⟨_, rfl⟩
  obtain ⟨b0, eb0⟩ : ∃ b, b = D.slB 0 := ⟨_, rfl⟩
  obtain ⟨b1, eb1⟩ : ∃ b, b = D.slB 1 := ⟨_, rfl⟩
  have hO0 := fun W h => hO W 0 h
  have hO1 := fun W h => hO W 1 h
  rw [← es0, ← eb0] at hO0
  rw [← es1, ← eb1] at hO1
  rw [← es0, ← eb0, ← es1, ← eb1] at hBo
  obtain ⟨l0, el0, L0⟩ := sup_letter s0
  obtain ⟨l1, el1, L1⟩ := sup_letter s1
  have L0r : RupL l0 s0 := by rw [← el0]; exact ⟨rfl, rfl, supL_one s0, rfl, info_rsup, info_rsup⟩
  have L1r : RupL l1 s1 := by rw [← el1]; exact ⟨rfl, rfl, supL_one s1, rfl, info_rsup, info_rsup⟩
  rw [el0] at hO0
  rw [el1] at hO1
  rw [el0, el1] at hBo
  have hEqS := fun W => eqRupL (l := lS) (m := lS) (s := sS) (t := sS) (by rw [← elS]; rfl) (by rw [← elS]; rfl) W
  have hEq0 := fun W => eqRupL (l := l0) (m := l0) (s := s0) (t := s0) (by rw [← el0]; rfl) (by rw [← el0]; rfl) W
  have hEq1 := fun W => eqRupL (l := l1) (m := l1) (s := s1) (t := s1) (by rw [← el1]; rfl) (by rw [← el1]; rfl) W
  rw [decide_eq_true rfl] at hEqS hEq0 hEq1
  obtain ⟨L, eL⟩ : ∃ L, l0 ++ l1 = L := ⟨_, rfl⟩
  have hLone : L.toArray.all (·.oneCell') = true := by
    rw [← eL, ← el0, ← el1]
    exact all_oneCell_toArray fun v hv => by
      have a0 := Array.all_eq_true_iff_forall_mem.1 (supL_one s0)
      have a1 := Array.all_eq_true_iff_forall_mem.1 (supL_one s1)
      rcases List.mem_append.1 hv with h | h
      · exact a0 v (by simpa using h)
      · exact a1 v (by simpa using h)
  have hL20 : L.length = 20 := by rw [← eL, List.length_append, L0.len, L1.len]
  have HLA : Hid (L.length = 20 ∧ L.toArray.all (·.oneCell') = true ∧ L.toArray.size = 20) := ⟨hL20, hLone, hL20⟩
  have HLE : Hid (l0 ++ l1 = L) := eL
  rw [eL] at hBo
  have HD : Hid (DriveAt w p D F) := h
  have HR : Hid (RefAt w rp D G) := hr
  have HrL : Hid _ := hrL
  have HBo : Hid _ := hBo
  have HO0 : Hid _ := hO0
  have HO1 : Hid _ := hO1
  have HLS : Hid _ := LS
  have HLSr : Hid _ := LSr
  have HL0 : Hid _ := L0
  have HL1 : Hid _ := L1
  have HL0r : Hid _ := L0r
  have HL1r : Hid _ := L1r
  have HEQ : Hid ((∀ W : World, _) ∧ (∀ W : World, _) ∧ (∀ W : World, _)) := ⟨hEqS, hEq0, hEq1⟩
  clear h hr hg hrL hBo hO hO0 hO1 esS eeE elS es0 es1 eb0 eb1 el0 el1 eL hLone hL20 LS LSr L0 L1 L0r L1r hEqS hEq0 hEq1
  go_enter Tryz.func19, Tryz.ntmps19
  go_wp2_with fail
  refine hL.mono ?_
  rintro e w1 ⟨rfl, hb1⟩
  have D1 : Hid (DriveAt w1 p D F ∧ RefAt w1 rp D G) := ⟨HD.out.below hb1, HR.out.below hb1⟩
  have B1 : Hid (Below w.heap.size w w1) := hb1
  have TN1 : Hid (∀ C : Array Value, C.size = 10 → (w1.alloc (.cells C 32)).there w1.heap.size 0 lS.toArray.size) := fun C hC => by rw [HLS.out.size]; exact there_new w1 C _ 10 (by omega)
  clear hL hb1
  go_upto_region 2 with (first
    | (refine wpList_store_mid rfl 32 _ _ rfl w1.heap.size 0 lS.toArray rfl rfl (TN1.out _ rfl) HLS.out.infoA HLS.out.one ?_; change wpList _ _ _ _ _ (World.setCells _ _ _ lS)))
  obtain ⟨w2, hw2⟩ : ∃ w2, w2 = (w1.alloc (.cells (supL Sup.none).toArray 32)).setCells w1.heap.size 0 lS := ⟨_, rfl⟩
  change Code.wp _ _ _ _ ((w1.alloc (.cells (supL Sup.none).toArray 32)).setCells w1.heap.size 0 lS)
  rw [← hw2]
  have hb2 : Below w1.heap.size w1 w2 := by rw [hw2]; exact ((Below.refl _ w1).alloc (Nat.le_refl _) _).trans (below_setCells (Nat.le_refl _) _)
  have R2 : Hid (w2.rangeAt w1.heap.size 0 lS) := by rw [hw2]; exact World.rangeAt_setCells_same _ _ _ _ (TN1.out _ rfl)
  have S2 : Hid (w2.heap.size = w1.heap.size + 1) := by show w2.heap.size = _; rw [hw2, size_setCells, World.size_alloc]
  have D2 : Hid (DriveAt w2 p D F ∧ RefAt w2 rp D G) := ⟨D1.out.1.below hb2, D1.out.2.below hb2⟩
  have B2 : Hid (Below w.heap.size w w2) := below2 B1.out hb2
  clear hb2 hw2
  go_wp2_with fail
  refine (HrL.out w2 D2.out.2).mono ?_
  rintro e w3 ⟨rfl, hb3⟩
  have R3 : Hid (w3.rangeAt w1.heap.size 0 lS) := range_below R2.out (by rw [S2.out]; exact Nat.lt_succ_self _) hb3
  have D3 : Hid (DriveAt w3 p D F ∧ RefAt w3 rp D G) := ⟨D2.out.1.below hb3, D2.out.2.below hb3⟩
  have B3 : Hid (Below w.heap.size w w3) := below2 B2.out hb3
  have S3 : Hid (w1.heap.size < w3.heap.size) := Nat.lt_of_lt_of_le (by rw [S2.out]; exact Nat.lt_succ_self _) hb3.size
  have TN3 : Hid (∀ C : Array Value, C.size = 10 → (w3.alloc (.cells C 39)).there w3.heap.size 0 lS.toArray.size) := fun C hC => by rw [HLS.out.size]; exact there_new w3 C _ 10 (by omega)
  clear hb3
  go_upto_region 3 with (first
    | (refine wpList_store_mid rfl 39 _ _ rfl w3.heap.size 0 lS.toArray rfl rfl (TN3.out _ rfl) HLSr.out.infoA HLSr.out.one ?_; change wpList _ _ _ _ _ (World.setCells _ _ _ lS)))
  obtain ⟨w4, hw4⟩ : ∃ w4, w4 = (w3.alloc (.cells (supL Sup.none).toArray 39)).setCells w3.heap.size 0 lS := ⟨_, rfl⟩
  change Code.wp _ _ _ _ ((w3.alloc (.cells (supL Sup.none).toArray 39)).setCells w3.heap.size 0 lS)
  rw [← hw4]
  have hb4 : Below w3.heap.size w3 w4 := by rw [hw4]; exact ((Below.refl _ w3).alloc (Nat.le_refl _) _).trans (below_setCells (Nat.le_refl _) _)
  have R4 : Hid (w4.rangeAt w1.heap.size 0 lS ∧ w4.rangeAt w3.heap.size 0 lS) := ⟨range_below R3.out S3.out hb4, by rw [hw4]; exact World.rangeAt_setCells_same _ _ _ _ (TN3.out _ rfl)⟩
  have S4 : Hid (w4.heap.size = w3.heap.size + 1) := by show w4.heap.size = _; rw [hw4, size_setCells, World.size_alloc]
  have D4 : Hid (DriveAt w4 p D F ∧ RefAt w4 rp D G) := ⟨D3.out.1.below hb4, D3.out.2.below hb4⟩
  have B4 : Hid (Below w.heap.size w w4) := below2 B3.out hb4
  clear hb4 hw4
  go_wp2_with fail
  refine (HBo.out w4 D4.out.1).mono ?_
  rintro e w5 ⟨rfl, hb5⟩
  have R5 : Hid (w5.rangeAt w1.heap.size 0 lS ∧ w5.rangeAt w3.heap.size 0 lS) := ⟨range_below R4.out.1 (by rw [S4.out]; have := S3.out; omega) hb5, range_below R4.out.2 (by rw [S4.out]; exact Nat.lt_succ_self _) hb5⟩
  have D5 : Hid (RefAt w5 rp D G) := D4.out.2.below hb5
  have B5 : Hid (Below w.heap.size w w5) := below2 B4.out hb5
  have S5 : Hid (w1.heap.size < w5.heap.size ∧ w3.heap.size < w5.heap.size) := by
    have h1 := hb5.size
    have h2 := S4.out
    have h3 := S3.out
    exact ⟨by omega, by omega⟩
  have TA : Hid (∀ C E : Array Value, C.size = 20 → ((w5.alloc (.cells C 72)).alloc (.cells E 73)).there w5.heap.size 0 L.toArray.size) := fun C E hC => by rw [HLA.out.2.2]; exact World.there_alloc (there_new w5 C _ 20 (by omega)) _
  have TB : Hid (∀ C E : Array Value, C.size = 20 → E.size = 2 → (((w5.alloc (.cells C 72)).alloc (.cells E 73)).setCells w5.heap.size 0 L).there (w5.heap.size + 1) 0 2) := fun C E hC hE => World.there_setCells (both_start w5 C E _ _ hC hE).2.2.2 _ _ _
  clear hb5
  go_upto_region 4 with (first
    | (refine wpList_store_mid rfl 72 _ _ rfl w5.heap.size 0 L.toArray rfl rfl (TA.out _ _ rfl) (info_sup2.trans (by rw [HLA.out.2.2])) HLA.out.2.1 ?_; change wpList _ _ _ _ _ (World.setCells _ _ _ L))
    | (refine wpList_store_mid rfl 73 _ _ rfl (w5.heap.size + 1) 0 #[.bool b0, .bool b1] rfl rfl (TB.out _ _ rfl rfl) info_bool2 (bools_one b0 b1) ?_; change wpList _ _ _ _ _ (World.setCells _ _ _ [.bool b0, .bool b1])))
  obtain ⟨V, hV⟩ : ∃ V, V = (((w5.alloc (.cells (supL Sup.none ++ supL Sup.none).toArray 72)).alloc (.cells #[.bool false, .bool false] 73)).setCells w5.heap.size 0 L).setCells (w5.heap.size + 1) 0 [.bool b0, .bool b1] := ⟨_, rfl⟩
  change Code.wp _ _ _ _ ((((w5.alloc (.cells (supL Sup.none ++ supL Sup.none).toArray 72)).alloc (.cells #[.bool false, .bool false] 73)).setCells w5.heap.size 0 L).setCells (w5.heap.size + 1) 0 [.bool b0, .bool b1])
  have hlow : Below w5.heap.size w5 ((((w5.alloc (.cells (supL Sup.none ++ supL Sup.none).toArray 72)).alloc (.cells #[.bool false, .bool false] 73)).setCells w5.heap.size 0 L).setCells (w5.heap.size + 1) 0 [.bool b0, .bool b1]) :=
    ((both_start w5 _ _ _ _ rfl rfl).1.trans (below_setCells (Nat.le_refl _) _)).trans (below_setCells (Nat.le_succ _) _)
  have hsame : SameAt ((((w5.alloc (.cells (supL Sup.none ++ supL Sup.none).toArray 72)).alloc (.cells #[.bool false, .bool false] 73)).setCells w5.heap.size 0 L).setCells (w5.heap.size + 1) 0 [.bool b0, .bool b1]) w1.heap.size w3.heap.size w5.heap.size (w5.heap.size + 1) lS l0 l1 b0 b1 := by
    have hsz : ((((w5.alloc (.cells (supL Sup.none ++ supL Sup.none).toArray 72)).alloc (.cells #[.bool false, .bool false] 73)).setCells w5.heap.size 0 L).setCells (w5.heap.size + 1) 0 [.bool b0, .bool b1]).heap.size = w5.heap.size + 2 := by
      rw [size_setCells, size_setCells, World.size_alloc, World.size_alloc]
    have r1 := World.rangeAt_setCells_same ((w5.alloc (.cells (supL Sup.none ++ supL Sup.none).toArray 72)).alloc (.cells #[.bool false, .bool false] 73)) w5.heap.size 0 L (TA.out _ _ rfl)
    have r2 := World.rangeAt_setCells_apart r1 (w5.heap.size + 1) 0 [.bool b0, .bool b1] (.inl (by omega))
    have r3 := World.rangeAt_setCells_same (((w5.alloc (.cells (supL Sup.none ++ supL Sup.none).toArray 72)).alloc (.cells #[.bool false, .bool false] 73)).setCells w5.heap.size 0 L) (w5.heap.size + 1) 0 [.bool b0, .bool b1] (TB.out _ _ rfl rfl)
    have h1 := S5.out.1
    have h2 := S5.out.2
    exact ⟨range_below R5.out.1 h1 hlow, range_below R5.out.2 h2 hlow, by rw [HLE.out]; exact r2, r3 0 _ rfl, r3 1 _ rfl, by omega, by omega, by omega, by omega⟩
  rw [← hV] at hlow hsame ⊢
  have HV : Hid (SameAt V w1.heap.size w3.heap.size w5.heap.size (w5.heap.size + 1) lS l0 l1 b0 b1) := hsame
  have HVR : Hid (RefAt V rp D G) := D5.out.below hlow
  have BV : Hid (Below w.heap.size w V) := below2 B5.out hlow
  clear hV hlow hsame TA TB R2 R3 R4 R5 TN1 TN3 D1 D2 D3 D4 D5 B1 B2 B3 B4 B5 S2 S3 S4 S5
  go_wp2
  go_loopg [11] 2 (fun gg i wr => (gg = 2 ∧ i = .int .i64 0 ∧ Below V.heap.size V wr) ∨ (gg = 1 ∧ i = .int .i64 1 ∧ Below V.heap.size V wr) ∨ (gg = 0 ∧ i = .int .i64 2 ∧ Below V.heap.size V wr))
  case atStart => exact .inl ⟨rfl, rfl, Below.refl _ _⟩
  case round =>
    rcases hrel with ⟨rfl, rfl, hb⟩ | ⟨rfl, rfl, hb⟩ | ⟨rfl, rfl, hb⟩
    · have hA := HV.out.below hb
      have HRR : Hid (RefAt wr rp D G) := HVR.out.below hb
      have HB : Hid (Below V.heap.size V wr) := hb
      have HR9 : Hid (wr.rangeAt w5.heap.size 0 l0 ∧ wr.cell? ⟨w5.heap.size + 1, 0, none⟩ = some (.bool b0) ∧ w5.heap.size < wr.heap.size ∧ w5.heap.size + 1 < wr.heap.size) := ⟨(range_parts (hA.r9) HL0.out.len).1, hA.i0, hA.lt9, hA.lt10⟩
      have hEq := HEQ.out.2.1
      have hbb : (b0 != b0) = false := by cases b0 <;> rfl
      clear hA hb
      go_wp2_with fail
      refine (HO0.out wr HRR.out).mono ?_
      rintro e w6 ⟨rfl, hb6⟩
      have TN6 : Hid (∀ C : Array Value, C.size = 10 → (w6.alloc (.cells C 39)).there w6.heap.size 0 l0.toArray.size) := fun C hC => by rw [HL0.out.size]; exact there_new w6 C _ 10 (by omega)
      have HB6 : Hid (Below V.heap.size V w6 ∧ Below wr.heap.size wr w6) := ⟨below2 HB.out hb6, hb6⟩
      clear hb6
      go_upto_region 8 with (first
        | (refine wpList_store_mid rfl 39 _ _ rfl w6.heap.size 0 l0.toArray rfl rfl (TN6.out _ rfl) HL0r.out.infoA HL0r.out.one ?_; change wpList _ _ _ _ _ (World.setCells _ _ _ l0)))
      obtain ⟨w7, hw7⟩ : ∃ w7, w7 = (w6.alloc (.cells (supL Sup.none).toArray 39)).setCells w6.heap.size 0 l0 := ⟨_, rfl⟩
      change Code.wp _ _ _ _ ((w6.alloc (.cells (supL Sup.none).toArray 39)).setCells w6.heap.size 0 l0)
      have hb7 : Below w6.heap.size w6 ((w6.alloc (.cells (supL Sup.none).toArray 39)).setCells w6.heap.size 0 l0) := ((Below.refl _ w6).alloc (Nat.le_refl _) _).trans (below_setCells (Nat.le_refl _) _)
      have r7 := World.rangeAt_setCells_same (w6.alloc (.cells (supL Sup.none).toArray 39)) w6.heap.size 0 l0 (TN6.out _ rfl)
      rw [← hw7] at hb7 r7 ⊢
      have h96 := range_below HR9.out.1 HR9.out.2.2.1 HB6.out.2
      have h97 := range_below h96 (Nat.lt_of_lt_of_le HR9.out.2.2.1 HB6.out.2.size) hb7
      have c6 := (HB6.out.2.cell (p := ⟨w5.heap.size + 1, 0, none⟩) HR9.out.2.2.2).trans HR9.out.2.1
      have c7 := (hb7.cell (p := ⟨w5.heap.size + 1, 0, none⟩) (Nat.lt_of_lt_of_le HR9.out.2.2.2 HB6.out.2.size)).trans c6
      have hS : (fun W : World => W.rangeAt w5.heap.size 0 l0 ∧ W.rangeAt w6.heap.size 0 l0 ∧ W.cell? ⟨w5.heap.size + 1, 0, none⟩ = some (.bool b0) ∧ Below V.heap.size V W) w7.drew :=
        ⟨(World.rangeAt_drew _ _ _ _).2 h97, (World.rangeAt_drew _ _ _ _).2 r7, c7, (below2 HB6.out.1 hb7).drew⟩
      clear hw7 hb7 r7 h96 h97 c6 c7
      refine region_det (fun W : World => W.rangeAt w5.heap.size 0 l0 ∧ W.rangeAt w6.heap.size 0 l0 ∧ W.cell? ⟨w5.heap.size + 1, 0, none⟩ = some (.bool b0) ∧ Below V.heap.size V W) HMX.out (by kernel_rfl) hS ?_
      refine det_read 0 (v := ?vx5) rfl (by kernel_rfl) rfl ?hyx5 ?restx5
      case hyx5 => (intro wS hSw; (try dsimp only at hSw); go_simp; try with_reducible rfl)
      try simp only [Act.put, List.setIfInBounds_toArray, List.set_cons_zero, List.set_cons_succ]
      refine det_read 1 (v := ?vx6) rfl (by kernel_rfl) rfl ?hyx6 ?restx6
      case hyx6 => (intro wS hSw; (try dsimp only at hSw); go_simp; try with_reducible rfl)
      try simp only [Act.put, List.setIfInBounds_toArray, List.set_cons_zero, List.set_cons_succ]
      refine det_read 2 (v := ?vx7) rfl (by kernel_rfl) rfl ?hyx7 ?restx7
      case hyx7 => (intro wS hSw; (try dsimp only at hSw); go_simp; try with_reducible rfl)
      try simp only [Act.put, List.setIfInBounds_toArray, List.set_cons_zero, List.set_cons_succ]
      refine det_read 3 (v := ?vx8) rfl (by kernel_rfl) rfl ?hyx8 ?restx8
      case hyx8 => (intro wS hSw; (try dsimp only at hSw); go_simp; try with_reducible rfl)
      try simp only [Act.put, List.setIfInBounds_toArray, List.set_cons_zero, List.set_cons_succ]
      refine det_read 4 (v := ?vx9) rfl (by kernel_rfl) rfl ?hyx9 ?restx9
      case hyx9 => (intro wS hSw; (try dsimp only at hSw); go_simp; try with_reducible rfl)
      try simp only [Act.put, List.setIfInBounds_toArray, List.set_cons_zero, List.set_cons_succ]
      refine det_read 5 (v := ?vx10) rfl (by kernel_rfl) rfl ?hyx10 ?restx10
      case hyx10 => (intro wS hSw; (try dsimp only at hSw); go_simp; try with_reducible rfl)
      try simp only [Act.put, List.setIfInBounds_toArray, List.set_cons_zero, List.set_cons_succ]
      refine det_read 6 (v := ?vx11) rfl (by kernel_rfl) rfl ?hyx11 ?restx11
      case hyx11 => (intro wS hSw; (try dsimp only at hSw); go_simp; try with_reducible rfl)
      try simp only [Act.put, List.setIfInBounds_toArray, List.set_cons_zero, List.set_cons_succ]
      refine det_read 7 (v := ?vx12) rfl (by kernel_rfl) rfl ?hyx12 ?restx12
      case hyx12 => (intro wS hSw; (try dsimp only at hSw); go_simp; try with_reducible rfl)
      try simp only [Act.put, List.setIfInBounds_toArray, List.set_cons_zero, List.set_cons_succ]
      refine det_read 8 (v := .agg l0.toArray) rfl (by kernel_rfl) rfl ?hyx1 ?restx1
      case hyx1 => (intro wS hSw; exact (by apply exec_load HL0.out (hc := hSw.1) <;> rfl))
      try simp only [Act.put, List.setIfInBounds_toArray, List.set_cons_zero, List.set_cons_succ]
      refine det_read 9 (v := .agg l0.toArray) rfl (by kernel_rfl) rfl ?hyx2 ?restx2
      case hyx2 => (intro wS hSw; exact (by apply exec_rload HL0r.out (hc := hSw.2.1) <;> rfl))
      try simp only [Act.put, List.setIfInBounds_toArray, List.set_cons_zero, List.set_cons_succ]
      refine det_read 10 (v := ?vx13) rfl (by kernel_rfl) rfl ?hyx13 ?restx13
      case hyx13 => (intro wS hSw; (try dsimp only at hSw); go_simp; try with_reducible rfl)
      try simp only [Act.put, List.setIfInBounds_toArray, List.set_cons_zero, List.set_cons_succ]
      refine det_read 11 (v := ?vx14) rfl (by kernel_rfl) rfl ?hyx14 ?restx14
      case hyx14 => (intro wS hSw; (try dsimp only at hSw); go_simp; try with_reducible rfl)
      try simp only [Act.put, List.setIfInBounds_toArray, List.set_cons_zero, List.set_cons_succ]
      refine det_done (by kernel_rfl) ?_
      intro W hW
      have BW : Below V.heap.size V W := hW.2.2.2
      have HBW : Hid (Below V.heap.size V W) := BW
      clear hW hS BW
      go_wp2
      go_roundg 1
      case measure => omega
      case rel => exact .inr (.inl ⟨rfl, rfl, HBW.out⟩)
    · have hA := HV.out.below hb
      have HRR : Hid (RefAt wr rp D G) := HVR.out.below hb
      have HB : Hid (Below V.heap.size V wr) := hb
      have HR9 : Hid (wr.rangeAt w5.heap.size 10 l1 ∧ wr.cell? ⟨w5.heap.size + 1, 1, none⟩ = some (.bool b1) ∧ w5.heap.size < wr.heap.size ∧ w5.heap.size + 1 < wr.heap.size) := ⟨(range_parts (hA.r9) HL0.out.len).2, hA.i1, hA.lt9, hA.lt10⟩
      have hEq := HEQ.out.2.2
      have hbb : (b1 != b1) = false := by cases b1 <;> rfl
      clear hA hb
      go_wp2_with fail
      refine (HO1.out wr HRR.out).mono ?_
      rintro e w6 ⟨rfl, hb6⟩
      have TN6 : Hid (∀ C : Array Value, C.size = 10 → (w6.alloc (.cells C 39)).there w6.heap.size 0 l1.toArray.size) := fun C hC => by rw [HL1.out.size]; exact there_new w6 C _ 10 (by omega)
      have HB6 : Hid (Below V.heap.size V w6 ∧ Below wr.heap.size wr w6) := ⟨below2 HB.out hb6, hb6⟩
      clear hb6
      go_upto_region 8 with (first
        | (refine wpList_store_mid rfl 39 _ _ rfl w6.heap.size 0 l1.toArray rfl rfl (TN6.out _ rfl) HL1r.out.infoA HL1r.out.one ?_; change wpList _ _ _ _ _ (World.setCells _ _ _ l1)))
      obtain ⟨w7, hw7⟩ : ∃ w7, w7 = (w6.alloc (.cells (supL Sup.none).toArray 39)).setCells w6.heap.size 0 l1 := ⟨_, rfl⟩
      change Code.wp _ _ _ _ ((w6.alloc (.cells (supL Sup.none).toArray 39)).setCells w6.heap.size 0 l1)
      have hb7 : Below w6.heap.size w6 ((w6.alloc (.cells (supL Sup.none).toArray 39)).setCells w6.heap.size 0 l1) := ((Below.refl _ w6).alloc (Nat.le_refl _) _).trans (below_setCells (Nat.le_refl _) _)
      have r7 := World.rangeAt_setCells_same (w6.alloc (.cells (supL Sup.none).toArray 39)) w6.heap.size 0 l1 (TN6.out _ rfl)
      rw [← hw7] at hb7 r7 ⊢
      have h96 := range_below HR9.out.1 HR9.out.2.2.1 HB6.out.2
      have h97 := range_below h96 (Nat.lt_of_lt_of_le HR9.out.2.2.1 HB6.out.2.size) hb7
      have c6 := (HB6.out.2.cell (p := ⟨w5.heap.size + 1, 1, none⟩) HR9.out.2.2.2).trans HR9.out.2.1
      have c7 := (hb7.cell (p := ⟨w5.heap.size + 1, 1, none⟩) (Nat.lt_of_lt_of_le HR9.out.2.2.2 HB6.out.2.size)).trans c6
      have hS : (fun W : World => W.rangeAt w5.heap.size 10 l1 ∧ W.rangeAt w6.heap.size 0 l1 ∧ W.cell? ⟨w5.heap.size + 1, 1, none⟩ = some (.bool b1) ∧ Below V.heap.size V W) w7.drew :=
        ⟨(World.rangeAt_drew _ _ _ _).2 h97, (World.rangeAt_drew _ _ _ _).2 r7, c7, (below2 HB6.out.1 hb7).drew⟩
      clear hw7 hb7 r7 h96 h97 c6 c7
      refine region_det (fun W : World => W.rangeAt w5.heap.size 10 l1 ∧ W.rangeAt w6.heap.size 0 l1 ∧ W.cell? ⟨w5.heap.size + 1, 1, none⟩ = some (.bool b1) ∧ Below V.heap.size V W) HMX.out (by kernel_rfl) hS ?_
      refine det_read 0 (v := ?vx15) rfl (by kernel_rfl) rfl ?hyx15 ?restx15
      case hyx15 => (intro wS hSw; (try dsimp only at hSw); go_simp; try with_reducible rfl)
      try simp only [Act.put, List.setIfInBounds_toArray, List.set_cons_zero, List.set_cons_succ]
      refine det_read 1 (v := ?vx16) rfl (by kernel_rfl) rfl ?hyx16 ?restx16
      case hyx16 => (intro wS hSw; (try dsimp only at hSw); go_simp; try with_reducible rfl)
      try simp only [Act.put, List.setIfInBounds_toArray, List.set_cons_zero, List.set_cons_succ]
      refine det_read 2 (v := ?vx17) rfl (by kernel_rfl) rfl ?hyx17 ?restx17
      case hyx17 => (intro wS hSw; (try dsimp only at hSw); go_simp; try with_reducible rfl)
      try simp only [Act.put, List.setIfInBounds_toArray, List.set_cons_zero, List.set_cons_succ]
      refine det_read 3 (v := ?vx18) rfl (by kernel_rfl) rfl ?hyx18 ?restx18
      case hyx18 => (intro wS hSw; (try dsimp only at hSw); go_simp; try with_reducible rfl)
      try simp only [Act.put, List.setIfInBounds_toArray, List.set_cons_zero, List.set_cons_succ]
      refine det_read 4 (v := ?vx19) rfl (by kernel_rfl) rfl ?hyx19 ?restx19
      case hyx19 => (intro wS hSw; (try dsimp only at hSw); go_simp; try with_reducible rfl)
      try simp only [Act.put, List.setIfInBounds_toArray, List.set_cons_zero, List.set_cons_succ]
      refine det_read 5 (v := ?vx20) rfl (by kernel_rfl) rfl ?hyx20 ?restx20
      case hyx20 => (intro wS hSw; (try dsimp only at hSw); go_simp; try with_reducible rfl)
      try simp only [Act.put, List.setIfInBounds_toArray, List.set_cons_zero, List.set_cons_succ]
      refine det_read 6 (v := ?vx21) rfl (by kernel_rfl) rfl ?hyx21 ?restx21
      case hyx21 => (intro wS hSw; (try dsimp only at hSw); go_simp; try with_reducible rfl)
      try simp only [Act.put, List.setIfInBounds_toArray, List.set_cons_zero, List.set_cons_succ]
      refine det_read 7 (v := ?vx22) rfl (by kernel_rfl) rfl ?hyx22 ?restx22
      case hyx22 => (intro wS hSw; (try dsimp only at hSw); go_simp; try with_reducible rfl)
      try simp only [Act.put, List.setIfInBounds_toArray, List.set_cons_zero, List.set_cons_succ]
      refine det_read 8 (v := .agg l1.toArray) rfl (by kernel_rfl) rfl ?hyx3 ?restx3
      case hyx3 => (intro wS hSw; exact (by apply exec_load HL1.out (hc := hSw.1) <;> rfl))
      try simp only [Act.put, List.setIfInBounds_toArray, List.set_cons_zero, List.set_cons_succ]
      refine det_read 9 (v := .agg l1.toArray) rfl (by kernel_rfl) rfl ?hyx4 ?restx4
      case hyx4 => (intro wS hSw; exact (by apply exec_rload HL1r.out (hc := hSw.2.1) <;> rfl))
      try simp only [Act.put, List.setIfInBounds_toArray, List.set_cons_zero, List.set_cons_succ]
      refine det_read 10 (v := ?vx23) rfl (by kernel_rfl) rfl ?hyx23 ?restx23
      case hyx23 => (intro wS hSw; (try dsimp only at hSw); go_simp; try with_reducible rfl)
      try simp only [Act.put, List.setIfInBounds_toArray, List.set_cons_zero, List.set_cons_succ]
      refine det_read 11 (v := ?vx24) rfl (by kernel_rfl) rfl ?hyx24 ?restx24
      case hyx24 => (intro wS hSw; (try dsimp only at hSw); go_simp; try with_reducible rfl)
      try simp only [Act.put, List.setIfInBounds_toArray, List.set_cons_zero, List.set_cons_succ]
      refine det_done (by kernel_rfl) ?_
      intro W hW
      have BW : Below V.heap.size V W := hW.2.2.2
      have HBW : Hid (Below V.heap.size V W) := BW
      clear hW hS BW
      go_wp2
      go_roundg 0
      case measure => omega
      case rel => exact .inr (.inr ⟨rfl, rfl, HBW.out⟩)
    · have hA := HV.out.below hb
      have R5 : Hid (wr.rangeAt w1.heap.size 0 lS) := hA.r5
      have R7 : Hid (wr.rangeAt w3.heap.size 0 lS) := hA.r7
      have hEq := HEQ.out.1
      have HB : Hid (Below w.heap.size w wr) := below2 BV.out hb
      clear hA hb
      go_wp2_with (first
        | (refine wpList_load_mid rfl 32 _ rfl w1.heap.size 0 rfl lS _ R5.out Tryz.underlying32 rfl HLS.out.info ?_)
        | (refine wpList_load_mid rfl 39 _ rfl w3.heap.size 0 rfl lS _ R7.out Tryz.underlying39 rfl HLSr.out.info ?_))
      go_ret
      exact ⟨rfl, HB.out⟩
end Go.Proofs.YtgkhnfchohcjeaaGreat

namespace Go.Proofs.YtgkhnfchohcjeaaGreat
open Go.RowKit

/-- what holds of the plain drive behind k calls -/
structure Inv (D : Dr) (k : Nat) : Prop where
  goes : D.goes = false
  left : D.left = 0
  len : D.safe.length = 3
  lens : ∀ i, (D.writes i).length ≤ k
/-- both drives, told by one plain drive, apart from one another -/
def Two (w : World) (B p rp : Nat) (D : Dr) : Prop := ∃ F G, DriveAt w p D F ∧ RefAt w rp D G ∧ (∀ k, F k → B ≤ k ∧ k < w.heap.size) ∧ (∀ k, G k → B ≤ k ∧ k < w.heap.size) ∧ (∀ k, F k → ¬ G k) ∧ B ≤ w.heap.size
theorem Two.below {w w' : World} {B p rp : Nat} {D : Dr} (h : Two w B p rp D) (hb : Below w.heap.size w w') : Two w' B p rp D := by
  obtain ⟨F, G, h1, h2, h3, h4, h5, h6⟩ := h
  exact ⟨F, G, h1.below hb, h2.below hb, fun k hk => ⟨(h3 k hk).1, Nat.lt_of_lt_of_le (h3 k hk).2 hb.size⟩, fun k hk => ⟨(h4 k hk).1, Nat.lt_of_lt_of_le (h4 k hk).2 hb.size⟩, h5, Nat.le_trans h6 hb.size⟩
/-- one drive has been called, the other not yet -/
def Half (wr w : World) (B p rp : Nat) (D D' : Dr) : Prop := ∃ F G, DriveAt w p D' F ∧ RefAt w rp D G ∧ (∀ k, F k → B ≤ k ∧ k < w.heap.size) ∧ (∀ k, G k → B ≤ k ∧ k < wr.heap.size) ∧ (∀ k, F k → ¬ G k) ∧ B ≤ w.heap.size ∧ wr.heap.size ≤ w.heap.size
theorem Half.below {wr w w' : World} {B p rp : Nat} {D D' : Dr} (h : Half wr w B p rp D D') (hb : Below w.heap.size w w') : Half wr w' B p rp D D' := by
  obtain ⟨F, G, h1, h2, h3, h4, h5, h6, h7⟩ := h
  exact ⟨F, G, h1.below hb, h2.below hb, fun k hk => ⟨(h3 k hk).1, Nat.lt_of_lt_of_le (h3 k hk).2 hb.size⟩, h4, h5, Nat.le_trans h6 hb.size, Nat.le_trans h7 hb.size⟩
/-- what may turn in a call of either: nothing that lay there when the round began but the drives -/
def Turn (wr : World) (B : Nat) (w w' : World) : Prop := Only (fun k => B ≤ k ∧ k < wr.heap.size) w w'
/-- the program's drive is called: what its call leaves -/
theorem half_of {wr w w' : World} {B p rp : Nat} {D D' : Dr} {F G : Nat → Prop} (hR : RefAt w rp D G) (hF : ∀ k, F k → B ≤ k ∧ k < wr.heap.size) (hG : ∀ k, G k → B ≤ k ∧ k < wr.heap.size) (hFG : ∀ k, F k → ¬ G k) (hB : B ≤ wr.heap.size) (hw : wr.heap.size ≤ w.heap.size)
    (hd : DriveAt w' p D' (Plus F w.heap.size)) (ho : Only F w w') : Half wr w' B p rp D D' ∧ Turn wr B w w' := by
  refine ⟨⟨fun k => Plus F w.heap.size k ∧ k < w'.heap.size, G, hd.tight, hR.only ho (fun k _ hg hf => hFG k hf hg), fun k hk => ⟨?_, hk.2⟩, hG, fun k hk hg => ?_, Nat.le_trans hB (Nat.le_trans hw ho.size), Nat.le_trans hw ho.size⟩, ho.mono hF⟩
  · rcases hk.1 with h1 | h1
    · exact (hF k h1).1
    · omega
  · rcases hk.1 with h1 | h1
    · exact hFG k h1 hg
    · have := (hG k hg).2; omega
/-- the document's own is called then -/
theorem two_of {wr w w' : World} {B p rp : Nat} {D' : Dr} {F G : Nat → Prop} (hD : DriveAt w p D' F) (hF : ∀ k, F k → B ≤ k ∧ k < w.heap.size) (hG : ∀ k, G k → B ≤ k ∧ k < wr.heap.size) (hFG : ∀ k, F k → ¬ G k) (hB : B ≤ w.heap.size)
    (hr : RefAt w' rp D' (Plus G w.heap.size)) (ho : Only G w w') : Two w' B p rp D' ∧ Turn wr B w w' := by
  refine ⟨⟨F, fun k => Plus G w.heap.size k ∧ k < w'.heap.size, hD.only ho (fun k _ hf hg => hFG k hf hg), hr.tight, fun k hk => ⟨(hF k hk).1, Nat.lt_of_lt_of_le (hF k hk).2 ho.size⟩, fun k hk => ⟨?_, hk.2⟩, fun k hk hg => ?_, Nat.le_trans hB ho.size⟩, ho.mono hG⟩
  · rcases hk.1 with h1 | h1
    · exact (hG k h1).1
    · omega
  · rcases hg.1 with h1 | h1
    · exact hFG k hk h1
    · have := (hF k hk).2; omega
section
variable {wr w : World} {B p rp : Nat} {D D' : Dr}
theorem Two.save (h : Two wr B p rp D) (hw : Below wr.heap.size wr w) (s : Su) (hI : s.Bd) {k : Nat} (hi : Inv D k) (hk : k ≤ 1000) :
    Calls Tryz.prog 8 #[.pointer (some ⟨p, 0, none⟩), .agg (supL s).toArray] w fun e w' => e = .returned (.int .i64 (D.saveE s : Nat)) ∧ Half wr w' B p rp D (D.saveD s) ∧ Turn wr B w w' := by
  obtain ⟨F, G, h1, h2, h3, h4, h5, h6⟩ := h
  exact (save_any sup_says (h1.below hw) s hI (by rw [hi.len]; decide) (fun i => by have := hi.lens i; omega)).mono fun _ _ ⟨he, hs⟩ => ⟨he, half_of (h2.below hw) h3 h4 h5 h6 hw.size hs.1 hs.2⟩
theorem Half.save (h : Half wr w B p rp D D') (s : Su) (hI : s.Bd) {k : Nat} (hi : Inv D k) (hk : k ≤ 1000) (he : D' = D.saveD s) :
    Calls Tryz.prog 9 #[.pointer (some ⟨rp, 0, none⟩), .agg (supL s).toArray] w fun e w' => e = .returned (.int .i64 (D.saveE s : Nat)) ∧ Two w' B p rp D' ∧ Turn wr B w w' := by
  obtain ⟨F, G, h1, h2, h3, h4, h5, h6, h7⟩ := h
  subst he
  exact (rSave_any h2 hi.goes s hI (by rw [hi.len]; decide) (fun i => by have := hi.lens i; omega)).mono fun _ _ ⟨he, hs⟩ => ⟨he, two_of h1 h3 h4 h5 h6 hs.1 hs.2⟩
theorem Two.next (h : Two wr B p rp D) (hw : Below wr.heap.size wr w) (s : Su) (hI : s.Bd) {k : Nat} (hi : Inv D k) (hk : k ≤ 1000) :
    Calls Tryz.prog 10 #[.pointer (some ⟨p, 0, none⟩), .agg (supL s).toArray] w fun e w' => e = .returned (.tuple #[.agg (supL (D.nextS s)).toArray, .int .i64 (D.saveE (D.bump s) : Nat)]) ∧ Half wr w' B p rp D (D.saveD (D.bump s)) ∧ Turn wr B w w' := by
  obtain ⟨F, G, h1, h2, h3, h4, h5, h6⟩ := h
  exact (next_any sup_says (h1.below hw) s hI (by rw [hi.len]; decide) (fun i => by have := hi.lens i; omega)).mono fun _ _ ⟨he, hs⟩ => ⟨he, half_of (h2.below hw) h3 h4 h5 h6 hw.size hs.1 hs.2⟩
theorem Half.next (h : Half wr w B p rp D D') (s : Su) (hI : s.Bd) {k : Nat} (hi : Inv D k) (hk : k ≤ 1000) (he : D' = D.saveD (D.bump s)) :
    Calls Tryz.prog 11 #[.pointer (some ⟨rp, 0, none⟩), .agg (supL s).toArray] w fun e w' => e = .returned (.tuple #[.agg (supL (D.nextS s)).toArray, .int .i64 (D.saveE (D.bump s) : Nat)]) ∧ Two w' B p rp D' ∧ Turn wr B w w' := by
  obtain ⟨F, G, h1, h2, h3, h4, h5, h6, h7⟩ := h
  subst he
  exact (rNext_any h2 hi.goes s hI (by rw [hi.len]; decide) (fun i => by have := hi.lens i; omega)).mono fun _ _ ⟨he, hs⟩ => ⟨he, two_of h1 h3 h4 h5 h6 hs.1 hs.2⟩
/-- what Write makes of the plain drive -/
def wrD (D : Dr) (i : Int) (s : List UInt8) : Dr := if D.reachE i = 0 then D.put i.toNat s else D
def spD (D : Dr) (i : Int) : Dr := if D.reachE i = 0 then D.spoil i.toNat else D
theorem take_reach (D : Dr) (i : Int) : D.takeE i 64 = D.reachE i := by
  unfold Dr.takeE
  by_cases h : D.reachE i = 0
  · rw [if_pos h, if_pos rfl, h]
  · rw [if_neg h]
theorem write_put {D : Dr} (hg : D.goes = false) (i : Nat) (s : List UInt8) : D.write i s = D.put i s := by
  unfold Dr.write Dr.spend
  have h1 : (D.put i s).goes = false := hg
  have h2 : (if (D.put i s).goes then (D.put i s).left - 1 else (D.put i s).left) = (D.put i s).left := by rw [h1]; rfl
  rw [h2]
theorem Two.write (h : Two wr B p rp D) (hw : Below wr.heap.size wr w) (i : Int) (s : ByteArray) (hs : s.size = 64) {k : Nat} (hi : Inv D k) (hk : k ≤ 1000) :
    Calls Tryz.prog 12 #[.pointer (some ⟨p, 0, none⟩), .int .i64 i, .string s] w fun e w' => e = .returned (.int .i64 (D.reachE i : Nat)) ∧ Half wr w' B p rp D (wrD D i s.data.toList) ∧ Turn wr B w w' := by
  obtain ⟨F, G, h1, h2, h3, h4, h5, h6⟩ := h
  have ht := take_reach D i
  by_cases hr : D.reachE i = 0
  · obtain ⟨h0, hb⟩ := Dr.reach_has hr
    obtain ⟨n, rfl, hn⟩ := Dr.hasB_nat hb
    have e : wrD D (n : Int) s.data.toList = D.put n s.data.toList := by unfold wrD; rw [if_pos hr, Int.toNat_natCast]
    have hq := write_yes (h1.below hw) n s (by rw [hs, ht, hr]) hn (by have := hi.lens n; omega)
    rw [write_put hi.goes] at hq
    rw [hr, e]
    exact hq.mono fun _ _ ⟨he, hd, ho⟩ => ⟨he, half_of (h2.below hw) h3 h4 h5 h6 hw.size hd ho⟩
  · have e : wrD D i s.data.toList = D := if_neg hr
    have hq := write_no (h1.below hw) i s (by rw [hs, ht]; exact hr)
    rw [hs, ht] at hq
    rw [e]
    exact hq.mono fun _ w' ⟨he, hw'⟩ => by
      subst hw'
      exact ⟨he, half_of (h2.below hw) h3 h4 h5 h6 hw.size ((h1.below hw).mono fun _ hk => .inl hk) (Only.refl _ _)⟩
theorem Half.write (h : Half wr w B p rp D D') (i : Int) (s : ByteArray) (hs : s.size = 64) {k : Nat} (hi : Inv D k) (hk : k ≤ 1000) (he : D' = wrD D i s.data.toList) :
    Calls Tryz.prog 13 #[.pointer (some ⟨rp, 0, none⟩), .int .i64 i, .string s] w fun e w' => e = .returned (.int .i64 (D.reachE i : Nat)) ∧ Two w' B p rp D' ∧ Turn wr B w w' := by
  obtain ⟨F, G, h1, h2, h3, h4, h5, h6, h7⟩ := h
  by_cases hr : D.reachE i = 0
  · obtain ⟨h0, hb⟩ := Dr.reach_has hr
    obtain ⟨n, rfl, hn⟩ := Dr.hasB_nat hb
    have e : wrD D (n : Int) s.data.toList = D.put n s.data.toList := by unfold wrD; rw [if_pos hr, Int.toNat_natCast]
    rw [e] at he
    subst he
    rw [hr]
    exact (rWrite_yes h2 hi.goes n hn hr (by have := hi.lens n; omega) s hs).mono fun _ _ ⟨he, hd, ho⟩ => ⟨he, two_of h1 h3 h4 h5 h6 hd ho⟩
  · have e : wrD D i s.data.toList = D := if_neg hr
    rw [e] at he
    subst he
    exact (rWrite_no h2 hi.goes i s hr).mono fun _ w' ⟨he, hw'⟩ => by
      subst hw'
      exact ⟨he, two_of h1 h3 h4 h5 h6 (h2.mono fun _ hk => .inl hk) (Only.refl _ _)⟩
theorem Two.spoil (h : Two wr B p rp D) (hw : Below wr.heap.size wr w) (i : Int) :
    Calls Tryz.prog 14 #[.pointer (some ⟨p, 0, none⟩), .int .i64 i] w fun e w' => e = .returned (.int .i64 (D.reachE i : Nat)) ∧ Half wr w' B p rp D (spD D i) ∧ Turn wr B w w' := by
  obtain ⟨F, G, h1, h2, h3, h4, h5, h6⟩ := h
  by_cases hr : D.reachE i = 0
  · obtain ⟨h0, hb⟩ := Dr.reach_has hr
    obtain ⟨n, rfl, hn⟩ := Dr.hasB_nat hb
    have e : spD D (n : Int) = D.spoil n := by unfold spD; rw [if_pos hr, Int.toNat_natCast]
    rw [hr, e]
    exact (spoil_yes (h1.below hw) n h0 hn).mono fun _ _ ⟨he, hd, ho⟩ => ⟨he, half_of (h2.below hw) h3 h4 h5 h6 hw.size (hd.mono fun _ hk => .inl hk) ho⟩
  · have e : spD D i = D := if_neg hr
    rw [e]
    exact (spoil_no (h1.below hw) i hr).mono fun _ w' ⟨he, hw'⟩ => by
      subst hw'
      exact ⟨he, half_of (h2.below hw) h3 h4 h5 h6 hw.size ((h1.below hw).mono fun _ hk => .inl hk) (Only.refl _ _)⟩
theorem Half.spoil (h : Half wr w B p rp D D') (i : Int) {k : Nat} (hi : Inv D k) (he : D' = spD D i) :
    Calls Tryz.prog 15 #[.pointer (some ⟨rp, 0, none⟩), .int .i64 i] w fun e w' => e = .returned (.int .i64 (D.reachE i : Nat)) ∧ Two w' B p rp D' ∧ Turn wr B w w' := by
  obtain ⟨F, G, h1, h2, h3, h4, h5, h6, h7⟩ := h
  by_cases hr : D.reachE i = 0
  · obtain ⟨h0, hb⟩ := Dr.reach_has hr
    obtain ⟨n, rfl, hn⟩ := Dr.hasB_nat hb
    have e : spD D (n : Int) = D.spoil n := by unfold spD; rw [if_pos hr, Int.toNat_natCast]
    rw [e] at he
    subst he
    rw [hr]
    exact (rSpoil_yes h2 hi.goes n hn hr).mono fun _ _ ⟨he, hd, ho⟩ => ⟨he, two_of h1 h3 h4 h5 h6 (hd.mono fun _ hk => .inl hk) ho⟩
  · have e : spD D i = D := if_neg hr
    rw [e] at he
    subst he
    exact (rSpoil_no h2 hi.goes i hr).mono fun _ w' ⟨he, hw'⟩ => by
      subst hw'
      exact ⟨he, two_of h1 h3 h4 h5 h6 (h2.mono fun _ hk => .inl hk) (Only.refl _ _)⟩
theorem one_row {w : World} {x kb : Nat} (h : w.cell? ⟨kb, 0, none⟩ = some (.int .u8 (x : Int))) : RowI .u8 w (some ⟨kb, 0, none⟩) [x].length (fun j => (([x].getD j 0 : Nat) : Int)) := fun j hj => by
  have : j = 0 := by have : j < 1 := hj; omega
  subst this
  exact ⟨kb, 0, rfl, h⟩
theorem one_lt {x : Nat} (hx : x < 256) (j : Nat) : [x].getD j 0 < 256 := by
  match j with
  | 0 => exact hx
  | j + 1 => exact (by decide : (0 : Nat) < 256)
theorem Two.crash (h : Two wr B p rp D) (hw : Below wr.heap.size wr w) {k : Nat} (hi : Inv D k) (hk : k ≤ 1000) (x : Nat) (hx : x < 256) (kb : Nat) (hc : w.cell? ⟨kb, 0, none⟩ = some (.int .u8 (x : Int))) (hkb : wr.heap.size ≤ kb) :
    Calls Tryz.prog 16 #[.pointer (some ⟨p, 0, none⟩), .slice (some ⟨kb, 0, none⟩) 1 1] w fun e w' => e = .returned (.tuple #[]) ∧ Half wr w' B p rp D (D.settle (Dr.keeps [x])) ∧ Turn wr B w w' := by
  obtain ⟨F, G, h1, h2, h3, h4, h5, h6⟩ := h
  have hq := crash_any (h1.below hw) (fun i => by have := hi.lens i; omega) [x] (some ⟨kb, 0, none⟩) 1 (one_row hc) (show 1 ≤ maxLen by unfold maxLen; decide) (one_lt hx) (fun _ y hy hF => by cases hy; have := (h3 _ hF).2; exact absurd hkb (Nat.not_le.2 this))
  have e : D.crash [x] = D.settle (Dr.keeps [x]) := Dr.settle_power _ hi.goes hi.left
  rw [e] at hq
  exact hq.mono fun _ _ ⟨he, hd, ho⟩ => ⟨he, half_of (h2.below hw) h3 h4 h5 h6 hw.size (hd.mono fun _ hk => .inl hk) ho⟩
theorem Half.crash (h : Half wr w B p rp D D') {k : Nat} (hi : Inv D k) (hk : k ≤ 1000) (x : Nat) (hx : x < 256) (kb : Nat) (hc : w.cell? ⟨kb, 0, none⟩ = some (.int .u8 (x : Int))) (hkb : wr.heap.size ≤ kb) (hkw : kb < w.heap.size) (he : D' = D.settle (Dr.keeps [x])) :
    Calls Tryz.prog 17 #[.pointer (some ⟨rp, 0, none⟩), .slice (some ⟨kb, 0, none⟩) 1 1] w fun e w' => e = .returned (.tuple #[]) ∧ Two w' B p rp D' ∧ Turn wr B w w' := by
  obtain ⟨F, G, h1, h2, h3, h4, h5, h6, h7⟩ := h
  subst he
  exact (rCrash_one h2 hi.goes (fun i => by have := hi.lens i; omega) x hx kb hc hkw (fun hG => by have := (h4 _ hG).2; omega)).mono fun _ _ ⟨he, hd, ho⟩ => ⟨he, two_of h1 h3 h4 h5 h6 (hd.mono fun _ hk => .inl hk) ho⟩
theorem Two.die (h : Two wr B p rp D) (hw : Below wr.heap.size wr w) :
    Calls Tryz.prog 18 #[.pointer (some ⟨p, 0, none⟩)] w fun e w' => e = .returned (.tuple #[]) ∧ Half wr w' B p rp D D.die ∧ Turn wr B w w' := by
  obtain ⟨F, G, h1, h2, h3, h4, h5, h6⟩ := h
  exact (die_any (h1.below hw)).mono fun _ _ ⟨he, hd, ho⟩ => ⟨he, half_of (h2.below hw) h3 h4 h5 h6 hw.size (hd.mono fun _ hk => .inl hk) ho⟩
theorem Half.gone (h : Half wr w B p rp D D.die) : Two (w.setCell ⟨rp, 3, none⟩ (.bool true)) B p rp D.die ∧ Turn wr B w (w.setCell ⟨rp, 3, none⟩ (.bool true)) ∧ (∃ v, w.cell? ⟨rp, 3, none⟩ = some (.bool v)) ∧ w.frozen? ⟨rp, 3, none⟩ = false := by
  obtain ⟨F, G, h1, h2, h3, h4, h5, h6, h7⟩ := h
  obtain ⟨r1, r2⟩ := h2.gone
  obtain ⟨c3, _, f3, _⟩ := h2.flags
  obtain ⟨t1, t2⟩ := two_of (wr := wr) h1 h3 h4 h5 h6 (r1.mono fun _ hk => .inl hk) r2
  exact ⟨t1, t2, ⟨_, c3⟩, f3⟩
theorem Two.same (h : Two w B p rp D) {k : Nat} (hi : Inv D k) :
    Calls Tryz.prog 19 #[.pointer (some ⟨p, 0, none⟩), .pointer (some ⟨rp, 0, none⟩)] w fun e w' => e = .returned (.bool true) ∧ Below w.heap.size w w' := by
  obtain ⟨F, G, h1, h2, _⟩ := h
  exact same_any h1 h2 hi.goes
end
/-- the plain drive's facts, behind each call -/
theorem Inv.start : Inv (Dr.fresh 3) 0 := ⟨rfl, rfl, by simp [Dr.fresh], fun _ => Nat.le_refl _⟩
theorem Inv.up {D : Dr} {k : Nat} (h : Inv D k) : Inv D (k + 1) := ⟨h.goes, h.left, h.len, fun i => Nat.le_succ_of_le (h.lens i)⟩
theorem Inv.savedD {D : Dr} {k : Nat} (h : Inv D k) (s : Su) : Inv (D.savedD s) (k + 1) :=
  ⟨h.goes, h.left, by show ((D.put _ _).settle _).safe.length = 3; rw [show ((D.put (Dr.slot s) (Sup.secT s).data.toList).settle fun _ c => c).safe.length = (D.put (Dr.slot s) (Sup.secT s).data.toList).safe.length from Dr.safeAt_length _ _ _]; exact h.len, fun _ => Nat.zero_le _⟩
theorem Inv.save {D : Dr} {k : Nat} (h : Inv D k) (s : Su) : Inv (D.saveD s) (k + 1) := by
  cases hm : Sup.mayB s
  case false => rw [show D.saveD s = D by unfold Dr.saveD; rw [hm]; rfl]; exact h.up
  case true =>
    cases hd : D.dead
    case true =>
      have ht : D.takeE (Dr.slot s) 64 = 40 := by unfold Dr.takeE Dr.reachE Dr.runsE; rw [hd]; rfl
      rw [show D.saveD s = D by unfold Dr.saveD; rw [hm, if_pos rfl, ht]; rfl]; exact h.up
    case false =>
      have hv : D.Live 3 := ⟨hd, h.goes, h.len⟩
      rw [(hv.saves (by decide) (show Sup.may s by simpa [Sup.mayB] using hm)).2]; exact h.savedD s
theorem Inv.wrD {D : Dr} {k : Nat} (h : Inv D k) (i : Int) (s : List UInt8) : Inv (wrD D i s) (k + 1) := by
  unfold Go.Proofs.YtgkhnfchohcjeaaGreat.wrD
  split
  · refine ⟨h.goes, h.left, h.len, fun j => ?_⟩
    show (if j = i.toNat then D.writes i.toNat ++ [s] else D.writes j).length ≤ k + 1
    split
    · rw [List.length_append]; exact Nat.succ_le_succ (h.lens _)
    · exact Nat.le_succ_of_le (h.lens j)
  · exact h.up
theorem Inv.spD {D : Dr} {k : Nat} (h : Inv D k) (i : Int) : Inv (spD D i) (k + 1) := by
  unfold Go.Proofs.YtgkhnfchohcjeaaGreat.spD
  split
  · exact ⟨h.goes, h.left, h.len, fun j => Nat.le_succ_of_le (h.lens j)⟩
  · exact h.up
theorem Inv.settle {D : Dr} {k : Nat} (h : Inv D k) (K : Nat → Nat → Nat) : Inv (D.settle K) (k + 1) :=
  ⟨h.goes, h.left, (Dr.safeAt_length _ _ _).trans h.len, fun _ => Nat.zero_le _⟩
theorem Inv.die {D : Dr} {k : Nat} (h : Inv D k) : Inv D.die (k + 1) := ⟨h.goes, h.left, h.len, fun j => Nat.le_succ_of_le (h.lens j)⟩
/-- both drives, new -/
theorem two_new {w : World} {B p : Nat} (hd : Mine w B p (Dr.fresh 3)) : Calls Tryz.prog 6 #[.int .i64 3] w fun e w' => ∃ rp, e = .returned (.pointer (some ⟨rp, 0, none⟩)) ∧ Two w' B p rp (Dr.fresh 3) ∧ Below w.heap.size w w' := by
  refine (refNew3 w).mono ?_
  rintro e w' ⟨rp, vS, vW, vP, he, hr, hb⟩
  have hfr : (List.range (Dr.fresh 3).safe.length).map (fun _ => nilS) = List.replicate 3 nilS := rfl
  have hst : RefSt w' rp vS vW vP (fun _ => nilS) (Dr.fresh 3) := by
    refine ⟨?_, Dr.Ok.fresh (by decide) (by decide), fun i => World.ownsRow_nil _ _ _ _, fun i k hk => by simp [nilS, Value.ownBlock] at hk, fun _ _ => rfl⟩
    exact ⟨hr.self, Nat.zero_le _, hr.safes.mono (Nat.zero_le _), hr.writes.mono (Nat.zero_le _), hr.spoilt.mono (Nat.zero_le _)⟩
  have hlow : ∀ k, RFeet rp vS vW vP (fun _ => nilS) k → w.heap.size ≤ k := fun k hk => by
    rcases hk with hk | ⟨i, hi⟩
    · exact (hr.lt k hk).1
    · simp [nilS, Value.ownBlock] at hi
  refine ⟨rp, he, ⟨fun k => B ≤ k ∧ k < w.heap.size, fun k => w.heap.size ≤ k ∧ k < w'.heap.size, hd.1.tight.below hb, ⟨vS, vW, vP, _, hst, fun k hk => ⟨hlow k hk, hst.lt k hk⟩⟩, fun k hk => ⟨hk.1, Nat.lt_of_lt_of_le hk.2 hb.size⟩, fun k hk => ⟨Nat.le_trans hd.2 hk.1, hk.2⟩, fun k hk hg => by omega, Nat.le_trans hd.2 hb.size⟩, hb⟩
end Go.Proofs.YtgkhnfchohcjeaaGreat
