/- The walk of slots' Save. -/
import Derived.Test.YtgkhnfchohcjeaaMSlA
import Derived.Test.YtgkhnfchohcjeaaMDrvC
namespace Go.Proofs.Ytgkhnfchohcjeaa
open Go.RowKit

/-- what Save leaves of a drive -/
def SavedAt (w w' : World) (p : Nat) (_D D' : Dr) (F : Nat → Prop) : Prop := DriveAt w' p D' (Plus F w.heap.size) ∧ Only F w w'
theorem plus_below {w w1 : World} {F : Nat → Prop} (hs : w.heap.size ≤ w1.heap.size) : ∀ k, Plus F w1.heap.size k → Plus F w.heap.size k := fun _ hk => hk.imp id fun h => Nat.le_trans hs h
theorem savedAt_below {w w' : World} {p : Nat} {D : Dr} {F : Nat → Prop} (h : DriveAt w p D F) (hb : Below w.heap.size w w') : SavedAt w w' p D D F :=
  ⟨(h.below hb).mono fun _ hk => .inl hk, Only.of_below hb F⟩

set_option maxRecDepth 100000 in
set_option maxHeartbeats 2000000 in
theorem save_arg (X : SupSays) {w : World} {p : Nat} {D : Dr} {F : Nat → Prop} (h : DriveAt w p D F) (s : Su) (hI : s.uu < 18446744073709551616 ∧ s.ev < 18446744073709551616 ∧ s.c ≤ 9223372036854775807 ∧ s.nw ≤ 9223372036854775807) (hm : Sup.mayB s = false) :
    Calls Try.prog 13 #[.pointer (some ⟨p, 0, none⟩), .agg (supL s).toArray] w fun e w' => e = .returned (.int .i64 1) ∧ SavedAt w w' p D D F := by
  have hE := fun W => X.enc s hI.1 hI.2.1 hI.2.2.1 hI.2.2.2 W
  rw [show Sup.encE s = 1 by simp [Sup.encE, hm]] at hE
  obtain ⟨l, el, L⟩ := sup_letter s
  rw [el] at hE ⊢
  have H : Hid (DriveAt w p D F) := h
  have HL : Hid _ := L
  have R : Hid _ := range_new w 30 l
  clear h X L el hI hm
  go_enter Try.func13, Try.ntmps13
  go_wp2_with (first
    | (refine wpList_load_mid rfl 30 _ rfl w.heap.size 0 rfl l _ R.out Try.underlying30 rfl HL.out.info ?_))
  refine (hE _).mono ?_
  rintro e w1 ⟨rfl, hb1⟩
  have HB : Hid (Below w.heap.size w w1) := ((Below.refl w.heap.size w).alloc (Nat.le_refl _) _).trans (hb1.mono (by rw [World.size_alloc]; omega))
  clear hE hb1
  go_wp2
  go_ret
  exact ⟨rfl, savedAt_below H.out HB.out⟩

/-- a superblock's Events, where Save reads it -/
theorem slot_cast (s : Su) : ((Dr.slot s : Nat) : Int) = (s.ev : Int) % 2 := by unfold Dr.slot; omega
theorem enc_yes {s : Su} (hI : s.uu < 18446744073709551616 ∧ s.ev < 18446744073709551616 ∧ s.c ≤ 9223372036854775807 ∧ s.nw ≤ 9223372036854775807) (hm : Sup.mayB s = true) : Sup.encE s = 0 ∧ Sup.encT s = Sup.secT s ∧ (Sup.secT s).size = 64 := by
  refine ⟨by simp [Sup.encE, hm], by simp [Sup.encT, hm], Sup.secT_size (Sup.Fit.of_may (by simpa [Sup.mayB] using hm) hI.1 hI.2.1)⟩
set_option maxRecDepth 100000 in
set_option maxHeartbeats 2000000 in
theorem save_no (X : SupSays) {w : World} {p : Nat} {D : Dr} {F : Nat → Prop} (h : DriveAt w p D F) (s : Su) (hI : s.uu < 18446744073709551616 ∧ s.ev < 18446744073709551616 ∧ s.c ≤ 9223372036854775807 ∧ s.nw ≤ 9223372036854775807) (hm : Sup.mayB s = true) (ht : D.takeE (Dr.slot s) 64 ≠ 0) :
    Calls Try.prog 13 #[.pointer (some ⟨p, 0, none⟩), .agg (supL s).toArray] w fun e w' => e = .returned (.int .i64 (D.takeE (Dr.slot s) 64 : Nat)) ∧ SavedAt w w' p D D F := by
  have hE := fun W => X.enc s hI.1 hI.2.1 hI.2.2.1 hI.2.2.2 W
  obtain ⟨e1, e2, e3⟩ := enc_yes hI hm
  rw [e1, e2] at hE
  have hW := fun (W : World) (hW : DriveAt W p D F) => write_no hW (Dr.slot s) (Sup.secT s) (by rw [e3]; exact ht)
  rw [e3] at hW
  simp only [slot_cast] at hW ht ⊢
  obtain ⟨r, er⟩ : ∃ r, r = D.takeE ((s.ev : Int) % 2) 64 := ⟨_, rfl⟩
  rw [← er] at hW ht ⊢
  have hne : ((r : Int) != 0) = true := by simp only [bne_iff_ne, ne_eq]; omega
  obtain ⟨t, et⟩ : ∃ t, t = Sup.secT s := ⟨_, rfl⟩
  rw [← et] at hE hW
  obtain ⟨l, el, L⟩ := sup_letter s
  rw [el] at hE ⊢
  have HV := L.ev
  obtain ⟨v, ev⟩ : ∃ v, v = s.ev := ⟨_, rfl⟩
  rw [← ev] at hW HV
  have hv : (v : Int) < 18446744073709551616 := by have := hI.2.1; omega
  have H : Hid (DriveAt w p D F) := h
  have HW : Hid _ := hW
  have HV : Hid _ := HV
  have HL : Hid _ := L
  have R : Hid _ := range_new w 30 l
  clear h X L el hI hm er et ev e1 e2 e3 hW ht
  go_enter Try.func13, Try.ntmps13
  go_wp2_with (first
    | (refine wpList_load_mid rfl 30 _ rfl w.heap.size 0 rfl l _ R.out Try.underlying30 rfl HL.out.info ?_))
  refine (hE _).mono ?_
  rintro e w1 ⟨rfl, hb1⟩
  have R1 := range_below R.out (by rw [World.size_alloc]; exact Nat.lt_succ_self _) hb1
  have hb : Below w.heap.size w w1 := ((Below.refl w.heap.size w).alloc (Nat.le_refl _) _).trans (hb1.mono (by rw [World.size_alloc]; omega))
  have HB : Hid (Below w.heap.size w w1) := hb
  have hev := range_cell R1 HV.out
  have hw := HW.out w1 (H.out.below hb)
  clear hE hb1 R1 hb
  go_wp2_with fail
  refine hw.mono ?_
  rintro e w2 ⟨rfl, rfl⟩
  go_wp2
  go_ret
  exact ⟨rfl, savedAt_below H.out HB.out⟩
set_option maxRecDepth 100000 in
set_option maxHeartbeats 2000000 in
theorem save_half (X : SupSays) {w : World} {p : Nat} {D : Dr} {F : Nat → Prop} (h : DriveAt w p D F) (s : Su) (hI : s.uu < 18446744073709551616 ∧ s.ev < 18446744073709551616 ∧ s.c ≤ 9223372036854775807 ∧ s.nw ≤ 9223372036854775807) (hm : Sup.mayB s = true) (ht : D.takeE (Dr.slot s) 64 = 0)
    (hi : Dr.slot s < D.safe.length) (hlen : (D.writes (Dr.slot s)).length ≤ 1000000) (hr : (D.write (Dr.slot s) (Sup.secT s).data.toList).runsE ≠ 0) :
    Calls Try.prog 13 #[.pointer (some ⟨p, 0, none⟩), .agg (supL s).toArray] w fun e w' => e = .returned (.int .i64 ((D.write (Dr.slot s) (Sup.secT s).data.toList).runsE : Nat)) ∧ SavedAt w w' p D (D.write (Dr.slot s) (Sup.secT s).data.toList) F := by
  have hE := fun W => X.enc s hI.1 hI.2.1 hI.2.2.1 hI.2.2.2 W
  obtain ⟨e1, e2, e3⟩ := enc_yes hI hm
  rw [e1, e2] at hE
  have hW := fun (W : World) (hW : DriveAt W p D F) => write_yes hW (Dr.slot s) (Sup.secT s) (by rw [e3]; exact ht) hi hlen
  obtain ⟨D2, eD⟩ : ∃ D2, D2 = D.write (Dr.slot s) (Sup.secT s).data.toList := ⟨_, rfl⟩
  rw [← eD] at hW hr ⊢
  simp only [slot_cast] at hW
  obtain ⟨r, er⟩ : ∃ r, r = D2.runsE := ⟨_, rfl⟩
  have hF := fun (W : World) (G : Nat → Prop) (hW : DriveAt W p D2 G) => flush_no hW hr
  rw [← er] at hr hF ⊢
  have hne : ((r : Int) != 0) = true := by simp only [bne_iff_ne, ne_eq]; omega
  obtain ⟨t, et⟩ : ∃ t, t = Sup.secT s := ⟨_, rfl⟩
  rw [← et] at hE hW
  obtain ⟨l, el, L⟩ := sup_letter s
  rw [el] at hE ⊢
  have HV := L.ev
  obtain ⟨v, ev⟩ : ∃ v, v = s.ev := ⟨_, rfl⟩
  rw [← ev] at hW HV
  have hv : (v : Int) < 18446744073709551616 := by have := hI.2.1; omega
  have H : Hid (DriveAt w p D F) := h
  have HW : Hid _ := hW
  have HF : Hid _ := hF
  have HV : Hid _ := HV
  have HL : Hid _ := L
  have R : Hid _ := range_new w 30 l
  clear h X L el hI hm er et ev e1 e2 e3 hW ht hF hlen hi eD
  go_enter Try.func13, Try.ntmps13
  go_wp2_with (first
    | (refine wpList_load_mid rfl 30 _ rfl w.heap.size 0 rfl l _ R.out Try.underlying30 rfl HL.out.info ?_))
  refine (hE _).mono ?_
  rintro e w1 ⟨rfl, hb1⟩
  have R1 := range_below R.out (by rw [World.size_alloc]; exact Nat.lt_succ_self _) hb1
  have hb : Below w.heap.size w w1 := ((Below.refl w.heap.size w).alloc (Nat.le_refl _) _).trans (hb1.mono (by rw [World.size_alloc]; omega))
  have HB : Hid (Below w.heap.size w w1) := hb
  have hev := range_cell R1 HV.out
  have hw := HW.out w1 (H.out.below hb)
  clear hE hb1 R1 hb
  go_wp2_with fail
  refine hw.mono ?_
  rintro e w2 ⟨rfl, hd, ho⟩
  have HD : Hid (SavedAt w w2 p D D2 F) := ⟨hd.mono (plus_below HB.out.size), (Only.of_below HB.out F).then ho⟩
  have hf := HF.out w2 _ hd
  clear hw hd ho
  go_wp2_with fail
  refine hf.mono ?_
  rintro e w3 ⟨rfl, rfl⟩
  go_wp2
  go_ret
  exact ⟨rfl, HD.out⟩
set_option maxRecDepth 100000 in
set_option maxHeartbeats 2000000 in
theorem save_yes (X : SupSays) {w : World} {p : Nat} {D : Dr} {F : Nat → Prop} (h : DriveAt w p D F) (s : Su) (hI : s.uu < 18446744073709551616 ∧ s.ev < 18446744073709551616 ∧ s.c ≤ 9223372036854775807 ∧ s.nw ≤ 9223372036854775807) (hm : Sup.mayB s = true) (ht : D.takeE (Dr.slot s) 64 = 0)
    (hi : Dr.slot s < D.safe.length) (hlen : ∀ i, (D.writes i).length < 1000000) (hr : (D.write (Dr.slot s) (Sup.secT s).data.toList).runsE = 0) :
    Calls Try.prog 13 #[.pointer (some ⟨p, 0, none⟩), .agg (supL s).toArray] w fun e w' => e = .returned (.int .i64 0) ∧ SavedAt w w' p D (D.write (Dr.slot s) (Sup.secT s).data.toList).flush F := by
  have hE := fun W => X.enc s hI.1 hI.2.1 hI.2.2.1 hI.2.2.2 W
  obtain ⟨e1, e2, e3⟩ := enc_yes hI hm
  rw [e1, e2] at hE
  have hW := fun (W : World) (hW : DriveAt W p D F) => write_yes hW (Dr.slot s) (Sup.secT s) (by rw [e3]; exact ht) hi (Nat.le_of_lt (hlen _))
  have hlen2 : ∀ i, ((D.write (Dr.slot s) (Sup.secT s).data.toList).writes i).length ≤ 1000000 := fun i => by
    show (if i = Dr.slot s then D.writes (Dr.slot s) ++ [(Sup.secT s).data.toList] else D.writes i).length ≤ _
    split
    · have := hlen (Dr.slot s); simp; omega
    · exact Nat.le_of_lt (hlen i)
  obtain ⟨D2, eD⟩ : ∃ D2, D2 = D.write (Dr.slot s) (Sup.secT s).data.toList := ⟨_, rfl⟩
  rw [← eD] at hW hr hlen2 ⊢
  simp only [slot_cast] at hW
  have hF := fun (W : World) (G : Nat → Prop) (hW : DriveAt W p D2 G) => flush_yes hW hr hlen2
  obtain ⟨t, et⟩ : ∃ t, t = Sup.secT s := ⟨_, rfl⟩
  rw [← et] at hE hW
  obtain ⟨l, el, L⟩ := sup_letter s
  rw [el] at hE ⊢
  have HV := L.ev
  obtain ⟨v, ev⟩ : ∃ v, v = s.ev := ⟨_, rfl⟩
  rw [← ev] at hW HV
  have hv : (v : Int) < 18446744073709551616 := by have := hI.2.1; omega
  have H : Hid (DriveAt w p D F) := h
  have HW : Hid _ := hW
  have HF : Hid _ := hF
  have HV : Hid _ := HV
  have HL : Hid _ := L
  have R : Hid _ := range_new w 30 l
  clear h X L el hI hm et ev e1 e2 e3 hW ht hF hlen hi eD hlen2 hr
  go_enter Try.func13, Try.ntmps13
  go_wp2_with (first
    | (refine wpList_load_mid rfl 30 _ rfl w.heap.size 0 rfl l _ R.out Try.underlying30 rfl HL.out.info ?_))
  refine (hE _).mono ?_
  rintro e w1 ⟨rfl, hb1⟩
  have R1 := range_below R.out (by rw [World.size_alloc]; exact Nat.lt_succ_self _) hb1
  have hb : Below w.heap.size w w1 := ((Below.refl w.heap.size w).alloc (Nat.le_refl _) _).trans (hb1.mono (by rw [World.size_alloc]; omega))
  have HB : Hid (Below w.heap.size w w1) := hb
  have hev := range_cell R1 HV.out
  have hw := HW.out w1 (H.out.below hb)
  clear hE hb1 R1 hb
  go_wp2_with fail
  refine hw.mono ?_
  rintro e w2 ⟨rfl, hd, ho⟩
  have HD : Hid (SavedAt w w2 p D D2 F) := ⟨hd.mono (plus_below HB.out.size), (Only.of_below HB.out F).then ho⟩
  have HS : Hid (w1.heap.size ≤ w2.heap.size ∧ Below w.heap.size w w1) := ⟨ho.size, HB.out⟩
  have hf := HF.out w2 _ hd
  clear hw hd ho
  go_wp2_with fail
  refine hf.mono ?_
  rintro e w3 ⟨rfl, hd, ho⟩
  have HE : Hid (SavedAt w w3 p D D2.flush F) := ⟨hd.mono (plus_below HS.out.2.size), HD.out.2.trans (ho.mono (plus_below HS.out.2.size))⟩
  clear hf hd ho
  go_wp2
  go_ret
  exact ⟨rfl, HE.out⟩
theorem save_any (X : SupSays) {w : World} {p : Nat} {D : Dr} {F : Nat → Prop} (h : DriveAt w p D F) (s : Su) (hI : s.uu < 18446744073709551616 ∧ s.ev < 18446744073709551616 ∧ s.c ≤ 9223372036854775807 ∧ s.nw ≤ 9223372036854775807) (h2 : 2 ≤ D.safe.length) (hlen : ∀ i, (D.writes i).length < 1000000) :
    Calls Try.prog 13 #[.pointer (some ⟨p, 0, none⟩), .agg (supL s).toArray] w fun e w' => e = .returned (.int .i64 (D.saveE s : Nat)) ∧ SavedAt w w' p D (D.saveD s) F := by
  have hi : Dr.slot s < D.safe.length := by have := Nat.mod_lt s.ev (show 2 > 0 by decide); unfold Dr.slot; omega
  unfold Dr.saveE Dr.saveD
  cases hm : Sup.mayB s
  case false => simpa using save_arg X h s hI hm
  case true =>
    simp only [if_true]
    by_cases ht : D.takeE (Dr.slot s) 64 = 0
    · rw [if_pos ht, if_pos ht]
      by_cases hr : (D.write (Dr.slot s) (Sup.secT s).data.toList).runsE = 0
      · rw [if_pos hr, hr]; exact save_yes X h s hI hm ht hi hlen hr
      · rw [if_neg hr]; exact save_half X h s hI hm ht hi (Nat.le_of_lt (hlen _)) hr
    · rw [if_neg ht, if_neg ht]; exact save_no X h s hI hm ht
end Go.Proofs.Ytgkhnfchohcjeaa
