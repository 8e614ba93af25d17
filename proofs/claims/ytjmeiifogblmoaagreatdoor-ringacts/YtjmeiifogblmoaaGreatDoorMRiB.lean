/- Several texts in one. The journal of the statements' own shown: a drive of 90 sectors: plain. The walk of the statements' own shown of a journal. -/
import Derived.Test.YtjmeiifogblmoaaGreatDoorMRiA
import Derived.Test.YtjmeiifogblmoaaGreatDoorRiSays
namespace Go.Proofs.YtjmeiifogblmoaaGreatDoor

namespace Ri
open Dr
structure Nine (D : Dr) : Prop where
  calm : D.Calm 90
  mark : D.last 3 = (markB 0).data.toList
  blank : D.last 45 = List.replicate 64 0
theorem format_nine : formatS (Dr.fresh 90) = (0, blanked (Dr.fresh 90) 2) ∧ Nine (blanked (Dr.fresh 90) 2) := by
  have hc := Calm.fresh 90
  have hp : ∀ j, j < 2 → (fun i => 4 + 41 * i) j < 90 := fun j hj => by show 4 + 41 * j < _; omega
  have hlv := hc.live.puts (fun i => 4 + 41 * i) (fun _ => List.replicate 64 0) 2
  have hsp := puts_spoilt hc.spoilt (fun i => 4 + 41 * i) (fun _ => List.replicate 64 0) 2
  have hlv2 := hlv.put 3 (markB 0).data.toList
  have hsp2 : ∀ i, (((Dr.fresh 90).puts (fun i => 4 + 41 * i) (fun _ => List.replicate 64 0) 2).put 3 (markB 0).data.toList).spoilt.getD i false = false := fun i => put_spoilt _ _ _ (hsp i)
  refine ⟨?_, hlv2.calmed hsp2, ?_, ?_⟩
  · unfold formatS
    rw [hc.live.len, show slots 90 = 2 from rfl, if_neg (by decide), wrTo_live hc.live _ hp, wr1_live hlv (by decide), fl1_live hlv2]
    rfl
  · unfold blanked
    rw [calmed_last hlv2 hsp2 (by decide)]
    exact put_last _ _ _
  · unfold blanked
    rw [calmed_last hlv2 hsp2 (by decide), put_else _ _ (by decide)]
    exact puts_last (Dr.fresh 90) (p := fun i => 4 + 41 * i) (fun _ => List.replicate 64 0) (fun a b e => by
      have : 4 + 41 * a = 4 + 41 * b := e
      omega) (j := 1) (by decide)
theorem Nine.opens {D : Dr} (h : Nine D) : openE D = 0 ∧ openT D = 0 ∧ openC D = 0 := by
  have h3 := h.calm.read (i := 3) (by decide)
  have hm : markAt D = markB 0 := by unfold markAt; rw [h3.2, h.mark, txt_data]
  have hn : isRec D (nth 0 (0 + 1)) = false := by
    apply isRec_not
    rintro ⟨_, e1, _⟩
    have : Ri.headAt D (nth 0 (0 + 1)) = txt (List.replicate 64 0) := by
      unfold Ri.headAt
      rw [h.calm.live.len, show first 90 (nth 0 (0 + 1)) = 45 from rfl, (h.calm.read (i := 45) (by decide)).2, h.blank]
    rw [this] at e1
    exact blank_head e1
  have ht : told (markB 0) = 0 := told_mark (by decide)
  refine ⟨?_, ?_, ?_⟩
  · unfold openE
    rw [h3.1, if_pos rfl, hm, h.calm.live.len, if_pos ⟨isMark_yes (by decide), by decide⟩]
  · unfold openT
    rw [hm, ht]
  · unfold openC openT
    rw [hm, ht, h.calm.live.len]
    exact cnt_is (k := 0) (fun j hj => absurd hj (Nat.not_lt_zero _)) (Nat.zero_le _) (fun _ => hn)
theorem Nine.append {D : Dr} (h : Nine D) {row : Int} {n : Nat} {f : Nat → Prt} (hr : Rc.mayB row n f = true) : (appS D 0 0 row n f).1 = 0 := by
  have hl := h.calm.live.len
  have hn := Rcd.may_n (r := ⟨row, n, f⟩) hr
  have hp : ∀ j, j < n → (fun j => first 90 (nth 0 (0 + 1)) + 1 + j) j < 90 := fun j hj => by
    show first 90 (nth 0 (0 + 1)) + 1 + j < _
    rw [show first 90 (nth 0 (0 + 1)) = 45 from rfl]
    have : n ≤ 40 := hn.2
    omega
  have hlv := h.calm.live.puts (fun j => first 90 (nth 0 (0 + 1)) + 1 + j) (fun j => (f j).data.data.toList) n
  have hsp := puts_spoilt h.calm.spoilt (fun j => first 90 (nth 0 (0 + 1)) + 1 + j) (fun j => (f j).data.data.toList) n
  have h2 := hlv.calmed hsp
  unfold appS putS
  rw [hl, if_neg (by decide), if_pos hr, wrTo_live h.calm.live _ hp, fl1_live hlv, wr1_live h2.live (by decide), fl1_live (h2.live.put _ _)]
end Ri
end Go.Proofs.YtjmeiifogblmoaaGreatDoor

namespace Go.Proofs.YtjmeiifogblmoaaGreatDoor
open Go.RowKit

namespace Ri
/-- the text of shown -/
def aT : Nat → ByteArray := fun j => [⟨#[97]⟩].getD j ⟨#[]⟩
theorem someP_light (n : Nat) (l : Nat → ByteArray) : RecLight (someN n) (someP l) := ⟨by unfold someN; omega, fun j _ => by show (Rc.fillB (l j)).size ≤ 100; rw [Rc.fillB_size]; decide⟩
theorem appV_yes {D : Dr} {t c : Nat} {row : Int} {n : Nat} {f : Nat → Prt} (h : (appS D t c row n f).1 = 0) : appV D t c row n f = nth t (c + 1) ∧ appC D t c row n f = c + 1 := ⟨if_pos h, if_pos h⟩
open Dr
theorem putS_keeps (D : Dr) (m : Nat) (row : Int) (n : Nat) (f : Nat → Prt) : (putS D m row n f).2.safe.length = D.safe.length ∧ (putS D m row n f).2.dead = D.dead ∧ (putS D m row n f).2.goes = D.goes := by
  unfold putS
  obtain ⟨a1, a2, a3⟩ := wrTo_keeps (0, D) (fun j => first D.safe.length m + 1 + j) (fun j => (f j).data.data.toList) n
  obtain ⟨b1, b2, b3⟩ := fl1_keeps (wrTo (0, D) (fun j => first D.safe.length m + 1 + j) (fun j => (f j).data.data.toList) n)
  obtain ⟨c1, c2, c3⟩ := wr1_keeps (fl1 (wrTo (0, D) (fun j => first D.safe.length m + 1 + j) (fun j => (f j).data.data.toList) n)) (first D.safe.length m) (Rc.headS m row n f (Rc.sumF n f)).data.toList
  obtain ⟨d1, d2, d3⟩ := fl1_keeps (wr1 (fl1 (wrTo (0, D) (fun j => first D.safe.length m + 1 + j) (fun j => (f j).data.data.toList) n)) (first D.safe.length m) (Rc.headS m row n f (Rc.sumF n f)).data.toList)
  exact ⟨d1.trans ((congrArg List.length c1).trans (b1.trans (congrArg List.length a1))), d2.trans (c2.trans (b2.trans a2)), d3.trans (c3.trans (b3.trans a3))⟩
theorem appS_keeps (D : Dr) (t c : Nat) (row : Int) (n : Nat) (f : Nat → Prt) : (appS D t c row n f).2.safe.length = D.safe.length ∧ (appS D t c row n f).2.dead = D.dead ∧ (appS D t c row n f).2.goes = D.goes := by
  unfold appS
  split
  · exact ⟨rfl, rfl, rfl⟩
  · split
    · exact putS_keeps _ _ _ _ _
    · exact ⟨rfl, rfl, rfl⟩
theorem trimS_keeps (D : Dr) (t c q : Nat) : (trimS D t c q).2.safe.length = D.safe.length ∧ (trimS D t c q).2.dead = D.dead ∧ (trimS D t c q).2.goes = D.goes := by
  unfold trimS
  split
  · obtain ⟨c1, c2, c3⟩ := wr1_keeps (0, D) 3 (markB q).data.toList
    obtain ⟨d1, d2, d3⟩ := fl1_keeps (wr1 (0, D) 3 (markB q).data.toList)
    exact ⟨d1.trans (congrArg List.length c1), d2.trans c2, d3.trans c3⟩
  · exact ⟨rfl, rfl, rfl⟩
end Ri
theorem a_row (w : World) (t : TypeId) : RowS (w.alloc (.cells #[.string ⟨#[97]⟩] t)) (some ⟨w.heap.size, 0, none⟩) 1 Ri.aT := RowS.new w 1 Ri.aT _ t rfl

set_option maxRecDepth 100000 in
set_option maxHeartbeats 4000000 in
theorem shown13_any (X : RingSays) (w : World) : Calls Tryz.prog 9 #[] w fun e w' => e = .returned (.bool true) ∧ Below w.heap.size w w' := by
  have hsome := fun (W : World) (a : Option Addr) (hr : RowS W a 1 Ri.aT) => some13_any a 1 1 Ri.aT W ⟨by decide, by intro j hj; rcases (by omega : j = 0) with rfl; decide⟩ hr
  have n1 : Ri.someN 1 = 1 := rfl
  have hM : Rc.mayB ((3 : Nat) : Int) (Ri.someN 1) (Ri.someP Ri.aT) = true := Ri.someP_may (by decide) (by decide) _
  have hI : RecIn 3 (Ri.someN 1) (Ri.someP Ri.aT) := Ri.someP_in (by decide) _ _
  have hL := Ri.someP_light 1 Ri.aT
  obtain ⟨hfm, h9⟩ := Ri.format_nine
  obtain ⟨o1, o2, o3⟩ := h9.opens
  have hap := h9.append (row := 3) (n := Ri.someN 1) (f := Ri.someP Ri.aT) hM
  have hnew := fun (W : World) (h : w.heap.size ≤ W.heap.size) => new_mine 90 w.heap.size (by decide) (by decide) W h
  have hfew : (Dr.fresh 90).Few 900000 := fun i => Nat.zero_le _
  obtain ⟨D1, hD1⟩ : ∃ D1, D1 = Ri.blanked (Dr.fresh 90) 2 := ⟨_, rfl⟩
  rw [← hD1] at hfm h9 o1 o2 o3 hap
  have hg1 := h9.calm.live.goes
  have hf1 : D1.Few 900000 := fun i => by rw [h9.calm.none i]; exact Nat.zero_le _
  have hln := h9.calm.live.len
  have hsl : Ri.slots 90 = 2 := rfl
  obtain ⟨D2, hD2⟩ : ∃ D2, D2 = (Ri.appS D1 0 0 3 (Ri.someN 1) (Ri.someP Ri.aT)).2 := ⟨_, rfl⟩
  obtain ⟨a1, a2⟩ := Ri.appV_yes hap
  rw [n1] at hsome
  have HNew : Hid _ := hnew
  have HSo : Hid _ := hsome
  have HFo : Hid (∀ W dp, Mine W w.heap.size dp (Dr.fresh 90) → Calls Tryz.prog 12 #[.pointer (some ⟨dp, 0, none⟩)] W fun e w' => e = .returned (.int .i64 0) ∧ Mine w' w.heap.size dp D1 ∧ Below w.heap.size W w') := fun W dp h => by
    have := format_mine h rfl hfew X
    rw [hfm] at this
    exact this
  have HOp : Hid (∀ W dp, Mine W w.heap.size dp D1 → Calls Tryz.prog 16 #[.pointer (some ⟨dp, 0, none⟩)] W fun e w' => ∃ rp a cap, e = .returned (.tuple #[.pointer (some ⟨rp, 0, none⟩), .slice a 0 cap, .int .i64 0]) ∧ RMine X w' w.heap.size rp dp D1 0 0 ∧ Below w.heap.size W w') := fun W dp h => by
    have := opens_mine h hg1 o1 X
    rw [o2, o3] at this
    exact this.mono fun e w' ⟨rp, a, cap, h1, h2, _, h4⟩ => ⟨rp, a, cap, h1, h2, h4⟩
  have HAp : Hid (∀ W0 W rp dp a cap, RMine X W0 w.heap.size rp dp D1 0 0 → Below W0.heap.size W0 W → PartsR W a 1 (Ri.someP Ri.aT) → (∀ x, a = some x → W0.heap.size ≤ x.block) →
      Calls Tryz.prog 28 #[.pointer (some ⟨rp, 0, none⟩), .int .i64 3, .slice a 1 cap] W fun e w' => e = .returned (.tuple #[.int .u64 1, .int .i64 0]) ∧ RMine X w' w.heap.size rp dp D2 0 1 ∧ Below w.heap.size W w') := fun W0 W rp dp a cap h hb hp ha => by
    have := append_mine (cap := cap) h hb hg1 hf1 (by decide) (by decide) hI hL hp (fun x hx => .inr (ha x hx))
    rw [hap, a1, a2, ← hD2] at this
    exact this
  have hl2 : D2.safe.length = 90 := by
    rw [hD2, (Ri.appS_keeps D1 0 0 3 (Ri.someN 1) (Ri.someP Ri.aT)).1]
    exact hln
  have HLe : Hid (∀ W rp dp, RMine X W w.heap.size rp dp D2 0 1 → Calls Tryz.prog 33 #[.pointer (some ⟨rp, 0, none⟩)] W fun e w' => e = .returned (.int .i64 1) ∧ RMine X w' w.heap.size rp dp D2 0 1 ∧ Below w.heap.size W w') := fun W rp dp h => by
    have := left_mine h (by decide) (by decide)
    rw [hl2] at this
    exact this
  have HNe : Hid (∀ W rp dp, RMine X W w.heap.size rp dp D2 0 1 → Calls Tryz.prog 35 #[.pointer (some ⟨rp, 0, none⟩)] W fun e w' => e = .returned (.int .u64 2) ∧ RMine X w' w.heap.size rp dp D2 0 1 ∧ Below w.heap.size W w') := fun W rp dp h => next_mine h
  have HSl : Hid (∀ W, Calls Tryz.prog 14 #[.int .i64 90] W fun e w' => e = .returned (.int .i64 2) ∧ Below W.heap.size W w') := fun W => X.slots 90 W (by decide)
  clear hsome hnew hM hI hL hfm h9 o1 o2 o3 hap hfew hD1 hg1 hf1 hln hsl hD2 a1 a2 n1 hl2
  go_enter Tryz.func9, Tryz.ntmps9
  go_wp2_with fail
  refine (HNew.out _ (Nat.le_refl _)).mono ?_
  rintro e w1 ⟨dp, rfl, hm1, hb1⟩
  have HM1 : Hid (Mine w1 w.heap.size dp (Dr.fresh 90)) := hm1
  have HB1 : Hid (Below w.heap.size w w1) := hb1
  clear hm1 hb1
  go_wp2_with fail
  refine (HFo.out _ _ HM1.out).mono ?_
  rintro e w2 ⟨rfl, hm2, hb2⟩
  have HM2 : Hid (Mine w2 w.heap.size dp D1) := hm2
  have HB2 : Hid (Below w.heap.size w w2) := HB1.out.trans hb2
  clear hm2 hb2
  go_wp2_with fail
  refine (HOp.out _ _ HM2.out).mono ?_
  rintro e w3 ⟨rp, ax, cx, rfl, hm3, hb3⟩
  have HM3 : Hid (RMine X w3 w.heap.size rp dp D1 0 0) := hm3
  have HB3 : Hid (Below w.heap.size w w3) := HB2.out.trans hb3
  clear hm3 hb3
  go_wp2_with fail
  refine (HSo.out _ _ (a_row _ _)).mono ?_
  rintro e w4 ⟨a4, c4, rfl, hp4, hn4, hb4⟩
  have HB34 : Hid (Below w3.heap.size w3 w4) := box_below hb4
  have HP4 : Hid (PartsR w4 a4 1 (Ri.someP Ri.aT)) := hp4
  have HN4 : Hid (∀ x, a4 = some x → w3.heap.size ≤ x.block) := fun x hx => by have := hn4 x hx; simp at this; omega
  clear hp4 hn4 hb4
  go_wp2_with fail
  refine (HAp.out _ _ _ _ _ _ HM3.out HB34.out HP4.out HN4.out).mono ?_
  rintro e w5 ⟨rfl, hm5, hb5⟩
  have HM5 : Hid (RMine X w5 w.heap.size rp dp D2 0 1) := hm5
  have HB5 : Hid (Below w.heap.size w w5) := (HB3.out.trans (HB34.out.mono HM3.out.le)).trans hb5
  clear hm5 hb5
  go_wp2_with fail
  refine (HLe.out _ _ _ HM5.out).mono ?_
  rintro e w6 ⟨rfl, hm6, hb6⟩
  have HM6 : Hid (RMine X w6 w.heap.size rp dp D2 0 1) := hm6
  have HB6 : Hid (Below w.heap.size w w6) := HB5.out.trans hb6
  clear hm6 hb6
  go_wp2_with fail
  refine (HNe.out _ _ _ HM6.out).mono ?_
  rintro e w7 ⟨rfl, hm7, hb7⟩
  have HM7 : Hid (RMine X w7 w.heap.size rp dp D2 0 1) := hm7
  have HB7 : Hid (Below w.heap.size w w7) := HB6.out.trans hb7
  clear hm7 hb7
  go_wp2_with fail
  refine (HSl.out _).mono ?_
  rintro e w8 ⟨rfl, hb8⟩
  have HB8 : Hid (Below w.heap.size w w8) := HB7.out.trans (hb8.mono HM7.out.le)
  clear hb8
  go_wp2
  go_ret
  exact ⟨rfl, HB8.out⟩
end Go.Proofs.YtjmeiifogblmoaaGreatDoor
