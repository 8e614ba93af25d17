/- Several texts in one. The journal of the statements' own shown: a drive of 90 sectors: plain. The walk of the statements' own shown of a journal. The walk of the law RingEmpty, over what is asked of the program's ring. What a ring of the statements answers, over what is asked of the program's ring. -/
import Derived.Test.YtjmeiifogblmoaaGreatDoorMRiA
import Derived.Test.YtjmeiifogblmoaaGreatDoorRiSays
import Derived.Deep.RegionHeld3
namespace Go.Proofs.YtjmeiifogblmoaaGreatDoor

namespace Ri
open Dr
structure Nine (D : Dr) : Prop where
  calm : D.Calm 90
  mark : D.last 3 = (markB 0).data.toList
  blank : D.last 45 = List.replicate 64 0
theorem format_nine : formatS (Dr.fresh 90) = (0, blanked (Dr.fresh 90) 2) ∧ Nine (blanked (Dr.fresh 90) 2) := by
  have hc := Calm.fresh 90
  have hp : ∀ j, j < 2 → (fun i => 4 + 41 * i) j < 90 := fun j hj => by show 4 + 41 * j < _; omega
  have hlv := hc.live.puts (fun i => 4 + 41 * i) (fun _ => List.replicate 64 0) 2
  have hsp := puts_spoilt hc.spoilt (fun i => 4 + 41 * i) (fun _ => List.replicate 64 0) 2
  have hlv2 := hlv.put 3 (markB 0).data.toList
  have hsp2 : ∀ i, (((Dr.fresh 90).puts (fun i => 4 + 41 * i) (fun _ => List.replicate 64 0) 2).put 3 (markB 0).data.toList).spoilt.getD i false = false := fun i => put_spoilt _ _ _ (hsp i)
  refine ⟨?_, hlv2.calmed hsp2, ?_, ?_⟩
  · unfold formatS
    rw [hc.live.len, show slots 90 = 2 from rfl, if_neg (by decide), wrTo_live hc.live _ hp, wr1_live hlv (by decide), fl1_live hlv2]
    rfl
  · unfold blanked
    rw [calmed_last hlv2 hsp2 (by decide)]
    exact put_last _ _ _
  · unfold blanked
    rw [calmed_last hlv2 hsp2 (by decide), put_else _ _ (by decide)]
    exact puts_last (Dr.fresh 90) (p := fun i => 4 + 41 * i) (fun _ => List.replicate 64 0) (fun a b e => by
      have : 4 + 41 * a = 4 + 41 * b := e
      omega) (j := 1) (by decide)
theorem Nine.opens {D : Dr} (h : Nine D) : openE D = 0 ∧ openT D = 0 ∧ openC D = 0 := by
  have h3 := h.calm.read (i := 3) (by decide)
  have hm : markAt D = markB 0 := by unfold markAt; rw [h3.2, h.mark, txt_data]
  have hn : isRec D (nth 0 (0 + 1)) = false := by
    apply isRec_not
    rintro ⟨_, e1, _⟩
    have : Ri.headAt D (nth 0 (0 + 1)) = txt (List.replicate 64 0) := by
      unfold Ri.headAt
      rw [h.calm.live.len, show first 90 (nth 0 (0 + 1)) = 45 from rfl, (h.calm.read (i := 45) (by decide)).2, h.blank]
    rw [this] at e1
    exact blank_head e1
  have ht : told (markB 0) = 0 := told_mark (by decide)
  refine ⟨?_, ?_, ?_⟩
  · unfold openE
    rw [h3.1, if_pos rfl, hm, h.calm.live.len, if_pos ⟨isMark_yes (by decide), by decide⟩]
  · unfold openT
    rw [hm, ht]
  · unfold openC openT
    rw [hm, ht, h.calm.live.len]
    exact cnt_is (k := 0) (fun j hj => absurd hj (Nat.not_lt_zero _)) (Nat.zero_le _) (fun _ => hn)
theorem Nine.append {D : Dr} (h : Nine D) {row : Int} {n : Nat} {f : Nat → Prt} (hr : Rc.mayB row n f = true) : (appS D 0 0 row n f).1 = 0 := by
  have hl := h.calm.live.len
  have hn := Rcd.may_n (r := ⟨row, n, f⟩) hr
  have hp : ∀ j, j < n → (fun j => first 90 (nth 0 (0 + 1)) + 1 + j) j < 90 := fun j hj => by
    show first 90 (nth 0 (0 + 1)) + 1 + j < _
    rw [show first 90 (nth 0 (0 + 1)) = 45 from rfl]
    have : n ≤ 40 := hn.2
    omega
  have hlv := h.calm.live.puts (fun j => first 90 (nth 0 (0 + 1)) + 1 + j) (fun j => (f j).data.data.toList) n
  have hsp := puts_spoilt h.calm.spoilt (fun j => first 90 (nth 0 (0 + 1)) + 1 + j) (fun j => (f j).data.data.toList) n
  have h2 := hlv.calmed hsp
  unfold appS putS
  rw [hl, if_neg (by decide), if_pos hr, wrTo_live h.calm.live _ hp, fl1_live hlv, wr1_live h2.live (by decide), fl1_live (h2.live.put _ _)]
end Ri
end Go.Proofs.YtjmeiifogblmoaaGreatDoor

namespace Go.Proofs.YtjmeiifogblmoaaGreatDoor
open Go.RowKit

namespace Ri
/-- the text of shown -/
def aT : Nat → ByteArray := fun j => [⟨#[97]⟩].getD j ⟨#[]⟩
theorem someP_light (n : Nat) (l : Nat → ByteArray) : RecLight (someN n) (someP l) := ⟨by unfold someN; omega, fun j _ => by show (Rc.fillB (l j)).size ≤ 100; rw [Rc.fillB_size]; decide⟩
theorem appV_yes {D : Dr} {t c : Nat} {row : Int} {n : Nat} {f : Nat → Prt} (h : (appS D t c row n f).1 = 0) : appV D t c row n f = nth t (c + 1) ∧ appC D t c row n f = c + 1 := ⟨if_pos h, if_pos h⟩
open Dr
theorem putS_keeps (D : Dr) (m : Nat) (row : Int) (n : Nat) (f : Nat → Prt) : (putS D m row n f).2.safe.length = D.safe.length ∧ (putS D m row n f).2.dead = D.dead ∧ (putS D m row n f).2.goes = D.goes := by
  unfold putS
  obtain ⟨a1, a2, a3⟩ := wrTo_keeps (0, D) (fun j => first D.safe.length m + 1 + j) (fun j => (f j).data.data.toList) n
  obtain ⟨b1, b2, b3⟩ := fl1_keeps (wrTo (0, D) (fun j => first D.safe.length m + 1 + j) (fun j => (f j).data.data.toList) n)
  obtain ⟨c1, c2, c3⟩ := wr1_keeps (fl1 (wrTo (0, D) (fun j => first D.safe.length m + 1 + j) (fun j => (f j).data.data.toList) n)) (first D.safe.length m) (Rc.headS m row n f (Rc.sumF n f)).data.toList
  obtain ⟨d1, d2, d3⟩ := fl1_keeps (wr1 (fl1 (wrTo (0, D) (fun j => first D.safe.length m + 1 + j) (fun j => (f j).data.data.toList) n)) (first D.safe.length m) (Rc.headS m row n f (Rc.sumF n f)).data.toList)
  exact ⟨d1.trans ((congrArg List.length c1).trans (b1.trans (congrArg List.length a1))), d2.trans (c2.trans (b2.trans a2)), d3.trans (c3.trans (b3.trans a3))⟩
theorem appS_keeps (D : Dr) (t c : Nat) (row : Int) (n : Nat) (f : Nat → Prt) : (appS D t c row n f).2.safe.length = D.safe.length ∧ (appS D t c row n f).2.dead = D.dead ∧ (appS D t c row n f).2.goes = D.goes := by
  unfold appS
  split
  · exact ⟨rfl, rfl, rfl⟩
  · split
    · exact putS_keeps _ _ _ _ _
    · exact ⟨rfl, rfl, rfl⟩
theorem trimS_keeps (D : Dr) (t c q : Nat) : (trimS D t c q).2.safe.length = D.safe.length ∧ (trimS D t c q).2.dead = D.dead ∧ (trimS D t c q).2.goes = D.goes := by
  unfold trimS
  split
  · obtain ⟨c1, c2, c3⟩ := wr1_keeps (0, D) 3 (markB q).data.toList
    obtain ⟨d1, d2, d3⟩ := fl1_keeps (wr1 (0, D) 3 (markB q).data.toList)
    exact ⟨d1.trans (congrArg List.length c1), d2.trans c2, d3.trans c3⟩
  · exact ⟨rfl, rfl, rfl⟩
end Ri
theorem a_row (w : World) (t : TypeId) : RowS (w.alloc (.cells #[.string ⟨#[97]⟩] t)) (some ⟨w.heap.size, 0, none⟩) 1 Ri.aT := RowS.new w 1 Ri.aT _ t rfl

set_option maxRecDepth 100000 in
set_option maxHeartbeats 4000000 in
theorem shown13_any (X : RingSays) (w : World) : Calls Tryz.prog 9 #[] w fun e w' => e = .returned (.bool true) ∧ Below w.heap.size w w' := by
  have hsome := fun (W : World) (a : Option Addr) (hr : RowS W a 1 Ri.aT) => some13_any a 1 1 Ri.aT W ⟨by decide, by intro j hj; rcases (by omega : j = 0) with rfl; decide⟩ hr
  have n1 : Ri.someN 1 = 1 := rfl
  have hM : Rc.mayB ((3 : Nat) : Int) (Ri.someN 1) (Ri.someP Ri.aT) = true := Ri.someP_may (by decide) (by decide) _
  have hI : RecIn 3 (Ri.someN 1) (Ri.someP Ri.aT) := Ri.someP_in (by decide) _ _
  have hL := Ri.someP_light 1 Ri.aT
  obtain ⟨hfm, h9⟩ := Ri.format_nine
  obtain ⟨o1, o2, o3⟩ := h9.opens
  have hap := h9.append (row := 3) (n := Ri.someN 1) (f := Ri.someP Ri.aT) hM
  have hnew := fun (W : World) (h : w.heap.size ≤ W.heap.size) => new_mine 90 w.heap.size (by decide) (by decide) W h
  have hfew : (Dr.fresh 90).Few 900000 := fun i => Nat.zero_le _
  obtain ⟨D1, hD1⟩ : ∃ D1, D1 = Ri.blanked (Dr.fresh 90) 2 := ⟨_, rfl⟩
  rw [← hD1] at hfm h9 o1 o2 o3 hap
  have hg1 := h9.calm.live.goes
  have hf1 : D1.Few 900000 := fun i => by rw [h9.calm.none i]; exact Nat.zero_le _
  have hln := h9.calm.live.len
  have hsl : Ri.slots 90 = 2 := rfl
  obtain ⟨D2, hD2⟩ : ∃ D2, D2 = (Ri.appS D1 0 0 3 (Ri.someN 1) (Ri.someP Ri.aT)).2 := ⟨_, rfl⟩
  obtain ⟨a1, a2⟩ := Ri.appV_yes hap
  rw [n1] at hsome
  have HNew : Hid _ := hnew
  have HSo : Hid _ := hsome
  have HFo : Hid (∀ W dp, Mine W w.heap.size dp (Dr.fresh 90) → Calls Tryz.prog 12 #[.pointer (some ⟨dp, 0, none⟩)] W fun e w' => e = .returned (.int .i64 0) ∧ Mine w' w.heap.size dp D1 ∧ Below w.heap.size W w') := fun W dp h => by
    have := format_mine h rfl hfew X
    rw [hfm] at this
    exact this
  have HOp : Hid (∀ W dp, Mine W w.heap.size dp D1 → Calls Tryz.prog 16 #[.pointer (some ⟨dp, 0, none⟩)] W fun e w' => ∃ rp a cap, e = .returned (.tuple #[.pointer (some ⟨rp, 0, none⟩), .slice a 0 cap, .int .i64 0]) ∧ RMine X w' w.heap.size rp dp D1 0 0 ∧ Below w.heap.size W w') := fun W dp h => by
    have := opens_mine h hg1 o1 X
    rw [o2, o3] at this
    exact this.mono fun e w' ⟨rp, a, cap, h1, h2, _, h4⟩ => ⟨rp, a, cap, h1, h2, h4⟩
  have HAp : Hid (∀ W0 W rp dp a cap, RMine X W0 w.heap.size rp dp D1 0 0 → Below W0.heap.size W0 W → PartsR W a 1 (Ri.someP Ri.aT) → (∀ x, a = some x → W0.heap.size ≤ x.block) →
      Calls Tryz.prog 28 #[.pointer (some ⟨rp, 0, none⟩), .int .i64 3, .slice a 1 cap] W fun e w' => e = .returned (.tuple #[.int .u64 1, .int .i64 0]) ∧ RMine X w' w.heap.size rp dp D2 0 1 ∧ Below w.heap.size W w') := fun W0 W rp dp a cap h hb hp ha => by
    have := append_mine (cap := cap) h hb hg1 hf1 (by decide) (by decide) hI hL hp (fun x hx => .inr (ha x hx))
    rw [hap, a1, a2, ← hD2] at this
    exact this
  have hl2 : D2.safe.length = 90 := by
    rw [hD2, (Ri.appS_keeps D1 0 0 3 (Ri.someN 1) (Ri.someP Ri.aT)).1]
    exact hln
  have HLe : Hid (∀ W rp dp, RMine X W w.heap.size rp dp D2 0 1 → Calls Tryz.prog 33 #[.pointer (some ⟨rp, 0, none⟩)] W fun e w' => e = .returned (.int .i64 1) ∧ RMine X w' w.heap.size rp dp D2 0 1 ∧ Below w.heap.size W w') := fun W rp dp h => by
    have := left_mine h (by decide) (by decide)
    rw [hl2] at this
    exact this
  have HNe : Hid (∀ W rp dp, RMine X W w.heap.size rp dp D2 0 1 → Calls Tryz.prog 35 #[.pointer (some ⟨rp, 0, none⟩)] W fun e w' => e = .returned (.int .u64 2) ∧ RMine X w' w.heap.size rp dp D2 0 1 ∧ Below w.heap.size W w') := fun W rp dp h => next_mine h
  have HSl : Hid (∀ W, Calls Tryz.prog 14 #[.int .i64 90] W fun e w' => e = .returned (.int .i64 2) ∧ Below W.heap.size W w') := fun W => X.slots 90 W (by decide)
  clear hsome hnew hM hI hL hfm h9 o1 o2 o3 hap hfew hD1 hg1 hf1 hln hsl hD2 a1 a2 n1 hl2
  go_enter Tryz.func9, Tryz.ntmps9
  go_wp2_with fail
  refine (HNew.out _ (Nat.le_refl _)).mono ?_
  rintro e w1 ⟨dp, rfl, hm1, hb1⟩
  have HM1 : Hid (Mine w1 w.heap.size dp (Dr.fresh 90)) := hm1
  have HB1 : Hid (Below w.heap.size w w1) := hb1
  clear hm1 hb1
  go_wp2_with fail
  refine (HFo.out _ _ HM1.out).mono ?_
  rintro e w2 ⟨rfl, hm2, hb2⟩
  have HM2 : Hid (Mine w2 w.heap.size dp D1) := hm2
  have HB2 : Hid (Below w.heap.size w w2) := HB1.out.trans hb2
  clear hm2 hb2
  go_wp2_with fail
  refine (HOp.out _ _ HM2.out).mono ?_
  rintro e w3 ⟨rp, ax, cx, rfl, hm3, hb3⟩
  have HM3 : Hid (RMine X w3 w.heap.size rp dp D1 0 0) := hm3
  have HB3 : Hid (Below w.heap.size w w3) := HB2.out.trans hb3
  clear hm3 hb3
  go_wp2_with fail
  refine (HSo.out _ _ (a_row _ _)).mono ?_
  rintro e w4 ⟨a4, c4, rfl, hp4, hn4, hb4⟩
  have HB34 : Hid (Below w3.heap.size w3 w4) := box_below hb4
  have HP4 : Hid (PartsR w4 a4 1 (Ri.someP Ri.aT)) := hp4
  have HN4 : Hid (∀ x, a4 = some x → w3.heap.size ≤ x.block) := fun x hx => by have := hn4 x hx; simp at this; omega
  clear hp4 hn4 hb4
  go_wp2_with fail
  refine (HAp.out _ _ _ _ _ _ HM3.out HB34.out HP4.out HN4.out).mono ?_
  rintro e w5 ⟨rfl, hm5, hb5⟩
  have HM5 : Hid (RMine X w5 w.heap.size rp dp D2 0 1) := hm5
  have HB5 : Hid (Below w.heap.size w w5) := (HB3.out.trans (HB34.out.mono HM3.out.le)).trans hb5
  clear hm5 hb5
  go_wp2_with fail
  refine (HLe.out _ _ _ HM5.out).mono ?_
  rintro e w6 ⟨rfl, hm6, hb6⟩
  have HM6 : Hid (RMine X w6 w.heap.size rp dp D2 0 1) := hm6
  have HB6 : Hid (Below w.heap.size w w6) := HB5.out.trans hb6
  clear hm6 hb6
  go_wp2_with fail
  refine (HNe.out _ _ _ HM6.out).mono ?_
  rintro e w7 ⟨rfl, hm7, hb7⟩
  have HM7 : Hid (RMine X w7 w.heap.size rp dp D2 0 1) := hm7
  have HB7 : Hid (Below w.heap.size w w7) := HB6.out.trans hb7
  clear hm7 hb7
  go_wp2_with fail
  refine (HSl.out _).mono ?_
  rintro e w8 ⟨rfl, hb8⟩
  have HB8 : Hid (Below w.heap.size w w8) := HB7.out.trans (hb8.mono HM7.out.le)
  clear hb8
  go_wp2
  go_ret
  exact ⟨rfl, HB8.out⟩
end Go.Proofs.YtjmeiifogblmoaaGreatDoor

namespace Go.Proofs.YtjmeiifogblmoaaGreatDoor
open Go.RowKit

theorem Ri.Jn.few9 {D : Dr} {N i t : Nat} {R : Nat → Ri.Rcd} (h : Ri.Jn D N i t R) : D.Few 900000 := fun j => by rw [h.calm.none j]; exact Nat.zero_le _
/-- a ring of the statements: what it told, and where it lies -/
def RJn (X : RingSays) (w : World) (B rp dp N i t : Nat) (R : Nat → Ri.Rcd) : Prop := ∃ D, RMine X w B rp dp D t (i - t) ∧ Ri.Jn D N i t R
section
variable {X : RingSays} {w w0 : World} {B rp dp N i t n cap : Nat} {R : Nat → Ri.Rcd} {a : Option Addr} {row : Int} {f : Nat → Prt}
theorem RJn.below {w' : World} (h : RJn X w B rp dp N i t R) (hb : Below w.heap.size w w') : RJn X w' B rp dp N i t R := by
  obtain ⟨D, h1, h2⟩ := h
  exact ⟨D, h1.below hb, h2⟩
theorem RJn.le (h : RJn X w B rp dp N i t R) : B ≤ w.heap.size := by obtain ⟨D, h1, _⟩ := h; exact h1.le
theorem RJn.append (h : RJn X w0 B rp dp N i t R) (hb : Below w0.heap.size w0 w) (hN : N ≤ 1000) (hi : i < 1000000) (hroom : i < t + N) (hm : Rc.mayB row n f = true) (hin : RecIn row n f) (hl : RecLight n f) (hp : PartsR w a n f) (ha : ∀ x, a = some x → x.block < B ∨ w0.heap.size ≤ x.block) :
    Calls Tryz.prog 28 #[.pointer (some ⟨rp, 0, none⟩), .int .i64 row, .slice a n cap] w fun e w' => e = .returned (.tuple #[.int .u64 ((i + 1 : Nat) : Int), .int .i64 0]) ∧ RJn X w' B rp dp N (i + 1) t (Ri.with1 R (i + 1) ⟨row, n, f⟩) ∧ Below B w w' := by
  obtain ⟨D, h1, h2⟩ := h
  have hle := h2.le
  obtain ⟨e1, e2⟩ := h2.append (r := ⟨row, n, f⟩) hi hm hroom
  have := append_mine (cap := cap) h1 hb h2.calm.live.goes h2.few9 (by omega) (by omega) hin hl hp ha
  have e3 : Ri.appS D t (i - t) row n f = (0, Ri.wrote D (i + 1) ⟨row, n, f⟩) := e1
  obtain ⟨v1, v2⟩ := Ri.appV_yes (show (Ri.appS D t (i - t) row n f).1 = 0 by rw [e3])
  rw [v1, v2, e3, Ri.nth_small (by omega), show t + (i - t + 1) = i + 1 by omega, show i - t + 1 = i + 1 - t by omega] at this
  exact this.mono fun e w' ⟨he, hr, hbb⟩ => ⟨he, ⟨_, hr, e2⟩, hbb⟩
end
set_option maxRecDepth 100000 in
set_option maxHeartbeats 4000000 in
theorem empty13_main (X : RingSays) (ar : Option Addr) (nr capr : Nat) (rows : Nat → Nat) (a : Option Addr) (n cap : Nat) (l : Nat → ByteArray) (w : World) (hrow : RowI .u8 w ar nr (fun j => (rows j : Int))) (h8 : ∀ j, rows j < 256) (hr : RowS w a n l) (hl : Ri.Light13 n l) (n1 : 1 ≤ n) (n5 : nr ≤ 5)
    (hh : ∀ W, Below w.heap.size w W → Calls Tryz.prog 36 #[.slice a n cap] W fun e w' => w' = W ∧ e = .returned (.bool false)) :
    Calls Tryz.prog 7 #[.slice ar nr capr, .slice a n cap] w fun e w' => e = .returned (.bool true) ∧ Below w.heap.size w w' := by
  have hsh := fun W => shown13_any X W
  have HSo : Hid (∀ W, Below w.heap.size w W → Calls Tryz.prog 27 #[.slice a n cap] W fun e w' => ∃ a' c', e = .returned (.slice a' (Ri.someN n) c') ∧ PartsR w' a' (Ri.someN n) (Ri.someP l) ∧ (∀ x, a' = some x → W.heap.size ≤ x.block) ∧ Below W.heap.size W w') := fun W hW => some13_any a n cap l W hl (hr.below hW)
  have HRow : Hid (RowI .u8 w ar nr (fun j => (rows j : Int))) := hrow
  have H8 : Hid (∀ j, rows j < 256) := h8
  have HL : Hid (∀ row : Nat, row < 256 → Rc.mayB (row : Int) (Ri.someN n) (Ri.someP l) = true ∧ RecIn (row : Int) (Ri.someN n) (Ri.someP l)) := fun row hr => ⟨Ri.someP_may hr n1 l, Ri.someP_in (by omega) n l⟩
  have HLi : Hid (RecLight (Ri.someN n) (Ri.someP l)) := Ri.someP_light n l
  have hnew := fun (W : World) (h : w.heap.size ≤ W.heap.size) => new_mine 209 w.heap.size (by decide) (by decide) W h
  obtain ⟨hfm, hj0⟩ := Ri.format_all (N := 5) (D := Dr.fresh 209) (Dr.Calm.fresh 209) (by decide) (fun _ => ⟨0, 0, fun _ => ⟨0, 0, ⟨#[]⟩⟩⟩)
  have HFo : Hid (∀ W dp D, Mine W w.heap.size dp D → D.Calm (4 + 41 * 5) → Calls Tryz.prog 12 #[.pointer (some ⟨dp, 0, none⟩)] W fun e w' => e = .returned (.int .i64 0) ∧ (∃ D', Mine w' w.heap.size dp D' ∧ Ri.Jn D' 5 0 0 (fun _ => ⟨0, 0, fun _ => ⟨0, 0, ⟨#[]⟩⟩⟩)) ∧ Below w.heap.size W w') := fun W dp D h hc => by
    have := format_mine h hc.live.goes (fun j => by rw [hc.none j]; exact Nat.zero_le _) X
    obtain ⟨e1, e2⟩ := Ri.format_all hc (by decide) (fun _ => ⟨0, 0, fun _ => ⟨0, 0, ⟨#[]⟩⟩⟩)
    rw [e1] at this
    exact this.mono fun e w' ⟨he, hm, hb⟩ => ⟨he, ⟨_, hm, e2⟩, hb⟩
  have HOp : Hid (∀ W dp D R, Mine W w.heap.size dp D → Ri.Jn D 5 0 0 R → Calls Tryz.prog 16 #[.pointer (some ⟨dp, 0, none⟩)] W fun e w' => ∃ rp a cap, e = .returned (.tuple #[.pointer (some ⟨rp, 0, none⟩), .slice a 0 cap, .int .i64 0]) ∧ RJn X w' w.heap.size rp dp 5 0 0 R ∧ Below w.heap.size W w') := fun W dp D R h hj => by
    obtain ⟨o1, o2, o3⟩ := hj.opens
    have := opens_mine h hj.calm.live.goes o1 X
    rw [o2, o3] at this
    exact this.mono fun e w' ⟨rp, a, cap, h1, h2, _, h4⟩ => ⟨rp, a, cap, h1, ⟨D, h2, hj⟩, h4⟩
  have HLe : Hid (∀ W rp dp R, RJn X W w.heap.size rp dp 5 0 0 R → Calls Tryz.prog 33 #[.pointer (some ⟨rp, 0, none⟩)] W fun e w' => e = .returned (.int .i64 5) ∧ Below w.heap.size W w') := fun W rp dp R ⟨D, h1, h2⟩ => by
    have := left_mine h1 (by decide) (by decide)
    rw [h2.calm.live.len] at this
    exact this.mono fun e w' ⟨he, _, hb⟩ => ⟨he, hb⟩
  have HNe : Hid (∀ W rp dp R, RJn X W w.heap.size rp dp 5 0 0 R → Calls Tryz.prog 35 #[.pointer (some ⟨rp, 0, none⟩)] W fun e w' => e = .returned (.int .u64 1) ∧ RJn X w' w.heap.size rp dp 5 0 0 R ∧ Below w.heap.size W w') := fun W rp dp R ⟨D, h1, h2⟩ => (next_mine h1).mono fun e w' ⟨he, hm, hb⟩ => ⟨he, ⟨D, hm, h2⟩, hb⟩
  have HSl : Hid (∀ W, Calls Tryz.prog 14 #[.int .i64 209] W fun e w' => e = .returned (.int .i64 5) ∧ Below W.heap.size W w') := fun W => X.slots 209 W (by decide)
  have HSm : Hid (∀ W, Calls Tryz.prog 14 #[.int .i64 208] W fun e w' => e = .returned (.int .i64 4) ∧ Below W.heap.size W w') := fun W => X.slots 208 W (by decide)
  have HHh : Hid _ := hh
  have HNew : Hid _ := hnew
  have hn0 : ((n : Int) == 0) = false := by rw [beq_eq_false_iff_ne]; omega
  have hn5 : ¬ (5 : Int) < (nr : Int) := by omega
  have hn5' : decide ((5 : Int) < (nr : Int)) = false := by simp; omega
  clear hrow h8 hr hl n1 hfm hj0 hh hnew
  go_enter Tryz.func7, Tryz.ntmps7
  go_wp2_with fail
  refine (HHh.out _ (Below.refl _ _)).mono ?_
  rintro e w1 ⟨rfl, rfl⟩
  go_wp2_with fail
  refine (hsh _).mono ?_
  rintro e w2 ⟨rfl, hb2⟩
  have HB2 : Hid (Below w1.heap.size w1 w2) := hb2
  clear hb2
  go_wp2_with fail
  refine (HNew.out _ HB2.out.size).mono ?_
  rintro e w3 ⟨dp, rfl, hm3, hb3⟩
  have HM3 : Hid (Mine w3 w1.heap.size dp (Dr.fresh 209)) := hm3
  have HB3 : Hid (Below w1.heap.size w1 w3) := HB2.out.trans hb3
  clear hm3 hb3
  go_wp2_with fail
  refine (HFo.out _ _ _ HM3.out (Dr.Calm.fresh 209)).mono ?_
  rintro e w4 ⟨rfl, ⟨D4, hm4, hj4⟩, hb4⟩
  have HM4 : Hid (Mine w4 w1.heap.size dp D4) := hm4
  have HJ4 : Hid (Ri.Jn D4 5 0 0 (fun _ => ⟨0, 0, fun _ => ⟨0, 0, ⟨#[]⟩⟩⟩)) := hj4
  have HB4 : Hid (Below w1.heap.size w1 w4) := HB3.out.trans hb4
  clear hm4 hj4 hb4
  go_wp2_with fail
  refine (HOp.out _ _ _ _ HM4.out HJ4.out).mono ?_
  rintro e w5 ⟨rp, ax, cx, rfl, hm5, hb5⟩
  have HM5 : Hid (RJn X w5 w1.heap.size rp dp 5 0 0 (fun _ => ⟨0, 0, fun _ => ⟨0, 0, ⟨#[]⟩⟩⟩)) := hm5
  have HB5 : Hid (Below w1.heap.size w1 w5) := HB4.out.trans hb5
  clear hm5 hb5
  go_wp2
  go_loopg [9] nr (fun gg i wr => ∃ (k : Nat) (R : Nat → Ri.Rcd), k ≤ nr ∧ gg = nr - k ∧ i = .int .i64 (k : Int) ∧ RJn X wr w1.heap.size rp dp 5 k 0 R ∧ Below w1.heap.size w1 wr)
  case atStart => exact ⟨0, _, Nat.zero_le _, rfl, rfl, HM5.out, HB5.out⟩
  case round =>
  obtain ⟨k, R, hk, rfl, rfl, hrj, hb⟩ := hrel
  have HRj : Hid (RJn X wr w1.heap.size rp dp 5 k 0 R) := hrj
  have HB : Hid (Below w1.heap.size w1 wr) := hb
  clear hrj hb
  by_cases hlt : k < nr
  case pos =>
    have hki : (k : Int) < (nr : Int) := by omega
    obtain ⟨rb, ro, rfl, hc⟩ := HRow.out k hlt
    dsimp only at hc
    have h8 := H8.out k
    obtain ⟨hM, hI⟩ := HL.out _ h8
    obtain ⟨x, hx⟩ : ∃ x, x = rows k := ⟨_, rfl⟩
    rw [← hx] at hM hI hc h8
    have HC : Hid (w1.cell? ⟨rb, ro + k, none⟩ = some (.int .u8 (x : Int))) := hc
    have HLb : Hid (rb < w1.heap.size) := World.block_lt_of_cell? w1 _ hc
    have HAp : Hid (∀ W a' c', Below wr.drew.heap.size wr.drew W → PartsR W a' (Ri.someN n) (Ri.someP l) → (∀ z, a' = some z → wr.drew.heap.size ≤ z.block) → Calls Tryz.prog 28 #[.pointer (some ⟨rp, 0, none⟩), .int .i64 (x : Int), .slice a' (Ri.someN n) c'] W fun e w' => e = .returned (.tuple #[.int .u64 ((k + 1 : Nat) : Int), .int .i64 0]) ∧ RJn X w' w1.heap.size rp dp 5 (k + 1) 0 (Ri.with1 R (k + 1) ⟨(x : Int), Ri.someN n, Ri.someP l⟩) ∧ Below w1.heap.size W w') := fun W a' c' hb hp ha =>
      (HRj.out.below (Below.refl _ _).drew).append (cap := c') hb (by decide) (by omega) (by omega) hM hI HLi.out hp (fun z hz => .inr (ha z hz))
    have hx1 : IntKind.i64.wrap (x : Int) = (x : Int) := by rw [IntKind.wrap_i64]; omega
    have s0 : wr.drew.cell? ⟨rb, ro + k, none⟩ = some (.int .u8 (x : Int)) := (HB.out.cell (p := ⟨rb, ro + k, none⟩) HLb.out).trans hc
    have b0 : Below w1.heap.size w1 wr.drew := HB.out.drew
    clear hc hM hI hx
    go_wp2
    go_region_held3 (fun W => W.cell? ⟨rb, ro + k, none⟩ = some (.int .u8 (x : Int))) (first | exact s0 | assumption) (first | (go_at_call 27; refine (HSo.out _ (by assumption)).mono ?_; rintro e w6 ⟨a6, c6, rfl, hp6, hn6, hb6⟩; have s6 := keep_at (p := ⟨rb, ro + k, none⟩) hb6 (by assumption)) | (go_at_call 28; refine (HAp.out _ _ _ (by assumption) (by assumption) (by assumption)).mono ?_; rintro e w7 ⟨rfl, hr7, hb7⟩; have s7 := (hb7.cell (p := ⟨rb, ro + k, none⟩) HLb.out).trans (by assumption)))
    have HR7 : Hid (RJn X w7 w1.heap.size rp dp 5 (k + 1) 0 (Ri.with1 R (k + 1) ⟨(x : Int), Ri.someN n, Ri.someP l⟩)) := hr7
    have HB7 : Hid (Below w1.heap.size w1 w7) := (b0.trans (hb6.mono b0.size)).trans hb7
    clear hr7 hb7 s7 s6 hb6 hp6 hn6 b0 s0
    go_wp2
    go_roundg (nr - (k + 1))
    case measure => omega
    case rel => exact ⟨k + 1, _, by omega, rfl, by go_num, HR7.out, HB7.out⟩
  case neg =>
    have hkn : k = nr := by omega
    subst hkn
    obtain ⟨D6, hm6, hj6⟩ := HRj.out
    have hm6' := hm6.drive
    have hc6 := hj6.calm
    have HM6 : Hid (Mine wr w1.heap.size dp D6 ∧ D6.Calm (4 + 41 * 5)) := ⟨hm6', hc6⟩
    clear hm6 hj6 hm6' hc6 hlt hk
    go_wp2_with fail
    refine (HFo.out _ _ _ HM6.out.1 HM6.out.2).mono ?_
    rintro e w7 ⟨rfl, ⟨D7, hm7, hj7⟩, hb7⟩
    have HM7 : Hid (Mine w7 w1.heap.size dp D7) := hm7
    have HJ7 : Hid (Ri.Jn D7 5 0 0 (fun _ => ⟨0, 0, fun _ => ⟨0, 0, ⟨#[]⟩⟩⟩)) := hj7
    have HB7 : Hid (Below w1.heap.size w1 w7) := HB.out.trans hb7
    clear hm7 hj7 hb7
    go_wp2_with fail
    refine (HOp.out _ _ _ _ HM7.out HJ7.out).mono ?_
    rintro e w8 ⟨rp8, ax8, cx8, rfl, hm8, hb8⟩
    have HM8 : Hid (RJn X w8 w1.heap.size rp8 dp 5 0 0 (fun _ => ⟨0, 0, fun _ => ⟨0, 0, ⟨#[]⟩⟩⟩)) := hm8
    have HB8 : Hid (Below w1.heap.size w1 w8) := HB7.out.trans hb8
    clear hm8 hb8
    go_wp2_with fail
    refine (HNe.out _ _ _ _ HM8.out).mono ?_
    rintro e w9 ⟨rfl, hm9, hb9⟩
    have HM9 : Hid (RJn X w9 w1.heap.size rp8 dp 5 0 0 (fun _ => ⟨0, 0, fun _ => ⟨0, 0, ⟨#[]⟩⟩⟩)) := hm9
    have HB9 : Hid (Below w1.heap.size w1 w9) := HB8.out.trans hb9
    clear hm9 hb9
    go_wp2_with fail
    refine (HLe.out _ _ _ _ HM9.out).mono ?_
    rintro e w10 ⟨rfl, hb10⟩
    have HB10 : Hid (Below w1.heap.size w1 w10) := HB9.out.trans hb10
    clear hb10
    go_wp2_with fail
    refine (HSl.out _).mono ?_
    rintro e w11 ⟨rfl, hb11⟩
    have HB11 : Hid (Below w1.heap.size w1 w11) := HB10.out.trans (hb11.mono HB10.out.size)
    clear hb11
    go_wp2_with fail
    refine (HSm.out _).mono ?_
    rintro e w12 ⟨rfl, hb12⟩
    have HB12 : Hid (Below w1.heap.size w1 w12) := HB11.out.trans (hb12.mono HB11.out.size)
    clear hb12
    go_wp2
    go_ret
    exact ⟨rfl, HB12.out⟩
set_option maxRecDepth 100000 in
set_option maxHeartbeats 2000000 in
theorem empty13_heavy (X : RingSays) (ar : Option Addr) (nr capr : Nat) (a : Option Addr) (n cap : Nat) (w : World) (hh : Calls Tryz.prog 36 #[.slice a n cap] w fun e w' => w' = w ∧ e = .returned (.bool true)) :
    Calls Tryz.prog 7 #[.slice ar nr capr, .slice a n cap] w fun e w' => e = .returned (.bool true) ∧ Below w.heap.size w w' := by
  have hsh := fun W => shown13_any X W
  go_enter Tryz.func7, Tryz.ntmps7
  go_wp2_with fail
  refine hh.mono ?_
  rintro e w1 ⟨rfl, rfl⟩
  go_wp2_with fail
  refine (hsh _).mono ?_
  rintro e w2 ⟨rfl, hb2⟩
  go_wp2
  go_ret
  exact ⟨rfl, hb2⟩
set_option maxRecDepth 100000 in
set_option maxHeartbeats 2000000 in
theorem empty13_out (X : RingSays) (ar : Option Addr) (nr capr : Nat) (a : Option Addr) (n cap : Nat) (w : World) (hn : n = 0 ∨ 0 < n ∧ 5 < nr) (hh : Calls Tryz.prog 36 #[.slice a n cap] w fun e w' => w' = w ∧ e = .returned (.bool false)) :
    Calls Tryz.prog 7 #[.slice ar nr capr, .slice a n cap] w fun e w' => e = .returned (.bool true) ∧ Below w.heap.size w w' := by
  have hsh := fun W => shown13_any X W
  rcases hn with rfl | ⟨n1, n5⟩
  · go_enter Tryz.func7, Tryz.ntmps7
    go_wp2_with fail
    refine hh.mono ?_
    rintro e w1 ⟨rfl, rfl⟩
    go_wp2_with fail
    refine (hsh _).mono ?_
    rintro e w2 ⟨rfl, hb2⟩
    go_wp2
    go_ret
    exact ⟨rfl, hb2⟩
  · have hn0 : ((n : Int) == 0) = false := by rw [beq_eq_false_iff_ne]; omega
    have hn5 : (5 : Int) < (nr : Int) := by omega
    clear n1 n5
    go_enter Tryz.func7, Tryz.ntmps7
    go_wp2_with fail
    refine hh.mono ?_
    rintro e w1 ⟨rfl, rfl⟩
    go_wp2_with fail
    refine (hsh _).mono ?_
    rintro e w2 ⟨rfl, hb2⟩
    go_wp2
    go_ret
    exact ⟨rfl, hb2⟩
/-- heavy, told by one truth value -/
theorem heavy13_one (w : World) (a : Option Addr) (n cap : Nat) (f : Nat → ByteArray) (hr : RowS w a n f) (hm : ∀ j, j < n → (f j).size ≤ maxLen) (hn : n ≤ maxLen) :
    (Calls Tryz.prog 36 #[.slice a n cap] w fun e w' => w' = w ∧ e = .returned (.bool true)) ∨ Ri.Light13 n f ∧ ∀ W, Below w.heap.size w W → Calls Tryz.prog 36 #[.slice a n cap] W fun e w' => w' = W ∧ e = .returned (.bool false) := by
  by_cases hl : Ri.Light13 n f
  · refine .inr ⟨hl, fun W hW => (heavy13_any W a n cap f (hr.below hW) hm hn).mono fun e w' ⟨h1, h2⟩ => ⟨h1, ?_⟩⟩
    rcases h2 with h2 | h2
    · exact absurd hl h2.2
    · exact h2.1
  · refine .inl ((heavy13_any w a n cap f hr hm hn).mono fun e w' ⟨h1, h2⟩ => ⟨h1, ?_⟩)
    rcases h2 with h2 | h2
    · exact h2.1
    · exact absurd h2.2 hl
/-- the law RingEmpty, whatever comes in -/
theorem empty13_says (X : RingSays) (ar : Option Addr) (nr capr : Nat) (rows : Nat → Nat) (a : Option Addr) (n cap : Nat) (l : Nat → ByteArray) (w : World) (hrow : RowI .u8 w ar nr (fun j => (rows j : Int))) (h8 : ∀ j, rows j < 256) (hr : RowS w a n l) (hm : ∀ j, j < n → (l j).size ≤ maxLen) (hn : n ≤ maxLen) :
    Calls Tryz.prog 7 #[.slice ar nr capr, .slice a n cap] w fun e w' => e = .returned (.bool true) ∧ Below w.heap.size w w' := by
  rcases heavy13_one w a n cap l hr hm hn with hh | ⟨hl, hh⟩
  · exact empty13_heavy X ar nr capr a n cap w hh
  · by_cases n1 : n = 0
    · exact empty13_out X ar nr capr a n cap w (.inl n1) (hh w (Below.refl _ _))
    · by_cases n5 : nr ≤ 5
      · exact empty13_main X ar nr capr rows a n cap l w hrow h8 hr hl (by omega) n5 hh
      · exact empty13_out X ar nr capr a n cap w (.inr ⟨by omega, by omega⟩) (hh w (Below.refl _ _))
end Go.Proofs.YtjmeiifogblmoaaGreatDoor

namespace Go.Proofs.YtjmeiifogblmoaaGreatDoor
open Go.RowKit

section
variable {X : RingSays} {w w0 : World} {B rp dp N i t n cap : Nat} {R : Nat → Ri.Rcd} {a : Option Addr} {row : Int} {f : Nat → Prt}
theorem RJn.facts (h : RJn X w B rp dp N i t R) : 1 ≤ N ∧ i ≤ 1000000 ∧ t ≤ i ∧ i ≤ t + N := by obtain ⟨D, _, h2⟩ := h; exact ⟨h2.pos, h2.few, h2.le, h2.near⟩
theorem RJn.drive (h : RJn X w B rp dp N i t R) : ∃ D, Mine w B dp D ∧ Ri.Jn D N i t R := by obtain ⟨D, h1, h2⟩ := h; exact ⟨D, h1.drive, h2⟩
theorem RJn.left (h : RJn X w B rp dp N i t R) (hN : N ≤ 900) :
    Calls Tryz.prog 33 #[.pointer (some ⟨rp, 0, none⟩)] w fun e w' => e = .returned (.int .i64 ((N : Nat) - ((i - t : Nat)))) ∧ RJn X w' B rp dp N i t R ∧ Below B w w' := by
  obtain ⟨h0, h00, h01, h02⟩ := h.facts
  obtain ⟨D, h1, h2⟩ := h
  have := left_mine h1 (by omega) (by omega)
  rw [h2.calm.live.len, Ri.slots_of] at this
  exact this.mono fun e w' ⟨he, hm, hb⟩ => ⟨he, ⟨D, hm, h2⟩, hb⟩
theorem RJn.next (h : RJn X w B rp dp N i t R) :
    Calls Tryz.prog 35 #[.pointer (some ⟨rp, 0, none⟩)] w fun e w' => e = .returned (.int .u64 ((i + 1 : Nat) : Int)) ∧ RJn X w' B rp dp N i t R ∧ Below B w w' := by
  obtain ⟨h0, h00, h01, h02⟩ := h.facts
  obtain ⟨D, h1, h2⟩ := h
  have := next_mine h1
  rw [Ri.nth_small (by omega), show t + (i - t + 1) = i + 1 by omega] at this
  exact this.mono fun e w' ⟨he, hm, hb⟩ => ⟨he, ⟨D, hm, h2⟩, hb⟩
theorem RJn.full (h : RJn X w0 B rp dp N i t R) (hb : Below w0.heap.size w0 w) (hN : N ≤ 900) (hroom : i = t + N) (hin : RecIn row n f) (hl : RecLight n f) (hp : PartsR w a n f) (ha : ∀ x, a = some x → x.block < B ∨ w0.heap.size ≤ x.block) :
    Calls Tryz.prog 28 #[.pointer (some ⟨rp, 0, none⟩), .int .i64 row, .slice a n cap] w fun e w' => e = .returned (.tuple #[.int .u64 0, .int .i64 130]) ∧ RJn X w' B rp dp N i t R ∧ Below B w w' := by
  obtain ⟨h0, h00, h01, h02⟩ := h.facts
  obtain ⟨D, h1, h2⟩ := h
  have := append_mine (cap := cap) h1 hb h2.calm.live.goes h2.few9 (by omega) (by omega) hin hl hp ha
  have e3 := h2.full hroom row n f
  have v1 : Ri.appV D t (i - t) row n f = 0 := by unfold Ri.appV; rw [e3]; rfl
  have v2 : Ri.appC D t (i - t) row n f = i - t := by unfold Ri.appC; rw [e3]; rfl
  rw [v1, v2, e3] at this
  exact this.mono fun e w' ⟨he, hr, hbb⟩ => ⟨he, ⟨D, hr, h2⟩, hbb⟩
theorem RJn.trim (h : RJn X w B rp dp N i t R) (hN : N ≤ 900) {q : Nat} (hq1 : t ≤ q) (hq2 : q ≤ i) :
    Calls Tryz.prog 31 #[.pointer (some ⟨rp, 0, none⟩), .int .u64 (q : Int)] w fun e w' => e = .returned (.int .i64 0) ∧ RJn X w' B rp dp N i q R ∧ Below B w w' := by
  obtain ⟨h0, h00, h01, h02⟩ := h.facts
  obtain ⟨D, h1, h2⟩ := h
  have := trim_mine h1 h2.calm.live.goes h2.few9 (by rw [h2.calm.live.len, Ri.slots_of]; exact h0) (by omega) (by omega) q (by omega)
  obtain ⟨e1, e2⟩ := h2.trim hq1 hq2
  have v : Ri.trimT D t (i - t) q = (q, i - q) := by unfold Ri.trimT; rw [e1, Ri.ahead_small hq1 (by omega)]; show (q, i - t - (q - t)) = _; rw [show i - t - (q - t) = i - q by omega]
  rw [v, e1] at this
  exact this.mono fun e w' ⟨he, hr, hbb⟩ => ⟨he, ⟨_, hr, e2⟩, hbb⟩
theorem RJn.far (h : RJn X w B rp dp N i t R) (hN : N ≤ 900) {q : Nat} (hq : q < 18446744073709551616) (hf : i - t < Ri.ahead t q) :
    Calls Tryz.prog 31 #[.pointer (some ⟨rp, 0, none⟩), .int .u64 (q : Int)] w fun e w' => e = .returned (.int .i64 1) ∧ RJn X w' B rp dp N i t R ∧ Below B w w' := by
  obtain ⟨h0, h00, h01, h02⟩ := h.facts
  obtain ⟨D, h1, h2⟩ := h
  have := trim_mine h1 h2.calm.live.goes h2.few9 (by rw [h2.calm.live.len, Ri.slots_of]; exact h0) (by omega) (by omega) q hq
  have e1 := Ri.trim_far (D := D) hf
  have v : Ri.trimT D t (i - t) q = (t, i - t) := by unfold Ri.trimT; rw [e1]; rfl
  rw [v, e1] at this
  exact this.mono fun e w' ⟨he, hr, hbb⟩ => ⟨he, ⟨_, hr, h2⟩, hbb⟩
/-- a second ring over the same drive: the first one stands -/
theorem RJn.again (h : RJn X w B rp dp N i t R) :
    Calls Tryz.prog 16 #[.pointer (some ⟨dp, 0, none⟩)] w fun e w' => ∃ rp2 a cap, e = .returned (.tuple #[.pointer (some ⟨rp2, 0, none⟩), .slice a (i - t) cap, .int .i64 0]) ∧ RJn X w' B rp dp N i t R ∧ Below w.heap.size w w' := by
  obtain ⟨D, h1, h2⟩ := h
  obtain ⟨o1, o2, o3⟩ := h2.opens
  have := X.opens h1.drive.1 h2.calm.live.goes
  refine this.mono ?_
  rintro e w' ⟨h3 | ⟨_, rp2, a, cap, h3, _, _⟩, hb⟩
  · exact absurd o1 h3.1
  · rw [o3] at h3
    exact ⟨rp2, a, cap, h3, ⟨D, h1.below hb, h2⟩, hb⟩
/-- Open of a journal of the call's own: what is found -/
theorem opens_jn {D : Dr} (X : RingSays) (h : Mine w B dp D) (hj : Ri.Jn D N i t R) :
    Calls Tryz.prog 16 #[.pointer (some ⟨dp, 0, none⟩)] w fun e w' => ∃ rp a cap, e = .returned (.tuple #[.pointer (some ⟨rp, 0, none⟩), .slice a (i - t) cap, .int .i64 0]) ∧ RJn X w' B rp dp N i t R ∧ RecsR w' a (i - t) (fun j => Ri.recT D (t + (j + 1))) ∧ Below B w w' := by
  obtain ⟨o1, o2, o3⟩ := hj.opens
  have hle := hj.le
  have hfw := hj.few
  have := opens_mine h hj.calm.live.goes o1 X
  rw [o2, o3] at this
  exact this.mono fun e w' ⟨rp, a, cap, h1, h2, h3, h4⟩ => ⟨rp, a, cap, h1, ⟨D, h2, hj⟩, h3.congr (fun j hj => by rw [Ri.nth_small (by omega)]), h4⟩
/-- Format of a drive of the call's own -/
theorem format_jn {D : Dr} (X : RingSays) (h : Mine w B dp D) (hc : D.Calm (4 + 41 * N)) (hN : 1 ≤ N) (R : Nat → Ri.Rcd) :
    Calls Tryz.prog 12 #[.pointer (some ⟨dp, 0, none⟩)] w fun e w' => e = .returned (.int .i64 0) ∧ (∃ D', Mine w' B dp D' ∧ Ri.Jn D' N 0 0 R) ∧ Below B w w' := by
  have := format_mine h hc.live.goes (fun j => by rw [hc.none j]; exact Nat.zero_le _) X
  obtain ⟨e1, e2⟩ := Ri.format_all hc hN R
  rw [e1] at this
  exact this.mono fun e w' ⟨he, hm, hb⟩ => ⟨he, ⟨_, hm, e2⟩, hb⟩
end
end Go.Proofs.YtjmeiifogblmoaaGreatDoor
