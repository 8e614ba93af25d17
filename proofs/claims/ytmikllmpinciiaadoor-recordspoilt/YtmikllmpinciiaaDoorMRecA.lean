/- Several texts in one. What the statements' own records are: plain. The walk of the statements' own shown. What comes back of a record: plain. -/
import Derived.Test.YtmikllmpinciiaaDoorRecSome
import Derived.Test.YtmikllmpinciiaaDoorRecSays
namespace Go.Proofs.YtmikllmpinciiaaDoor
open Go.RowKit

namespace Rc
theorem place_apart {fr i j : Nat} (hi : i < 40) (hj : j < 40) (h : placeN fr i = placeN fr j) : i = j := by
  unfold placeN at h; omega
theorem someN_le (n : Nat) : someN n ≤ 40 := by unfold someN; omega
theorem someP_places {row fr n : Nat} {l : Nat → ByteArray} (hr : row < 256) (hn : 1 ≤ n) : placesB (row : Int) (someN n) (someP fr l) = true := by
  rw [places_iff, few_iff, okTo_iff]
  have h40 := someN_le n
  refine ⟨⟨by omega, by omega, by unfold someN; omega, h40⟩, fun i hi => ⟨?_, ?_⟩⟩
  · rw [in_iff]
    have : placeN fr i < 40 := by unfold placeN; omega
    unfold someP
    dsimp only
    refine ⟨by omega, ?_, by omega, ?_⟩
    · show ((placeN fr i / 4 : Nat) : Int) < 10; omega
    · show ((placeN fr i % 4 : Nat) : Int) < 4; omega
  · rw [freshTo_iff]
    intro j hj
    cases h : sameB (someP fr l j) (someP fr l i) with
    | false => rfl
    | true =>
      unfold sameB someP at h
      simp only [Bool.and_eq_true, decide_eq_true_eq] at h
      have : placeN fr j = placeN fr i := by omega
      have := place_apart (by omega) (by omega) this
      omega
theorem someP_full (fr n : Nat) (l : Nat → ByteArray) : fullTo (someP fr l) n = true := (fullTo_iff _ _).2 fun _ _ => fillB_size _
theorem someP_may {row fr n : Nat} {l : Nat → ByteArray} (hr : row < 256) (hn : 1 ≤ n) : mayB (row : Int) (someN n) (someP fr l) = true := (may_iff _ _ _).2 ⟨someP_full _ _ _, someP_places hr hn⟩
theorem someP_light (fr n : Nat) (l : Nat → ByteArray) : RecLight (someN n) (someP fr l) := ⟨Nat.le_trans (someN_le n) (by decide), fun j _ => by rw [show (someP fr l j).data = fillB (l j) from rfl, fillB_size]; decide⟩
theorem someP_in {row fr n : Nat} {l : Nat → ByteArray} (hr : row < 256) : RecIn (row : Int) (someN n) (someP fr l) := by
  have h40 := someN_le n
  refine ⟨by omega, by omega, fun j _ => ?_, fun j _ => ?_⟩
  · have : placeN fr j < 40 := by unfold placeN; omega
    show _ ≤ ((placeN fr j / 4 : Nat) : Int) ∧ ((placeN fr j / 4 : Nat) : Int) ≤ _
    omega
  · have : placeN fr j < 40 := by unfold placeN; omega
    show _ ≤ ((placeN fr j % 4 : Nat) : Int) ∧ ((placeN fr j % 4 : Nat) : Int) ≤ _
    omega
theorem enc_may {seq : Nat} {row : Int} {n : Nat} {f : Nat → Prt} (h : mayB row n f = true) : encT seq row n f = headS seq row n f (sumF n f) ∧ encN row n f = n ∧ encE row n f = 0 := by
  unfold encT encN encE
  rw [if_pos h, if_pos h, if_pos h]; exact ⟨rfl, rfl, rfl⟩
theorem enc_not {seq : Nat} {row : Int} {n : Nat} {f : Nat → Prt} (h : mayB row n f = false) : encT seq row n f = ⟨#[]⟩ ∧ encN row n f = 0 ∧ encE row n f = 1 := by
  unfold encT encN encE
  rw [h]; exact ⟨rfl, rfl, rfl⟩
/-- the head of a record that may be -/
theorem headS_may {seq : Nat} {row : Int} {n : Nat} {f : Nat → Prt} (h0 : seq < 18446744073709551616) (h : mayB row n f = true) : (headS seq row n f (sumF n f)).size = 64 ∧ Crc.opens (headS seq row n f (sumF n f)).data.toList = true := by
  obtain ⟨_, hp⟩ := (may_iff _ _ _).1 h
  obtain ⟨r0, r1, n1, n40⟩ := (few_iff _ _).1 ((places_iff _ _ _).1 hp).1
  exact ⟨headS_size h0 (by omega) (by omega) (sumF_lt _ _) n40 f, headS_opens h0 (by omega) (by omega) (sumF_lt _ _) n40 f⟩
end Rc
end Go.Proofs.YtmikllmpinciiaaDoor

namespace Go.Proofs.YtmikllmpinciiaaDoor
open Go.RowKit

namespace Rc
theorem head_magic {seq : Nat} {row : Int} {n : Nat} {f : Nat → Prt} (h0 : seq < 18446744073709551616) (h : mayB row n f = true) : (headS seq row n f (sumF n f)).extract 0 4 = magicB := by
  obtain ⟨_, hp⟩ := (may_iff _ _ _).1 h
  obtain ⟨r0, r1, n1, n40⟩ := (few_iff _ _).1 ((places_iff _ _ _).1 hp).1
  have e := head_first (f := f) h0 (show row < 65536 by omega) (show n < 256 by omega) (sumF_lt n f) n40
  have hs := (headS_may h0 h).1
  rw [← e]
  unfold Crc.headB
  rw [hs]
  apply Pg.eq_of_list
  rw [Pg.extract_list, Pg.extract_list, Pg.extract_list]
  simp [List.take_take]
/-- the two texts of shown -/
def abT : Nat → ByteArray := fun j => [⟨#[97]⟩, ⟨#[98]⟩].getD j ⟨#[]⟩
end Rc
theorem ab_row (w : World) (t : TypeId) : RowS (w.alloc (.cells #[.string ⟨#[97]⟩, .string ⟨#[98]⟩] t)) (some ⟨w.heap.size, 0, none⟩) 2 Rc.abT := RowS.new w 2 Rc.abT _ t rfl

set_option maxRecDepth 100000 in
set_option maxHeartbeats 4000000 in
theorem shown12_any (X : RecSays) (w : World) : Calls Tryd.prog 9 #[] w fun e w' => e = .returned (.bool true) ∧ Below w.heap.size w w' := by
  have hsome := fun (W : World) (a : Option Addr) (hr : RowS W a 2 Rc.abT) => some12_any 5 3 0 a 2 2 Rc.abT W (by decide) (by decide) (by decide) hr (by intro j hj; rcases (by omega : j = 0 ∨ j = 1) with rfl | rfl <;> decide)
  have hM : Rc.mayB ((3 : Nat) : Int) (Rc.someN 2) (Rc.someP 0 Rc.abT) = true := Rc.someP_may (by decide) (by decide)
  have hE := fun (W : World) (a : Option Addr) (c : Nat) (hr : PartsR W a (Rc.someN 2) (Rc.someP 0 Rc.abT)) => X.enc 5 ((3 : Nat) : Int) a (Rc.someN 2) c (Rc.someP 0 Rc.abT) W (by decide) (Rc.someP_in (by decide)) (Rc.someP_light _ _ _) hr
  obtain ⟨x1, x2, x3⟩ := Rc.enc_may (seq := 5) hM
  have hs := (Rc.headS_may (seq := 5) (by decide) hM).1
  have hm := Rc.head_magic (seq := 5) (by decide) hM
  unfold EncOwn at hE
  rw [x1, x2, x3] at hE
  obtain ⟨h, hh⟩ : ∃ h, h = Rc.headS 5 ((3 : Nat) : Int) (Rc.someN 2) (Rc.someP 0 Rc.abT) (Rc.sumF (Rc.someN 2) (Rc.someP 0 Rc.abT)) := ⟨_, rfl⟩
  rw [← hh] at hE hs hm
  have hsi : (h.size : Int) = 64 := by omega
  have hmt : ((h.extract 0 4).toList == [82, 86, 84, 74]) = true := by have e := Pg.tx_eq (h.extract 0 4) Rc.magicB; rw [decide_eq_true hm, Rc.magic_list] at e; exact e
  have n2 : Rc.someN 2 = 2 := rfl
  rw [n2] at hE hsome
  have ht := fun (W : World) (a a' : Option Addr) (c c' : Nat) (h1 : RowS W a 2 (fun j => (Rc.someP 0 Rc.abT j).data)) (h2 : RowS W a' 2 (fun j => [Rc.fillB ⟨#[97]⟩, Rc.fillB ⟨#[98]⟩].getD j ⟨#[]⟩)) => texts12_any a a' 2 2 c c' _ _ W (by decide) h1 h2
  have hsm : Rc.sameT (fun j => (Rc.someP 0 Rc.abT j).data) (fun j => [Rc.fillB ⟨#[97]⟩, Rc.fillB ⟨#[98]⟩].getD j ⟨#[]⟩) 2 = true := (Rc.sameT_iff _ _ _).2 (by intro j hj; rcases (by omega : j = 0 ∨ j = 1) with rfl | rfl <;> rfl)
  rw [hsm] at ht
  have hfa := fun W => full12_any ⟨#[97]⟩ (by decide) W
  have hfb := fun W => full12_any ⟨#[98]⟩ (by decide) W
  obtain ⟨fa, efa⟩ : ∃ fa, fa = Rc.fillB ⟨#[97]⟩ := ⟨_, rfl⟩
  obtain ⟨fb, efb⟩ : ∃ fb, fb = Rc.fillB ⟨#[98]⟩ := ⟨_, rfl⟩
  rw [← efa, ← efb] at ht
  rw [← efa] at hfa
  rw [← efb] at hfb
  have HE : Hid _ := hE
  have HT : Hid _ := ht
  have HSo : Hid _ := hsome
  clear hE ht hsome hM x1 x2 x3 hs hm hh hsm efa efb n2
  go_enter Tryd.func9, Tryd.ntmps9
  go_wp2_with fail
  refine (HSo.out _ _ (ab_row _ _)).mono ?_
  rintro e w1 ⟨a1, c1, rfl, hp1, _, _, hb1⟩
  have HB1 : Hid (Below w.heap.size w w1) := box_below hb1
  have HP1 : Hid (PartsR w1 a1 2 (Rc.someP 0 Rc.abT)) := hp1
  clear hp1 hb1
  go_wp2_with fail
  refine (HE.out _ _ _ HP1.out).mono ?_
  rintro e w2 ⟨v, rfl, hown, hb2⟩
  obtain ⟨a2, c2, rfl, hr2, _, _⟩ := RowS.of_owns hown
  have HB2 : Hid (Below w.heap.size w w2) := below2 HB1.out hb2
  have HR2 : Hid (RowS w2 a2 2 (fun j => (Rc.someP 0 Rc.abT j).data)) := hr2
  clear hown hb2 hr2
  go_wp2_with fail
  refine (hfa _).mono ?_
  rintro e w3 ⟨rfl, rfl⟩
  go_wp2_with fail
  refine (hfb _).mono ?_
  rintro e w3 ⟨rfl, rfl⟩
  go_wp2_with fail
  refine (HT.out _ _ _ _ _ (HR2.out.below ((Below.refl _ _).alloc (Nat.le_refl _) _)) (RowS.new _ 2 _ _ _ rfl)).mono ?_
  rintro e w4 ⟨rfl, hb4⟩
  have HB4 : Hid (Below w.heap.size w w4) := HB2.out.trans (((Below.refl _ _).alloc (Nat.le_refl _) _).trans (hb4.mono (by simp)) |>.mono HB2.out.size)
  clear hb4
  go_wp2
  go_ret
  exact ⟨rfl, HB4.out⟩
end Go.Proofs.YtmikllmpinciiaaDoor

namespace Go.Proofs.YtmikllmpinciiaaDoor
open Go.RowKit

namespace Rc
theorem catTo_congr {f g : Nat → Prt} : ∀ {n : Nat}, (∀ j, j < n → (f j).data = (g j).data) → catTo f n = catTo g n
  | 0, _ => rfl
  | n + 1, h => by unfold catTo; rw [catTo_congr (fun j hj => h j (by omega)), h n (by omega)]
theorem sumF_congr {f g : Nat → Prt} {n : Nat} (h : ∀ j, j < n → (f j).data = (g j).data) : sumF n f = sumF n g := by unfold sumF; rw [catTo_congr h]
section
variable {seq : Nat} {row : Int} {n : Nat} {f : Nat → Prt} (h0 : seq < 18446744073709551616) (h : mayB row n f = true)
include h0 h
theorem back_head : headE (headS seq row n f (sumF n f)) = 0 ∧ hSeq (headS seq row n f (sumF n f)) = seq ∧ (hRow (headS seq row n f (sumF n f)) : Int) = row ∧ hN (headS seq row n f (sumF n f)) = n ∧ hSum (headS seq row n f (sumF n f)) = sumF n f ∧ ∀ j, j < n → hPart (headS seq row n f (sumF n f)) j = ⟨(f j).col, (f j).off, ⟨#[]⟩⟩ :=
  head_back h0 (sumF_lt n f) ((may_iff _ _ _).1 h).2
theorem back_part {g : Nat → ByteArray} (hg : ∀ j, j < n → g j = (f j).data) : ∀ j, j < n → dPart (headS seq row n f (sumF n f)) g j = f j := fun j hj => by
  obtain ⟨_, _, _, _, _, hp⟩ := back_head h0 h
  unfold dPart
  rw [hp j hj, hg j hj]
theorem back_good {g : Nat → ByteArray} (hg : ∀ j, j < n → g j = (f j).data) : decE (headS seq row n f (sumF n f)) n g = 0 := by
  obtain ⟨e0, e1, e2, e3, e4, hp⟩ := back_head h0 h
  have hd := back_part h0 h hg
  have hfu := ((may_iff _ _ _).1 h).1
  refine decE_good e0 e3.symm ((fullTo_iff _ _).2 fun i hi => by rw [hd i hi]; exact (fullTo_iff _ _).1 hfu i hi) ?_
  rw [e4]
  exact sumF_congr fun j hj => by rw [hd j hj]
theorem back_dec {g : Nat → ByteArray} (hg : ∀ j, j < n → g j = (f j).data) : decE (headS seq row n f (sumF n f)) n g = 0 ∧ dSeq (headS seq row n f (sumF n f)) n g = seq ∧ (dRow (headS seq row n f (sumF n f)) n g : Int) = row ∧ dN (headS seq row n f (sumF n f)) n g = n ∧ ∀ j, j < n → dPart (headS seq row n f (sumF n f)) g j = f j := by
  obtain ⟨e0, e1, e2, e3, e4, hp⟩ := back_head h0 h
  have hz := back_good h0 h hg
  refine ⟨hz, ?_, ?_, ?_, back_part h0 h hg⟩
  · unfold dSeq; rw [if_pos hz, e1]
  · unfold dRow; rw [if_pos hz, e2]
  · unfold dN; rw [if_pos hz, e3]
theorem back_short {m : Nat} (g : Nat → ByteArray) (hm : m ≠ n) : decE (headS seq row n f (sumF n f)) m g = 31 := by
  obtain ⟨e0, _, _, e3, _, _⟩ := back_head h0 h
  exact decE_count e0 (by rw [e3]; exact hm)
end
end Rc
end Go.Proofs.YtmikllmpinciiaaDoor
