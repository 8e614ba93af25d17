/- Several texts in one. What the statements' own records are: plain. The walk of the statements' own shown. What comes back of a record: plain. -/
import Derived.Test.YtjmeiifogblmoaaGreatDoorMRecC
import Derived.Test.YtjmeiifogblmoaaGreatDoorRecSays
namespace Go.Proofs.YtjmeiifogblmoaaGreatDoor
open Go.RowKit

namespace Rc
theorem place_apart {fr i j : Nat} (hi : i < 40) (hj : j < 40) (h : placeN fr i = placeN fr j) : i = j := by
  unfold placeN at h; omega
theorem someN_le (n : Nat) : someN n ≤ 40 := by unfold someN; omega
theorem someP_places {row fr n : Nat} {l : Nat → ByteArray} (hr : row < 256) (hn : 1 ≤ n) : placesB (row : Int) (someN n) (someP fr l) = true := by
  rw [places_iff, few_iff, okTo_iff]
  have h40 := someN_le n
  refine ⟨⟨by omega, by omega, by unfold someN; omega, h40⟩, fun i hi => ⟨?_, ?_⟩⟩
  · rw [in_iff]
    have : placeN fr i < 40 := by unfold placeN; omega
    unfold someP
    dsimp only
    refine ⟨by omega, ?_, by omega, ?_⟩
    · show ((placeN fr i / 4 : Nat) : Int) < 10; omega
    · show ((placeN fr i % 4 : Nat) : Int) < 4; omega
  · rw [freshTo_iff]
    intro j hj
    cases h : sameB (someP fr l j) (someP fr l i) with
    | false => rfl
    | true =>
      unfold sameB someP at h
      simp only [Bool.and_eq_true, decide_eq_true_eq] at h
      have : placeN fr j = placeN fr i := by omega
      have := place_apart (by omega) (by omega) this
      omega
theorem someP_full (fr n : Nat) (l : Nat → ByteArray) : fullTo (someP fr l) n = true := (fullTo_iff _ _).2 fun _ _ => fillB_size _
theorem someP_may {row fr n : Nat} {l : Nat → ByteArray} (hr : row < 256) (hn : 1 ≤ n) : mayB (row : Int) (someN n) (someP fr l) = true := (may_iff _ _ _).2 ⟨someP_full _ _ _, someP_places hr hn⟩
theorem someP_light (fr n : Nat) (l : Nat → ByteArray) : RecLight (someN n) (someP fr l) := ⟨Nat.le_trans (someN_le n) (by decide), fun j _ => by rw [show (someP fr l j).data = fillB (l j) from rfl, fillB_size]; decide⟩
theorem someP_in {row fr n : Nat} {l : Nat → ByteArray} (hr : row < 256) : RecIn (row : Int) (someN n) (someP fr l) := by
  have h40 := someN_le n
  refine ⟨by omega, by omega, fun j _ => ?_, fun j _ => ?_⟩
  · have : placeN fr j < 40 := by unfold placeN; omega
    show _ ≤ ((placeN fr j / 4 : Nat) : Int) ∧ ((placeN fr j / 4 : Nat) : Int) ≤ _
    omega
  · have : placeN fr j < 40 := by unfold placeN; omega
    show _ ≤ ((placeN fr j % 4 : Nat) : Int) ∧ ((placeN fr j % 4 : Nat) : Int) ≤ _
    omega
theorem enc_may {seq : Nat} {row : Int} {n : Nat} {f : Nat → Prt} (h : mayB row n f = true) : encT seq row n f = headS seq row n f (sumF n f) ∧ encN row n f = n ∧ encE row n f = 0 := by
  unfold encT encN encE
  rw [if_pos h, if_pos h, if_pos h]; exact ⟨rfl, rfl, rfl⟩
theorem enc_not {seq : Nat} {row : Int} {n : Nat} {f : Nat → Prt} (h : mayB row n f = false) : encT seq row n f = ⟨#[]⟩ ∧ encN row n f = 0 ∧ encE row n f = 1 := by
  unfold encT encN encE
  rw [h]; exact ⟨rfl, rfl, rfl⟩
/-- the head of a record that may be -/
theorem headS_may {seq : Nat} {row : Int} {n : Nat} {f : Nat → Prt} (h0 : seq < 18446744073709551616) (h : mayB row n f = true) : (headS seq row n f (sumF n f)).size = 64 ∧ Crc.opens (headS seq row n f (sumF n f)).data.toList = true := by
  obtain ⟨_, hp⟩ := (may_iff _ _ _).1 h
  obtain ⟨r0, r1, n1, n40⟩ := (few_iff _ _).1 ((places_iff _ _ _).1 hp).1
  exact ⟨headS_size h0 (by omega) (by omega) (sumF_lt _ _) n40 f, headS_opens h0 (by omega) (by omega) (sumF_lt _ _) n40 f⟩
end Rc
end Go.Proofs.YtjmeiifogblmoaaGreatDoor

namespace Go.Proofs.YtjmeiifogblmoaaGreatDoor
open Go.RowKit

namespace Rc
theorem head_magic {seq : Nat} {row : Int} {n : Nat} {f : Nat → Prt} (h0 : seq < 18446744073709551616) (h : mayB row n f = true) : (headS seq row n f (sumF n f)).extract 0 4 = magicB := by
  obtain ⟨_, hp⟩ := (may_iff _ _ _).1 h
  obtain ⟨r0, r1, n1, n40⟩ := (few_iff _ _).1 ((places_iff _ _ _).1 hp).1
  have e := head_first (f := f) h0 (show row < 65536 by omega) (show n < 256 by omega) (sumF_lt n f) n40
  have hs := (headS_may h0 h).1
  rw [← e]
  unfold Crc.headB
  rw [hs]
  apply Pg.eq_of_list
  rw [Pg.extract_list, Pg.extract_list, Pg.extract_list]
  simp [List.take_take]
/-- the two texts of shown -/
def abT : Nat → ByteArray := fun j => [⟨#[97]⟩, ⟨#[98]⟩].getD j ⟨#[]⟩
end Rc
theorem ab_row (w : World) (t : TypeId) : RowS (w.alloc (.cells #[.string ⟨#[97]⟩, .string ⟨#[98]⟩] t)) (some ⟨w.heap.size, 0, none⟩) 2 Rc.abT := RowS.new w 2 Rc.abT _ t rfl

end Go.Proofs.YtjmeiifogblmoaaGreatDoor

namespace Go.Proofs.YtjmeiifogblmoaaGreatDoor
open Go.RowKit

namespace Rc
theorem catTo_congr {f g : Nat → Prt} : ∀ {n : Nat}, (∀ j, j < n → (f j).data = (g j).data) → catTo f n = catTo g n
  | 0, _ => rfl
  | n + 1, h => by unfold catTo; rw [catTo_congr (fun j hj => h j (by omega)), h n (by omega)]
theorem sumF_congr {f g : Nat → Prt} {n : Nat} (h : ∀ j, j < n → (f j).data = (g j).data) : sumF n f = sumF n g := by unfold sumF; rw [catTo_congr h]
section
variable {seq : Nat} {row : Int} {n : Nat} {f : Nat → Prt} (h0 : seq < 18446744073709551616) (h : mayB row n f = true)
include h0 h
theorem back_head : headE (headS seq row n f (sumF n f)) = 0 ∧ hSeq (headS seq row n f (sumF n f)) = seq ∧ (hRow (headS seq row n f (sumF n f)) : Int) = row ∧ hN (headS seq row n f (sumF n f)) = n ∧ hSum (headS seq row n f (sumF n f)) = sumF n f ∧ ∀ j, j < n → hPart (headS seq row n f (sumF n f)) j = ⟨(f j).col, (f j).off, ⟨#[]⟩⟩ :=
  head_back h0 (sumF_lt n f) ((may_iff _ _ _).1 h).2
theorem back_part {g : Nat → ByteArray} (hg : ∀ j, j < n → g j = (f j).data) : ∀ j, j < n → dPart (headS seq row n f (sumF n f)) g j = f j := fun j hj => by
  obtain ⟨_, _, _, _, _, hp⟩ := back_head h0 h
  unfold dPart
  rw [hp j hj, hg j hj]
theorem back_good {g : Nat → ByteArray} (hg : ∀ j, j < n → g j = (f j).data) : decE (headS seq row n f (sumF n f)) n g = 0 := by
  obtain ⟨e0, e1, e2, e3, e4, hp⟩ := back_head h0 h
  have hd := back_part h0 h hg
  have hfu := ((may_iff _ _ _).1 h).1
  refine decE_good e0 e3.symm ((fullTo_iff _ _).2 fun i hi => by rw [hd i hi]; exact (fullTo_iff _ _).1 hfu i hi) ?_
  rw [e4]
  exact sumF_congr fun j hj => by rw [hd j hj]
theorem back_dec {g : Nat → ByteArray} (hg : ∀ j, j < n → g j = (f j).data) : decE (headS seq row n f (sumF n f)) n g = 0 ∧ dSeq (headS seq row n f (sumF n f)) n g = seq ∧ (dRow (headS seq row n f (sumF n f)) n g : Int) = row ∧ dN (headS seq row n f (sumF n f)) n g = n ∧ ∀ j, j < n → dPart (headS seq row n f (sumF n f)) g j = f j := by
  obtain ⟨e0, e1, e2, e3, e4, hp⟩ := back_head h0 h
  have hz := back_good h0 h hg
  refine ⟨hz, ?_, ?_, ?_, back_part h0 h hg⟩
  · unfold dSeq; rw [if_pos hz, e1]
  · unfold dRow; rw [if_pos hz, e2]
  · unfold dN; rw [if_pos hz, e3]
theorem back_short {m : Nat} (g : Nat → ByteArray) (hm : m ≠ n) : decE (headS seq row n f (sumF n f)) m g = 31 := by
  obtain ⟨e0, _, _, e3, _, _⟩ := back_head h0 h
  exact decE_count e0 (by rw [e3]; exact hm)
end
end Rc
end Go.Proofs.YtjmeiifogblmoaaGreatDoor
