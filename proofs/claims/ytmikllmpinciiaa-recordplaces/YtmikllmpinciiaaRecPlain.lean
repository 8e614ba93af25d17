/- What the statements' own records are: plain. -/
import Derived.Test.YtmikllmpinciiaaRecSome
import Derived.Test.YtmikllmpinciiaaRecSays
namespace Go.Proofs.Ytmikllmpinciiaa
open Go.RowKit

namespace Rc
theorem place_apart {fr i j : Nat} (hi : i < 40) (hj : j < 40) (h : placeN fr i = placeN fr j) : i = j := by
  unfold placeN at h; omega
theorem someN_le (n : Nat) : someN n ≤ 40 := by unfold someN; omega
theorem someP_places {row fr n : Nat} {l : Nat → ByteArray} (hr : row < 256) (hn : 1 ≤ n) : placesB (row : Int) (someN n) (someP fr l) = true := by
  rw [places_iff, few_iff, okTo_iff]
  have h40 := someN_le n
  refine ⟨⟨by omega, by omega, by unfold someN; omega, h40⟩, fun i hi => ⟨?_, ?_⟩⟩
  · rw [in_iff]
    have : placeN fr i < 40 := by unfold placeN; omega
    unfold someP
    dsimp only
    refine ⟨by omega, ?_, by omega, ?_⟩
    · show ((placeN fr i / 4 : Nat) : Int) < 10; omega
    · show ((placeN fr i % 4 : Nat) : Int) < 4; omega
  · rw [freshTo_iff]
    intro j hj
    cases h : sameB (someP fr l j) (someP fr l i) with
    | false => rfl
    | true =>
      unfold sameB someP at h
      simp only [Bool.and_eq_true, decide_eq_true_eq] at h
      have : placeN fr j = placeN fr i := by omega
      have := place_apart (by omega) (by omega) this
      omega
theorem someP_full (fr n : Nat) (l : Nat → ByteArray) : fullTo (someP fr l) n = true := (fullTo_iff _ _).2 fun _ _ => fillB_size _
theorem someP_may {row fr n : Nat} {l : Nat → ByteArray} (hr : row < 256) (hn : 1 ≤ n) : mayB (row : Int) (someN n) (someP fr l) = true := (may_iff _ _ _).2 ⟨someP_full _ _ _, someP_places hr hn⟩
theorem someP_light (fr n : Nat) (l : Nat → ByteArray) : RecLight (someN n) (someP fr l) := ⟨Nat.le_trans (someN_le n) (by decide), fun j _ => by rw [show (someP fr l j).data = fillB (l j) from rfl, fillB_size]; decide⟩
theorem someP_in {row fr n : Nat} {l : Nat → ByteArray} (hr : row < 256) : RecIn (row : Int) (someN n) (someP fr l) := by
  have h40 := someN_le n
  refine ⟨by omega, by omega, fun j _ => ?_, fun j _ => ?_⟩
  · have : placeN fr j < 40 := by unfold placeN; omega
    show _ ≤ ((placeN fr j / 4 : Nat) : Int) ∧ ((placeN fr j / 4 : Nat) : Int) ≤ _
    omega
  · have : placeN fr j < 40 := by unfold placeN; omega
    show _ ≤ ((placeN fr j % 4 : Nat) : Int) ∧ ((placeN fr j % 4 : Nat) : Int) ≤ _
    omega
theorem enc_may {seq : Nat} {row : Int} {n : Nat} {f : Nat → Prt} (h : mayB row n f = true) : encT seq row n f = headS seq row n f (sumF n f) ∧ encN row n f = n ∧ encE row n f = 0 := by
  unfold encT encN encE
  rw [if_pos h, if_pos h, if_pos h]; exact ⟨rfl, rfl, rfl⟩
theorem enc_not {seq : Nat} {row : Int} {n : Nat} {f : Nat → Prt} (h : mayB row n f = false) : encT seq row n f = ⟨#[]⟩ ∧ encN row n f = 0 ∧ encE row n f = 1 := by
  unfold encT encN encE
  rw [h]; exact ⟨rfl, rfl, rfl⟩
/-- the head of a record that may be -/
theorem headS_may {seq : Nat} {row : Int} {n : Nat} {f : Nat → Prt} (h0 : seq < 18446744073709551616) (h : mayB row n f = true) : (headS seq row n f (sumF n f)).size = 64 ∧ Crc.opens (headS seq row n f (sumF n f)).data.toList = true := by
  obtain ⟨_, hp⟩ := (may_iff _ _ _).1 h
  obtain ⟨r0, r1, n1, n40⟩ := (few_iff _ _).1 ((places_iff _ _ _).1 hp).1
  exact ⟨headS_size h0 (by omega) (by omega) (sumF_lt _ _) n40 f, headS_opens h0 (by omega) (by omega) (sumF_lt _ _) n40 f⟩
end Rc
end Go.Proofs.Ytmikllmpinciiaa
