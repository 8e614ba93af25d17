/- What comes back of a record: plain. -/
import Derived.Test.YtmikllmpinciiaaRec12Shown
namespace Go.Proofs.Ytmikllmpinciiaa
open Go.RowKit

namespace Rc
theorem catTo_congr {f g : Nat → Prt} : ∀ {n : Nat}, (∀ j, j < n → (f j).data = (g j).data) → catTo f n = catTo g n
  | 0, _ => rfl
  | n + 1, h => by unfold catTo; rw [catTo_congr (fun j hj => h j (by omega)), h n (by omega)]
theorem sumF_congr {f g : Nat → Prt} {n : Nat} (h : ∀ j, j < n → (f j).data = (g j).data) : sumF n f = sumF n g := by unfold sumF; rw [catTo_congr h]
section
variable {seq : Nat} {row : Int} {n : Nat} {f : Nat → Prt} (h0 : seq < 18446744073709551616) (h : mayB row n f = true)
include h0 h
theorem back_head : headE (headS seq row n f (sumF n f)) = 0 ∧ hSeq (headS seq row n f (sumF n f)) = seq ∧ (hRow (headS seq row n f (sumF n f)) : Int) = row ∧ hN (headS seq row n f (sumF n f)) = n ∧ hSum (headS seq row n f (sumF n f)) = sumF n f ∧ ∀ j, j < n → hPart (headS seq row n f (sumF n f)) j = ⟨(f j).col, (f j).off, ⟨#[]⟩⟩ :=
  head_back h0 (sumF_lt n f) ((may_iff _ _ _).1 h).2
theorem back_part {g : Nat → ByteArray} (hg : ∀ j, j < n → g j = (f j).data) : ∀ j, j < n → dPart (headS seq row n f (sumF n f)) g j = f j := fun j hj => by
  obtain ⟨_, _, _, _, _, hp⟩ := back_head h0 h
  unfold dPart
  rw [hp j hj, hg j hj]
theorem back_good {g : Nat → ByteArray} (hg : ∀ j, j < n → g j = (f j).data) : decE (headS seq row n f (sumF n f)) n g = 0 := by
  obtain ⟨e0, e1, e2, e3, e4, hp⟩ := back_head h0 h
  have hd := back_part h0 h hg
  have hfu := ((may_iff _ _ _).1 h).1
  refine decE_good e0 e3.symm ((fullTo_iff _ _).2 fun i hi => by rw [hd i hi]; exact (fullTo_iff _ _).1 hfu i hi) ?_
  rw [e4]
  exact sumF_congr fun j hj => by rw [hd j hj]
theorem back_dec {g : Nat → ByteArray} (hg : ∀ j, j < n → g j = (f j).data) : decE (headS seq row n f (sumF n f)) n g = 0 ∧ dSeq (headS seq row n f (sumF n f)) n g = seq ∧ (dRow (headS seq row n f (sumF n f)) n g : Int) = row ∧ dN (headS seq row n f (sumF n f)) n g = n ∧ ∀ j, j < n → dPart (headS seq row n f (sumF n f)) g j = f j := by
  obtain ⟨e0, e1, e2, e3, e4, hp⟩ := back_head h0 h
  have hz := back_good h0 h hg
  refine ⟨hz, ?_, ?_, ?_, back_part h0 h hg⟩
  · unfold dSeq; rw [if_pos hz, e1]
  · unfold dRow; rw [if_pos hz, e2]
  · unfold dN; rw [if_pos hz, e3]
theorem back_short {m : Nat} (g : Nat → ByteArray) (hm : m ≠ n) : decE (headS seq row n f (sumF n f)) m g = 31 := by
  obtain ⟨e0, _, _, e3, _, _⟩ := back_head h0 h
  exact decE_count e0 (by rw [e3]; exact hm)
end
end Rc
end Go.Proofs.Ytmikllmpinciiaa
