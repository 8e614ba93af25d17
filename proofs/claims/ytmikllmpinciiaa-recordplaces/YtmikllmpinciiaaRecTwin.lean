/- RecordPlaces: no two parts stand at one place, and there are some, and no more than there is room for. -/
import Derived.Test.YtmikllmpinciiaaRecBackP
namespace Go.Proofs.Ytmikllmpinciiaa
open Go.RowKit

namespace Rc
/-- the part i with another column | another place -/
def putCol (f : Nat → Prt) (i : Nat) (x : Int) : Nat → Prt := fun j => if j = i then ⟨x, (f j).off, (f j).data⟩ else f j
def putOff (f : Nat → Prt) (i : Nat) (x : Int) : Nat → Prt := fun j => if j = i then ⟨(f j).col, x, (f j).data⟩ else f j
/-- the last part stands where the first does -/
def twin (f : Nat → Prt) (q : Nat) : Nat → Prt := putOff (putCol f q (f 0).col) q (f 0).off
theorem twin_last (f : Nat → Prt) (q : Nat) : twin f q q = ⟨(f 0).col, (f 0).off, (f q).data⟩ := by simp [twin, putOff, putCol]
theorem twin_other (f : Nat → Prt) {q j : Nat} (h : j ≠ q) : twin f q j = f j := by simp [twin, putOff, putCol, h]
theorem twin_one (f : Nat → Prt) (j : Nat) : twin f 0 j = f j := by
  by_cases h : j = 0
  · subst h; rw [twin_last]
  · exact twin_other f h
theorem mayB_congr {row : Int} {n : Nat} {f g : Nat → Prt} (h : ∀ j, j < n → f j = g j) : mayB row n f = mayB row n g := by
  unfold mayB placesB
  rw [okTo_congr (fun i hi => by rw [h i hi]; exact ⟨rfl, rfl⟩)]
  congr 1
  rw [Bool.eq_iff_iff, fullTo_iff, fullTo_iff]
  exact ⟨fun x i hi => by rw [← h i hi]; exact x i hi, fun x i hi => by rw [h i hi]; exact x i hi⟩
theorem twin_may {row : Int} {f : Nat → Prt} {q : Nat} (h : mayB row (q + 1) f = true) : mayB row (q + 1) (twin f q) = decide (q = 0) := by
  by_cases e : q = 0
  · subst e
    rw [mayB_congr (fun j _ => twin_one f j), h]; rfl
  · rw [decide_eq_false e]
    unfold mayB placesB
    have : okTo (twin f q) (q + 1) = false := okTo_not (i := q) (by omega) (.inr (freshTo_not (j := 0) (by omega) (by
      rw [twin_last, twin_other f (show 0 ≠ q by omega)]
      simp [sameB])))
    rw [this]
    simp
theorem wide_may {n : Nat} {f : Nat → Prt} : mayB 256 n f = false := by
  cases h : mayB 256 n f with
  | false => rfl
  | true => have := ((few_iff _ _).1 ((places_iff _ _ _).1 ((may_iff _ _ _).1 h).2).1).2.1; omega
theorem none_may {row : Int} {f : Nat → Prt} : mayB row 0 f = false := by
  cases h : mayB row 0 f with
  | false => rfl
  | true => have := ((few_iff _ _).1 ((places_iff _ _ _).1 ((may_iff _ _ _).1 h).2).1).2.2.1; omega
end Rc
theorem PartsR.putCol {w : World} {g n i : Nat} {f : Nat → Prt} (h : PartsR w (some ⟨g, 0, none⟩) n f) (hi : i < n) (x : Int) : PartsR (w.setCell ⟨g, i * 3, none⟩ (.int .i64 x)) (some ⟨g, 0, none⟩) n (Rc.putCol f i x) := fun j hj => by
  obtain ⟨b, o, e, hp⟩ := h j hj
  cases e
  refine ⟨g, 0, rfl, ?_⟩
  have ne : ∀ c, 0 + j * 3 + c ≠ i * 3 → (w.setCell ⟨g, i * 3, none⟩ (.int .i64 x)).cell? ⟨g, 0 + j * 3 + c, none⟩ = w.cell? ⟨g, 0 + j * 3 + c, none⟩ := fun c hc => World.cell?_setCell_other _ _ _ _ (fun e => by injection e with _ e2; exact hc e2.symm)
  by_cases e : j = i
  · subst e
    have es : Rc.putCol f j x j = ⟨x, (f j).off, (f j).data⟩ := by simp [Rc.putCol]
    rw [es]
    refine ⟨?_, (ne 1 (by omega)).trans hp.c1, (ne 2 (by omega)).trans hp.c2⟩
    have hc := hp.c0
    rw [Nat.zero_add] at hc ⊢
    exact World.cell?_setCell_same _ _ _ hc
  · have es : Rc.putCol f i x j = f j := by simp [Rc.putCol, e]
    rw [es]
    exact ⟨(ne 0 (by omega)).trans hp.c0, (ne 1 (by omega)).trans hp.c1, (ne 2 (by omega)).trans hp.c2⟩
theorem PartsR.putOff {w : World} {g n i : Nat} {f : Nat → Prt} (h : PartsR w (some ⟨g, 0, none⟩) n f) (hi : i < n) (x : Int) : PartsR (w.setCell ⟨g, i * 3 + 1, none⟩ (.int .i64 x)) (some ⟨g, 0, none⟩) n (Rc.putOff f i x) := fun j hj => by
  obtain ⟨b, o, e, hp⟩ := h j hj
  cases e
  refine ⟨g, 0, rfl, ?_⟩
  have ne : ∀ c, 0 + j * 3 + c ≠ i * 3 + 1 → (w.setCell ⟨g, i * 3 + 1, none⟩ (.int .i64 x)).cell? ⟨g, 0 + j * 3 + c, none⟩ = w.cell? ⟨g, 0 + j * 3 + c, none⟩ := fun c hc => World.cell?_setCell_other _ _ _ _ (fun e => by injection e with _ e2; exact hc e2.symm)
  by_cases e : j = i
  · subst e
    have es : Rc.putOff f j x j = ⟨(f j).col, x, (f j).data⟩ := by simp [Rc.putOff]
    rw [es]
    refine ⟨(ne 0 (by omega)).trans hp.c0, ?_, (ne 2 (by omega)).trans hp.c2⟩
    have hc := hp.c1
    rw [Nat.zero_add] at hc ⊢
    exact World.cell?_setCell_same _ _ _ hc
  · have es : Rc.putOff f i x j = f j := by simp [Rc.putOff, e]
    rw [es]
    exact ⟨(ne 0 (by omega)).trans hp.c0, (ne 1 (by omega)).trans hp.c1, (ne 2 (by omega)).trans hp.c2⟩
end Go.Proofs.Ytmikllmpinciiaa
