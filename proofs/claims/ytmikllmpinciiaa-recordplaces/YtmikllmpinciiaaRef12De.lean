/- The walk of the document's own Decode of a record. -/
import Derived.Test.YtmikllmpinciiaaRef12Hd
namespace Go.Proofs.Ytmikllmpinciiaa
open Go.RowKit

namespace Rc
/-- a head's parts with these data -/
def dPart (b : ByteArray) (g : Nat → ByteArray) (j : Nat) : Prt := ⟨(hPart b j).col, (hPart b j).off, g j⟩
def decE (b : ByteArray) (m : Nat) (g : Nat → ByteArray) : Nat := if headE b ≠ 0 then headE b else if m ≠ hN b then 31 else bif fullTo (dPart b g) m then (if sumF m (dPart b g) = hSum b then 0 else 80) else 31
def dSeq (b : ByteArray) (m : Nat) (g : Nat → ByteArray) : Nat := if decE b m g = 0 then hSeq b else 0
def dRow (b : ByteArray) (m : Nat) (g : Nat → ByteArray) : Nat := if decE b m g = 0 then hRow b else 0
def dN (b : ByteArray) (m : Nat) (g : Nat → ByteArray) : Nat := if decE b m g = 0 then hN b else 0
theorem decE_head {b : ByteArray} {m : Nat} {g : Nat → ByteArray} (h : headE b ≠ 0) : decE b m g = headE b := if_pos h
theorem decE_count {b : ByteArray} {m : Nat} {g : Nat → ByteArray} (h : headE b = 0) (hm : m ≠ hN b) : decE b m g = 31 := by unfold decE; rw [if_neg (fun x => x h), if_pos hm]
theorem decE_full {b : ByteArray} {m : Nat} {g : Nat → ByteArray} (h : headE b = 0) (hm : m = hN b) (hf : fullTo (dPart b g) m = false) : decE b m g = 31 := by unfold decE; rw [if_neg (fun x => x h), if_neg (fun x => x hm), hf]; rfl
theorem decE_sum {b : ByteArray} {m : Nat} {g : Nat → ByteArray} (h : headE b = 0) (hm : m = hN b) (hf : fullTo (dPart b g) m = true) (hs : sumF m (dPart b g) ≠ hSum b) : decE b m g = 80 := by unfold decE; rw [if_neg (fun x => x h), if_neg (fun x => x hm), hf, cond_true, if_neg hs]
theorem decE_good {b : ByteArray} {m : Nat} {g : Nat → ByteArray} (h : headE b = 0) (hm : m = hN b) (hf : fullTo (dPart b g) m = true) (hs : sumF m (dPart b g) = hSum b) : decE b m g = 0 := by unfold decE; rw [if_neg (fun x => x h), if_neg (fun x => x hm), hf, cond_true, if_pos hs]
/-- what a head that is one tells may be -/
theorem head_places {b : ByteArray} (h : headE b = 0) : placesB (hRow b) (hN b) (hPart b) = true ∧ hSeq b < 18446744073709551616 ∧ hRow b < 256 ∧ 1 ≤ hN b ∧ hN b ≤ 40 ∧ hSum b < 4294967296 ∧ b.size = 64 ∧ headS (hSeq b) (hRow b) (hN b) (hPart b) (hSum b) = b := by
  have hs : b.size = 64 := by
    refine Decidable.byContradiction fun hn => ?_
    rw [headE_short hn] at h; cases h
  have ts := Pg.head_size hs
  obtain ⟨n0, n1, n2, n3⟩ := num_bounds ts
  have e : hSeq b = numT (Crc.headB b) 0 ∧ hRow b = numT (Crc.headB b) 1 ∧ hN b = numT (Crc.headB b) 2 ∧ hSum b = numT (Crc.headB b) 3 := by
    unfold hSeq hRow hN hSum; simp only [if_pos h, and_self]
  have key : placesB (numT (Crc.headB b) 1) (numT (Crc.headB b) 2) (partT (Crc.headB b)) = true ∧ headS (numT (Crc.headB b) 0) (numT (Crc.headB b) 1) (numT (Crc.headB b) 2) (partT (Crc.headB b)) (numT (Crc.headB b) 3) = b := by
    cases ho : Crc.opens b.data.toList with
    | false => rw [headE_sum hs ho] at h; cases h
    | true =>
      by_cases hf : (Crc.headB b).extract 0 4 = magicB
      · by_cases hm : 40 < numT (Crc.headB b) 2
        · rw [headE_many hs ho hf hm] at h; cases h
        · rw [headE_rest hs ho hf hm] at h
          cases hc : (placesB (numT (Crc.headB b) 1) (numT (Crc.headB b) 2) (partT (Crc.headB b)) && decide (headS (numT (Crc.headB b) 0) (numT (Crc.headB b) 1) (numT (Crc.headB b) 2) (partT (Crc.headB b)) (numT (Crc.headB b) 3) = b)) with
          | false => rw [hc] at h; cases h
          | true =>
            rw [Bool.and_eq_true, decide_eq_true_iff] at hc
            exact hc
      · rw [headE_magic hs ho hf] at h; cases h
  obtain ⟨r0, r1, m1, m40⟩ := (few_iff _ _).1 ((places_iff _ _ _).1 key.1).1
  rw [e.1, e.2.1, e.2.2.1, e.2.2.2]
  exact ⟨key.1, n0, by omega, m1, m40, n3, hs, key.2⟩
end Rc
/-- what Decode answers -/
def DecAns12 (w : World) (b : ByteArray) (m : Nat) (g : Nat → ByteArray) (e : Ending) (w' : World) : Prop :=
  ∃ a cap, e = .returned (.tuple #[.agg #[.int .u64 (Rc.dSeq b m g : Int), .int .i64 (Rc.dRow b m g : Int), .slice a (Rc.dN b m g) cap], .int .i64 (Rc.decE b m g : Int)]) ∧ PartsR w' a (Rc.dN b m g) (Rc.dPart b g) ∧ Below w.heap.size w w'
theorem dec_bad {w w' : World} {b : ByteArray} {m : Nat} {g : Nat → ByteArray} {n : Nat} (h : Rc.decE b m g = n) (hn : n ≠ 0) (hb : Below w.heap.size w w') : DecAns12 w b m g (.returned (.tuple #[noRec, .int .i64 (n : Int)])) w' := by
  have e : ¬ Rc.decE b m g = 0 := by rw [h]; exact hn
  refine ⟨none, 0, ?_, ?_, hb⟩
  · unfold Rc.dSeq Rc.dRow Rc.dN
    rw [if_neg e, if_neg e, if_neg e, h]; rfl
  · unfold Rc.dN; rw [if_neg e]; exact PartsR.nil _ _ _

theorem BoxAt.other {w : World} {b : Nat} {c0 c1 c2 : Value} (h : BoxAt w b c0 c1 c2) {k : Nat} (hk : b ≠ k) (j : Nat) (x : Value) : BoxAt (w.setCell ⟨k, j, none⟩ x) b c0 c1 c2 :=
  ⟨(World.cell?_setCell_other _ _ _ _ (fun e => by injection e with e2; exact hk e2.symm)).trans h.k0, (World.cell?_setCell_other _ _ _ _ (fun e => by injection e with e2; exact hk e2.symm)).trans h.k1, (World.cell?_setCell_other _ _ _ _ (fun e => by injection e with e2; exact hk e2.symm)).trans h.k2,
    (World.frozen?_setCell _ _ _ _).trans h.f0, (World.frozen?_setCell _ _ _ _).trans h.f1, (World.frozen?_setCell _ _ _ _).trans h.f2⟩
theorem Rc.hPart_cat {b : ByteArray} {g : Nat → ByteArray} {k : Nat} : Rc.catTo (Rc.dPart b g) (k + 1) = Rc.catTo (Rc.dPart b g) k ++ g k := rfl
end Go.Proofs.Ytmikllmpinciiaa
