/- What is in a drive's two slots, which superblock is the newer, and what Save and Next make of a drive: plain. -/
import Derived.Test.YtgkhnfchohcjeaaDrvRead
import Derived.Test.YtgkhnfchohcjeaaSupMath
namespace Go.Proofs.Ytgkhnfchohcjeaa
open Go.RowKit

namespace Dr
/-- the superblock in a slot, and whether there is one -/
def slS (D : Dr) (i : Int) : Su := if D.readE i = 0 then Sup.decS (txt (D.readS i)) else Sup.none
def slB (D : Dr) (i : Int) : Bool := D.readE i == 0 && Sup.decE (txt (D.readS i)) == 0
/-- which slot has the newer of two -/
def newer (b0 b1 : Bool) (e0 e1 : Nat) : Int := bif b1 && (!b0 || decide (e0 < e1)) then 1 else bif b0 then 0 else -1
def newest (D : Dr) : Int := newer (D.slB 0) (D.slB 1) (D.slS 0).ev (D.slS 1).ev
def loadE (D : Dr) : Nat := if D.dead then 40 else if D.newest < 0 then 90 else 0
def loadS (D : Dr) : Su := if D.dead then Sup.none else if D.newest < 0 then Sup.none else D.slS D.newest
def slot (s : Su) : Nat := s.ev % 2
def saveE (D : Dr) (s : Su) : Nat := if Sup.mayB s then (if D.takeE (slot s) 64 = 0 then (D.write (slot s) (Sup.secT s).data.toList).runsE else D.takeE (slot s) 64) else 1
def saveD (D : Dr) (s : Su) : Dr := if Sup.mayB s then (if D.takeE (slot s) 64 = 0 then (if (D.write (slot s) (Sup.secT s).data.toList).runsE = 0 then (D.write (slot s) (Sup.secT s).data.toList).flush else D.write (slot s) (Sup.secT s).data.toList) else D) else D
/-- as it is saved next -/
def bump (D : Dr) (s : Su) : Su := { s with ev := ((if D.loadE = 0 then D.loadS.ev else s.ev) + 1) % 18446744073709551616 }
def nextS (D : Dr) (s : Su) : Su := if D.saveE (D.bump s) = 0 then D.bump s else Sup.none

theorem newer_none (e0 e1 : Nat) : newer false false e0 e1 = -1 := rfl
theorem newer_first (e0 e1 : Nat) : newer true false e0 e1 = 0 := rfl
theorem newer_second (e0 e1 : Nat) : newer false true e0 e1 = 1 := rfl
theorem newer_cases (b0 b1 : Bool) (e0 e1 : Nat) : newer b0 b1 e0 e1 = -1 ∨ newer b0 b1 e0 e1 = 0 ∨ newer b0 b1 e0 e1 = 1 := by
  unfold newer
  cases (b1 && (!b0 || decide (e0 < e1))) <;> cases b0 <;> simp
theorem slS_none {D : Dr} {i : Int} (h : D.slB i = false) : D.slS i = Sup.none := by
  unfold slB at h
  unfold slS
  split
  · rename_i hr
    rw [hr] at h
    unfold Sup.decS
    rw [if_neg]
    intro e
    rw [e] at h
    exact absurd h (by decide)
  · rfl
theorem slS_in (D : Dr) (i : Int) : (D.slS i).uu < 18446744073709551616 ∧ (D.slS i).ev < 18446744073709551616 ∧ 0 ≤ (D.slS i).c ∧ (D.slS i).c < 256 ∧ 0 ≤ (D.slS i).nw ∧ (D.slS i).nw < 256 := by
  have hn : Sup.none.uu < 18446744073709551616 ∧ Sup.none.ev < 18446744073709551616 ∧ 0 ≤ Sup.none.c ∧ Sup.none.c < 256 ∧ 0 ≤ Sup.none.nw ∧ Sup.none.nw < 256 := by decide
  unfold slS
  split
  · unfold Sup.decS
    split
    · rename_i he
      have h64 : (txt (D.readS i)).size = 64 := by
        unfold Sup.decE at he
        by_cases hs : (txt (D.readS i)).size = 64
        · exact hs
        · rw [if_pos hs] at he; exact absurd he (by decide)
      obtain ⟨_, hu, hv, _, h3, _, _, _, h7, _⟩ := Sup.told_fit _ h64
      exact ⟨hu, hv, h3.1, h3.2, h7.1, h7.2⟩
    · exact hn
  · exact hn
theorem loadS_lt (D : Dr) : D.loadS.ev < 18446744073709551616 ∧ D.loadS.uu < 18446744073709551616 := by
  unfold loadS
  split
  · decide
  · split
    · decide
    · exact ⟨(D.slS_in _).2.1, (D.slS_in _).1⟩
theorem runsE_write (D : Dr) (i : Nat) (s : List UInt8) (h : D.goes = false) : (D.write i s).runsE = D.runsE := by
  unfold runsE write spend put
  simp [h]
end Dr
end Go.Proofs.Ytgkhnfchohcjeaa
