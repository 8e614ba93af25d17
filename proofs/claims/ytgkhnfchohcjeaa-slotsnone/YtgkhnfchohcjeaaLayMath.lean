/- What stands where: plain numbers. -/
import Derived.Test.YtgkhnfchohcjeaaLayWalk
namespace Go.Proofs.Ytgkhnfchohcjeaa
namespace Lay

def hasRow (c k r row : Int) : Prop := ok c k r ∧ 0 ≤ row ∧ row < r
open Classical in
noncomputable def sizeI (c k r : Int) : Int := if ok c k r then r * (c - 2) * k else 0
open Classical in
noncomputable def needI (c k r : Int) : Int := if ok c k r then 4 + r * k else 0
open Classical in
noncomputable def checkI (c k r : Int) : Int := if ok c k r then 0 else 1
open Classical in
noncomputable def rowsI (s k : Int) : Int := if (1 ≤ k ∧ k ≤ 4) ∧ 4 ≤ s then (if (s - 4) / k ≤ 256 then (s - 4) / k else 256) else 0
open Classical in
noncomputable def parP (c k r row : Int) : Int := if hasRow c k r row then c - 1 - row % c else 0
open Classical in
noncomputable def parQ (c k r row : Int) : Int := if hasRow c k r row then (c - 1 - row % c + 1) % c else 0
open Classical in
noncomputable def colI (c k r row i : Int) : Int := if hasRow c k r row ∧ 0 ≤ i ∧ i < c - 2 then ((c - 1 - row % c + 1) % c + 1 + i) % c else 0
open Classical in
noncomputable def roleI (c k r row col : Int) : Int := if hasRow c k r row ∧ 0 ≤ col ∧ col < c then (col - (c - 1 - row % c + 1) % c - 1) % c else 0
open Classical in
noncomputable def findE (c k r s : Int) : Int := if ok c k r then (if 0 ≤ s ∧ s < r * (c - 2) * k then 0 else 70) else 1
open Classical in
noncomputable def findA (c k r s : Int) : Int := if ok c k r ∧ 0 ≤ s ∧ s < r * (c - 2) * k then s / k / (c - 2) else 0
open Classical in
noncomputable def findI (c k r s : Int) : Int := if ok c k r ∧ 0 ≤ s ∧ s < r * (c - 2) * k then s / k % (c - 2) else 0
open Classical in
noncomputable def findO (c k r s : Int) : Int := if ok c k r ∧ 0 ≤ s ∧ s < r * (c - 2) * k then s % k else 0
open Classical in
noncomputable def backE (c k r row i off : Int) : Int := if ok c k r then (if (0 ≤ row ∧ row < r) ∧ (0 ≤ i ∧ i < c - 2) ∧ 0 ≤ off ∧ off < k then 0 else 70) else 1
open Classical in
noncomputable def backN (c k r row i off : Int) : Int := if ok c k r ∧ (0 ≤ row ∧ row < r) ∧ (0 ≤ i ∧ i < c - 2) ∧ 0 ≤ off ∧ off < k then (row * (c - 2) + i) * k + off else 0
open Classical in
noncomputable def sectI (c k r row off : Int) : Int := if hasRow c k r row ∧ 0 ≤ off ∧ off < k then 4 + row * k + off else 0

/-- a place of the array has a number, and is found by it -/
theorem back_find {c k r row i off : Int} (h : ok c k r) (a1 : 0 ≤ row) (a2 : row < r) (i1 : 0 ≤ i) (i2 : i < c - 2) (o1 : 0 ≤ off) (o2 : off < k) :
    (0 ≤ (row * (c - 2) + i) * k + off ∧ (row * (c - 2) + i) * k + off < r * (c - 2) * k) ∧
    ((row * (c - 2) + i) * k + off) / k / (c - 2) = row ∧ ((row * (c - 2) + i) * k + off) / k % (c - 2) = i ∧ ((row * (c - 2) + i) * k + off) % k = off := by
  obtain ⟨⟨c1, c2⟩, ⟨k1, k2⟩, r1, r2⟩ := h
  have hc : c = 4 ∨ c = 5 ∨ c = 6 ∨ c = 7 ∨ c = 8 ∨ c = 9 ∨ c = 10 := by omega
  have hk : k = 1 ∨ k = 2 ∨ k = 3 ∨ k = 4 := by omega
  rcases hc with rfl | rfl | rfl | rfl | rfl | rfl | rfl <;> rcases hk with rfl | rfl | rfl | rfl <;> refine ⟨⟨?_, ?_⟩, ?_, ?_, ?_⟩ <;> omega
/-- a sector of the array has a place, and is found back there -/
theorem find_back {c k r s : Int} (h : ok c k r) (s1 : 0 ≤ s) (s2 : s < r * (c - 2) * k) :
    (0 ≤ s / k / (c - 2) ∧ s / k / (c - 2) < r) ∧ (0 ≤ s / k % (c - 2) ∧ s / k % (c - 2) < c - 2) ∧ (0 ≤ s % k ∧ s % k < k) ∧ (s / k / (c - 2) * (c - 2) + s / k % (c - 2)) * k + s % k = s := by
  obtain ⟨⟨c1, c2⟩, ⟨k1, k2⟩, r1, r2⟩ := h
  have hc : c = 4 ∨ c = 5 ∨ c = 6 ∨ c = 7 ∨ c = 8 ∨ c = 9 ∨ c = 10 := by omega
  have hk : k = 1 ∨ k = 2 ∨ k = 3 ∨ k = 4 := by omega
  rcases hc with rfl | rfl | rfl | rfl | rfl | rfl | rfl <;> rcases hk with rfl | rfl | rfl | rfl <;> refine ⟨⟨?_, ?_⟩, ⟨?_, ?_⟩, ⟨?_, ?_⟩, ?_⟩ <;> omega
end Lay
end Go.Proofs.Ytgkhnfchohcjeaa
