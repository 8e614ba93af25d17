/- What page a drive has, what saving one makes of a drive, and of many; what is joined: plain. -/
import Derived.Test.YtlcoibfpebggoaaGreatDoorMDrvB
import Derived.Test.YtlcoibfpebggoaaGreatDoorPgMath
import Derived.Test.YtlcoibfpebggoaaGreatDoorMKitB
namespace Go.Proofs.YtlcoibfpebggoaaGreatDoor
open Go.RowKit

/-- a page as a value -/
def pgV (p : Pge) : Value := .agg #[.int .u64 (p.ev : Int), .string p.bits]

namespace Dr
/-- the error of Load, and its page -/
def pgE (D : Dr) : Nat := if D.readE 2 = 0 then Pg.decE (txt (D.readS 2)) else D.readE 2
def pgS (D : Dr) : Pge := if D.readE 2 = 0 then Pg.decS (txt (D.readS 2)) else Pg.none
/-- a sector is written to the place 2, and flushed -/
def keepE (D : Dr) (t : List UInt8) : Nat := if D.takeE 2 64 = 0 then (D.write 2 t).runsE else D.takeE 2 64
def keepD (D : Dr) (t : List UInt8) : Dr := if D.takeE 2 64 = 0 then (if (D.write 2 t).runsE = 0 then (D.write 2 t).flush else D.write 2 t) else D
/-- the error of Save, and the drive behind it -/
def pgSaveE (D : Dr) (p : Pge) : Nat := if p.bits.size = 8 then D.keepE (Pg.secT p).data.toList else 1
def pgSaveD (D : Dr) (p : Pge) : Dr := if p.bits.size = 8 then D.keepD (Pg.secT p).data.toList else D
theorem pgS_none {D : Dr} (h : D.pgE ≠ 0) : D.pgS = Pg.none := by
  unfold pgE at h
  unfold pgS
  split
  · rename_i hr
    rw [if_pos hr] at h
    exact Pg.decS_bad rfl h
  · rfl
theorem pgS_lt (D : Dr) : D.pgS.ev < 18446744073709551616 := by
  unfold pgS; split
  · exact Pg.decS_lt _
  · show 0 < 18446744073709551616
    omega
theorem pgS_size {D : Dr} (h : D.pgE = 0) : D.pgS.bits.size = 8 := by
  unfold pgE at h
  unfold pgS
  split
  · rename_i hr
    rw [if_pos hr] at h
    exact Pg.decS_size h
  · rename_i hr
    rw [if_neg hr] at h
    exact absurd h hr
end Dr

/-- which drives stand in a list: at j the drive q j, or none -/
abbrev Who := Nat → Option Nat
namespace Pg
/-- the drives behind j places of All -/
def allD (q : Who) (D : Nat → Dr) (p : Pge) : Nat → Nat → Dr
  | 0 => D
  | j + 1 => match q j with
    | .none => allD q D p j
    | some i => swap1 (allD q D p j) i ((allD q D p j i).pgSaveD p)
/-- on how many of these it went well -/
def allN (q : Who) (D : Nat → Dr) (p : Pge) : Nat → Nat
  | 0 => 0
  | j + 1 => match q j with
    | .none => allN q D p j
    | some i => if (allD q D p j i).pgSaveE p = 0 then allN q D p j + 1 else allN q D p j
/-- what All answers -/
def allE (n : Nat) : Nat := if n = 0 then 60 else 0
/-- whether a drive's page is joined -/
def counts (D : Dr) (ev : Nat) : Bool := D.pgE == 0 && decide (ev ≤ D.pgS.ev)
def orL (a b : List UInt8) : List UInt8 := List.zipWith (· ||| ·) a b
/-- what is joined behind j places, and whether there was one -/
def joinL (q : Who) (D : Nat → Dr) (ev : Nat) : Nat → List UInt8
  | 0 => List.replicate 8 0
  | j + 1 => match q j with
    | .none => joinL q D ev j
    | some i => if counts (D i) ev then orL (joinL q D ev j) (D i).pgS.bits.data.toList else joinL q D ev j
def joinB (q : Who) (D : Nat → Dr) (ev : Nat) : Nat → Bool
  | 0 => false
  | j + 1 => match q j with
    | .none => joinB q D ev j
    | some i => joinB q D ev j || counts (D i) ev
theorem allD_none {q : Who} {j : Nat} (h : q j = .none) (D : Nat → Dr) (p : Pge) : allD q D p (j + 1) = allD q D p j := by simp only [allD, h]
theorem allD_some {q : Who} {j i : Nat} (h : q j = some i) (D : Nat → Dr) (p : Pge) : allD q D p (j + 1) = swap1 (allD q D p j) i ((allD q D p j i).pgSaveD p) := by simp only [allD, h]
theorem allN_none {q : Who} {j : Nat} (h : q j = .none) (D : Nat → Dr) (p : Pge) : allN q D p (j + 1) = allN q D p j := by simp only [allN, h]
theorem allN_yes {q : Who} {j i : Nat} (h : q j = some i) {D : Nat → Dr} {p : Pge} (hs : (allD q D p j i).pgSaveE p = 0) : allN q D p (j + 1) = allN q D p j + 1 := by simp only [allN, h, hs, if_true]
theorem allN_no {q : Who} {j i : Nat} (h : q j = some i) {D : Nat → Dr} {p : Pge} (hs : (allD q D p j i).pgSaveE p ≠ 0) : allN q D p (j + 1) = allN q D p j := by simp only [allN, h, hs, if_false]
theorem allN_le (q : Who) (D : Nat → Dr) (p : Pge) : ∀ j, allN q D p j ≤ j
  | 0 => Nat.le_refl _
  | j + 1 => by
    have ih := allN_le q D p j
    cases h : q j with
    | none => rw [allN_none h]; omega
    | some i =>
      by_cases hs : (allD q D p j i).pgSaveE p = 0
      · rw [allN_yes h hs]; omega
      · rw [allN_no h hs]; omega
theorem join_none {q : Who} {j : Nat} (h : q j = .none) (D : Nat → Dr) (ev : Nat) : joinL q D ev (j + 1) = joinL q D ev j ∧ joinB q D ev (j + 1) = joinB q D ev j := by simp only [joinL, joinB, h, and_self]
theorem join_no {q : Who} {j i : Nat} (h : q j = some i) {D : Nat → Dr} {ev : Nat} (hc : counts (D i) ev = false) : joinL q D ev (j + 1) = joinL q D ev j ∧ joinB q D ev (j + 1) = joinB q D ev j := by simp [joinL, joinB, h, hc]
theorem join_yes {q : Who} {j i : Nat} (h : q j = some i) {D : Nat → Dr} {ev : Nat} (hc : counts (D i) ev = true) : joinL q D ev (j + 1) = orL (joinL q D ev j) (D i).pgS.bits.data.toList ∧ joinB q D ev (j + 1) = true := by simp [joinL, joinB, h, hc]
theorem orL_length {a b : List UInt8} (ha : a.length = 8) (hb : b.length = 8) : (orL a b).length = 8 := by simp [orL, ha, hb]
theorem joinL_length (q : Who) (D : Nat → Dr) (ev : Nat) : ∀ j, (joinL q D ev j).length = 8
  | 0 => by simp [joinL]
  | j + 1 => by
    have ih := joinL_length q D ev j
    cases h : q j with
    | none => rw [(join_none h D ev).1]; exact ih
    | some i =>
      cases hc : counts (D i) ev with
      | false => rw [(join_no h hc).1]; exact ih
      | true =>
        rw [(join_yes h hc).1]
        refine orL_length ih ?_
        unfold counts at hc
        rw [Bool.and_eq_true, beq_iff_eq] at hc
        rw [list_size]; exact Dr.pgS_size hc.1
end Pg
end Go.Proofs.YtlcoibfpebggoaaGreatDoor
