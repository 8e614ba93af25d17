/- Several texts in one. The document's own sets of drives: the walk of Filled. The document's own sets of drives: the walk of Sector. The document's own sets of drives: Sector of whatever column; the walk of Lost. -/
import Derived.Test.YtdgkhjgnjfgnlaaGreatMRoB
import Derived.Test.YtdgkhjgnjfgnlaaGreatMRef6B
namespace Go.Proofs.YtdgkhjgnjfgnlaaGreat
open Go.RowKit
attribute [local go_sem] Oper.semAt_some

theorem Dr.read_len {D : Dr} (h : D.Ok) (i : Int) : (D.readS i).length ≤ 64 := by
  unfold Dr.readS
  split
  · unfold Dr.last
    split
    · rw [List.getD_eq_getElem?_getD]
      cases e : D.safe[i.toNat]? with
      | none => exact Nat.zero_le _
      | some s => exact Nat.le_of_eq (h.sector s (List.mem_of_getElem? e))
    · rw [List.getD_eq_getElem?_getD]
      cases e : (D.writes i.toNat)[(D.writes i.toNat).length - 1]? with
      | none => exact Nat.zero_le _
      | some s => exact Nat.le_of_eq (h.writes _ s (List.mem_of_getElem? e))
  · exact Nat.zero_le _
namespace Ro
section
variable (c k r dn bn : Nat) (C : Nat → Col) (bf : Nat → Int) (row off : Int)
/-- what is lost, as a function; what Filled answers -/
def lostF (j : Nat) : Int := (readL c k r dn bn C bf row off).getD j 0
def filledE : Int := if readE c k r dn bn C bf row off = 0 then Rf.mayF c (oneX c k C bf row off) (readL c k r dn bn C bf row off).length (lostF c k r dn bn C bf row off) else (readE c k r dn bn C bf row off : Int)
def filledN : Nat := if filledE c k r dn bn C bf row off = 0 then c else 0
def filledL : List Int := if filledE c k r dn bn C bf row off = 0 then readL c k r dn bn C bf row off else []
def filledF : Nat → ByteArray := Rf.fillF c (oneX c k C bf row off) (readL c k r dn bn C bf row off).length (lostF c k r dn bn C bf row off)
end
end Ro
def FdSays (w : World) (E : Int) (n : Nat) (f : Nat → ByteArray) (l : List Int) (e : Ending) (w' : World) : Prop :=
  (∃ al cl ai ci, e = .returned (.tuple #[.slice al n cl, .slice ai l.length ci, .int .i64 E]) ∧ RowS w' al n f ∧ n ≤ cl ∧ RowI .i64 w' ai l.length (fun j => l.getD j 0) ∧ l.length ≤ ci) ∧ Below w.heap.size w w'

section
variable {c k r : Nat} {da ba : Option Addr} {dn dcap bn bcap : Nat} {C : Nat → Ro.Col} {bf : Nat → Int}
theorem Ro.readL_len (row off : Int) : (Ro.readL c k r dn bn C bf row off).length ≤ c := by
  unfold Ro.readL
  split
  · exact Ro.lostT_len c
  · exact Nat.zero_le _

end
end Go.Proofs.YtdgkhjgnjfgnlaaGreat

namespace Go.Proofs.YtdgkhjgnjfgnlaaGreat
open Go.RowKit
attribute [local go_sem] Oper.semAt_some

namespace Ro
section
variable (c k r dn bn : Nat) (C : Nat → Col) (bf : Nat → Int) (row off i : Int)
/-- what Sector answers of a column's role; of any -/
def secE0 (q : Nat) : Int := if oneE c k C bf row off q = 41 then filledE c k r dn bn C bf row off else (oneE c k C bf row off q : Int)
def secX0 (q : Nat) : ByteArray := if oneE c k C bf row off q = 41 then (if filledE c k r dn bn C bf row off = 0 then filledF c k r dn bn C bf row off q else ⟨#[]⟩) else oneX c k C bf row off q
def secB : Bool := decide (0 ≤ i) && decide (i < (c : Int) - 2)
def secE : Int := if chk c k r dn bn C row off = 0 then (if secB c i then secE0 c k r dn bn C bf row off i.toNat else 70) else (chk c k r dn bn C row off : Int)
def secX : ByteArray := if chk c k r dn bn C row off = 0 then (if secB c i then secX0 c k r dn bn C bf row off i.toNat else ⟨#[]⟩) else ⟨#[]⟩
end
end Ro
/-- a data column's column -/
theorem Ro.col_eq {c k r row i : Nat} (hok : Lay.ok (c : Int) (k : Int) (r : Int)) (hr : row < r) (hi : i + 2 < c) : Lay.colI (c : Int) (k : Int) (r : Int) (row : Int) (i : Int) = ((Ro.colN c row i : Nat) : Int) := by
  rw [show Lay.colI (c : Int) (k : Int) (r : Int) (row : Int) (i : Int) = (((c : Int) - 1 - (row : Int) % (c : Int) + 1) % (c : Int) + 1 + (i : Int)) % (c : Int) from if_pos ⟨⟨hok, by omega, by omega⟩, by omega, by omega⟩]
  unfold Ro.colN
  obtain ⟨⟨c1, c2⟩, _, _⟩ := hok
  have hc : c = 4 ∨ c = 5 ∨ c = 6 ∨ c = 7 ∨ c = 8 ∨ c = 9 ∨ c = 10 := by omega
  rcases hc with rfl | rfl | rfl | rfl | rfl | rfl | rfl <;> omega

section
variable {c k r : Nat} {da ba : Option Addr} {dn dcap bn bcap : Nat} {C : Nat → Ro.Col} {bf : Nat → Int}
end
end Go.Proofs.YtdgkhjgnjfgnlaaGreat

namespace Go.Proofs.YtdgkhjgnjfgnlaaGreat
open Go.RowKit
attribute [local go_sem] Oper.semAt_some

namespace Ro
section
variable (c k r dn bn : Nat) (C : Nat → Col) (bf : Nat → Int) (row : Int)
def missT (t : Nat) : List Int := ((List.range t).filter fun q => missB C bf row (colN c row.toNat q)).map fun q => ((q : Nat) : Int)
def lostE : Nat := chk c k r dn bn C row 0
def lostL : List Int := if chk c k r dn bn C row 0 = 0 then missT c C bf row c else []
end
section
variable {c : Nat} {C : Nat → Col} {bf : Nat → Int} {row : Int}
end
end Ro
/-- what Lost answers -/
def LsAns (w : World) (E : Nat) (l : List Int) (e : Ending) (w' : World) : Prop :=
  (∃ ai ci, e = .returned (.tuple #[.slice ai l.length ci, .int .i64 (E : Int)]) ∧ RowI .i64 w' ai l.length (fun j => l.getD j 0) ∧ l.length ≤ ci) ∧ Below w.heap.size w w'
section
variable {c k r : Nat} {da ba : Option Addr} {dn dcap bn bcap : Nat} {C : Nat → Ro.Col} {bf : Nat → Int}
end
end Go.Proofs.YtdgkhjgnjfgnlaaGreat
