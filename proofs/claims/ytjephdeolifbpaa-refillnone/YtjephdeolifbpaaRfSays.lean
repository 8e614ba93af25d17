/- What Fill and Make answer, whoever walks them: in one form, with and without an error. -/
import Derived.Test.YtjephdeolifbpaaRfLaw
import Derived.Test.YtjephdeolifbpaaKitBytes
import Derived.Test.YtjephdeolifbpaaSynOne
namespace Go.Proofs.Ytjephdeolifbpaa
open Go.RowKit

/-- the bytes at place k: those of lost columns are 0 -/
def Rf.atB (f : Nat → ByteArray) (ln : Nat) (L : Nat → Int) (k i : Nat) : UInt8 := if Rf.hasF ln L (i : Int) then 0 else Gfm.byt (f i) k
theorem Rf.atB_lost {f : Nat → ByteArray} {ln : Nat} {L : Nat → Int} {k i : Nat} (h : Rf.hasF ln L (i : Int) = true) : Rf.atB f ln L k i = 0 := if_pos h
theorem Rf.atB_kept {f : Nat → ByteArray} {ln : Nat} {L : Nat → Int} {k i : Nat} (h : Rf.hasF ln L (i : Int) = false) : Rf.atB f ln L k i = Gfm.byt (f i) k := by unfold Rf.atB; rw [h]; rfl
/-- byte t of column i, filled -/
def Rf.rowsR (n : Nat) (f : Nat → ByteArray) (ln : Nat) (L : Nat → Int) (t : Nat) : Nat → UInt8 :=
  Rf.fillB (n - 2) (Rf.atB f ln L t) (Rf.lostD (n - 2) ln L) (Rf.hasF ln L ((n - 2 : Nat) : Int)) (Rf.hasF ln L (((n - 2 : Nat) : Int) + 1))
/-- column i, filled -/
def Rf.fillF (n : Nat) (f : Nat → ByteArray) (ln : Nat) (L : Nat → Int) (i : Nat) : ByteArray := ⟨(bl (Rf.szF f ln L n).toNat fun t => Rf.rowsR n f ln L t i).toArray⟩
/-- how many columns an answer has whose error is e -/
def Rf.kF (n : Nat) (e : Int) : Nat := if e = 0 then n else 0
theorem Rf.kF_ok (n : Nat) : Rf.kF n 0 = n := if_pos rfl
theorem Rf.kF_no {n : Nat} {e : Int} (h : e ≠ 0) : Rf.kF n e = 0 := if_neg h
theorem Rf.kF_le (n : Nat) (e : Int) : Rf.kF n e ≤ n := by unfold Rf.kF; split <;> omega
def FillSays (n : Nat) (f : Nat → ByteArray) (ln : Nat) (L : Nat → Int) (e : Ending) (w' : World) : Prop :=
  ∃ g c, e = .returned (.tuple #[.slice g (Rf.kF n (Rf.mayF n f ln L)) c, .int .i64 (Rf.mayF n f ln L)]) ∧ RowS w' g (Rf.kF n (Rf.mayF n f ln L)) (Rf.fillF n f ln L) ∧ Rf.kF n (Rf.mayF n f ln L) ≤ c
def MakeSays (n : Nat) (f : Nat → ByteArray) (e : Ending) (w' : World) : Prop :=
  ∃ g c, e = .returned (.tuple #[.slice g (Rf.kF (n + 2) (Rf.mayF (n + 2) (ownRow n f) 0 fun _ => 0)) c, .int .i64 (Rf.mayF (n + 2) (ownRow n f) 0 fun _ => 0)]) ∧ RowS w' g (Rf.kF (n + 2) (Rf.mayF (n + 2) (ownRow n f) 0 fun _ => 0)) (ownRow n f) ∧ Rf.kF (n + 2) (Rf.mayF (n + 2) (ownRow n f) 0 fun _ => 0) ≤ c
/-- the filled columns' lengths and bytes -/
theorem Rf.fillF_size {n : Nat} {f : Nat → ByteArray} {ln : Nat} {L : Nat → Int} {s : Nat} (h : Rf.szF f ln L n = (s : Int)) (i : Nat) : (Rf.fillF n f ln L i).size = s := by
  unfold Rf.fillF
  show (bl _ _).toArray.size = s
  rw [List.size_toArray, bl_length, h]; rfl
theorem Rf.fillF_byt {n : Nat} {f : Nat → ByteArray} {ln : Nat} {L : Nat → Int} {s : Nat} (h : Rf.szF f ln L n = (s : Int)) {i t : Nat} (ht : t < s) : Gfm.byt (Rf.fillF n f ln L i) t = Rf.rowsR n f ln L t i := by
  unfold Rf.fillF Gfm.byt
  rw [List.toList_toArray, h, show ((s : Nat) : Int).toNat = s from rfl, List.getD_eq_getElem?_getD]
  simp [bl, ht]
end Go.Proofs.Ytjephdeolifbpaa
