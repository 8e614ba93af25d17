/- The walk of the document's own Encode of a record. -/
import Derived.Test.YtmikllmpinciiaaRef12Head
import Derived.Test.YtmikllmpinciiaaKitTexts
import Derived.OwnWalk
namespace Go.Proofs.Ytmikllmpinciiaa
open Go.RowKit

namespace Rc
def encE (row : Int) (n : Nat) (f : Nat → Prt) : Nat := if mayB row n f = true then 0 else 1
def encN (row : Int) (n : Nat) (f : Nat → Prt) : Nat := if mayB row n f = true then n else 0
def encT (seq : Nat) (row : Int) (n : Nat) (f : Nat → Prt) : ByteArray := if mayB row n f = true then headS seq row n f (sumF n f) else ⟨#[]⟩
theorem may_iff (row : Int) (n : Nat) (f : Nat → Prt) : mayB row n f = true ↔ fullTo f n = true ∧ placesB row n f = true := by unfold mayB; rw [Bool.and_eq_true]
theorem catTo_size {f : Nat → Prt} : ∀ {n : Nat}, fullTo f n = true → (catTo f n).size = 64 * n
  | 0, _ => rfl
  | n + 1, h => by
    unfold fullTo at h
    rw [Bool.and_eq_true, decide_eq_true_iff] at h
    unfold catTo
    rw [ByteArray.size_append, catTo_size h.1, h.2]; omega
theorem sumF_lt (n : Nat) (f : Nat → Prt) : sumF n f < 4294967296 := Crc.more_lt _ _
end Rc
/-- what Encode answers -/
def EncAns (w : World) (seq : Nat) (row : Int) (n : Nat) (f : Nat → Prt) (e : Ending) (w' : World) : Prop :=
  ∃ a cap, e = .returned (.tuple #[.string (Rc.encT seq row n f), .slice a (Rc.encN row n f) cap, .int .i64 (Rc.encE row n f : Nat)]) ∧ RowS w' a (Rc.encN row n f) (fun j => (f j).data) ∧ Below w.heap.size w w'

end Go.Proofs.Ytmikllmpinciiaa
