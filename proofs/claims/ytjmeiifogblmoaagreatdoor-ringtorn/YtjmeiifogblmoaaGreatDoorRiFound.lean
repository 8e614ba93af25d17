/- What is read of a record of the statements: plain. -/
import Derived.Test.YtjmeiifogblmoaaGreatDoorMRiA
import Derived.Test.YtjmeiifogblmoaaGreatDoorMR13
namespace Go.Proofs.YtjmeiifogblmoaaGreatDoor

namespace Ri
theorem Jn.found {D : Dr} {N i t : Nat} {R : Nat → Rcd} (h : Jn D N i t R) {m : Nat} (h0 : t < m) (h2 : m ≤ i) :
    ((recRow D m : Nat) : Int) = (R m).row ∧ recN D m = (R m).n ∧ ∀ j, j < (R m).n → recP D m j = (R m).f j := by
  have h1 : 1 ≤ m := by omega
  have h3 : i < m + N := by have := h.near; omega
  have hm := h.may m h1 h2
  have hf := h.few
  have h64 : m < 18446744073709551616 := by omega
  have hH := h.headAt h1 h2 h3
  obtain ⟨b0, b1, b2, b3, _, _⟩ := Rc.back_head h64 hm
  obtain ⟨d0, d1, d2, d3, d4⟩ := Rc.back_dec h64 hm (g := Ri.dataAt D m) (fun j hj => h.dataAt h0 h2 hj)
  unfold recRow recN recP
  rw [hH]
  exact ⟨b2, b3, d4⟩
end Ri
end Go.Proofs.YtjmeiifogblmoaaGreatDoor
