/- A page that came in by value: opened. -/
import Derived.Test.YtlcoibfpebggoaaGreatDoorPgDr
import Derived.SliceStrings
import Derived.ProofKit
import Derived.OpenShut
import Derived.ShutString
import Derived.Lib.SmallJoins
namespace Go.Proofs.YtlcoibfpebggoaaGreatDoor
open Go.RowKit Go.ChangeShapes Go.WideShapes

section
variable {H : Type} {enc : TypeId × Value → H} {w : World} {base : Nat} {spare : Nat → Bool} {held : Bool}
set_option maxRecDepth 100000 in
theorem open_page {r : Reach} {b0 : Nat} {v : Value} {d : DataW H} {p : List MemPlace} (hv : Value.okWide Tryz.prog w r b0 24 v) (h : DataW.Trod enc Tryz.prog w base spare held 24 v d p) :
    ∃ s : Pge, v = pgV s ∧ s.ev < 18446744073709551616 ∧ s.bits.size ≤ maxLen := by
  obtain ⟨v0, v1, y0, y1, n, rfl, rfl, rfl, h0, h1⟩ := Go.Joins.open_agg2 Tryz.underlying24 (by kernel_rfl) (by kernel_rfl) hv h
  obtain ⟨x, q0, _, w0⟩ := DataW.trod_int Tryz.underlying22 h0
  obtain ⟨s, q1, _, w1⟩ := DataW.trod_string Tryz.underlying9 h1
  cases q0; cases q1
  have hx := bounds_u64 w0
  obtain ⟨m, rfl⟩ := Int.eq_ofNat_of_zero_le hx.1
  have hm : m < 18446744073709551616 := by have := hx.2; omega
  exact ⟨⟨m, s⟩, rfl, hm, w1⟩
end
end Go.Proofs.YtlcoibfpebggoaaGreatDoor
