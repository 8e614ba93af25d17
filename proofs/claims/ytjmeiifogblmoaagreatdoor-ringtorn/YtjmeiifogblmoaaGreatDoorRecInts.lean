/- What comes in as a law's arguments, as plain numbers and texts. -/
import Derived.Test.YtjmeiifogblmoaaGreatDoorKitStr
import Derived.OpenShut
namespace Go.Proofs.YtjmeiifogblmoaaGreatDoor
open Go.RowKit Go.ChangeShapes Go.WideShapes

theorem nat12_u8 {n : Int} (h : (Lit.int .u8 n).wf = true) : ∃ m : Nat, n = m ∧ m < 256 := by
  have b := bounds_u8 h
  exact ⟨n.toNat, by omega, by omega⟩
theorem nat12_u16 {n : Int} (h : (Lit.int .u16 n).wf = true) : ∃ m : Nat, n = m ∧ m < 65536 := by
  have b := bounds_u16 h
  exact ⟨n.toNat, by omega, by omega⟩
theorem nat12_u64 {n : Int} (h : (Lit.int .u64 n).wf = true) : ∃ m : Nat, n = m ∧ m < 18446744073709551616 := by
  have b := bounds_u64 h
  exact ⟨n.toNat, by omega, by omega⟩
/-- a list of texts that came in -/
theorem IsStrs.open12 {w : World} {a : Option Addr} {len cap : Nat} {ss : List ByteArray} (h : IsStrs w a len cap ss) : ∃ f : Nat → ByteArray, len ≤ maxLen ∧ (∀ j, j < len → (f j).size ≤ maxLen) ∧ RowS w a len f := by
  obtain ⟨l, rfl, hm, hs, hr⟩ := h.row
  exact ⟨_, hm, fun j _ => hs j, hr⟩
end Go.Proofs.YtjmeiifogblmoaaGreatDoor
