/- A slice of bools that came in. -/
import Derived.Deep.Grids
import Derived.Test.YtlkbdhejfmljlaaDoorKit
namespace Go.Proofs.YtlkbdhejfmljlaaDoor
open Go.RowKit

def IsBools (w : World) (a : Option Addr) (len cap : Nat) (B : Nat → Bool) : Prop :=
  (a = none ∧ len = 0 ∧ cap = 0) ∨ ∃ x, a = some x ∧ len ≤ cap ∧ cap ≤ maxLen ∧ ∀ i, i < cap → w.cell? (x.add i) = some (.bool (B i))
/-- what a reader asks of it -/
theorem IsBools.row {w : World} {a : Option Addr} {len cap : Nat} {B : Nat → Bool} (h : IsBools w a len cap B) : len ≤ maxLen ∧ (0 < len → ∃ b off, a = some ⟨b, off, none⟩ ∧ ∀ j, j < len → w.cell? ⟨b, off + j, none⟩ = some (.bool (B j))) := by
  rcases h with ⟨_, rfl, _⟩ | ⟨⟨b, off, spot⟩, rfl, hl, hm, hc⟩
  · exact ⟨Nat.zero_le _, fun h => absurd h (Nat.lt_irrefl _)⟩
  · refine ⟨by omega, fun h0 => ?_⟩
    have hsp : spot = none := by
      have h1 := World.cell?_spot (hc 0 (by omega))
      simpa [Addr.add] using h1
    subst hsp
    refine ⟨b, off, rfl, fun j hj => ?_⟩
    have := hc j (by omega)
    have hadd : (⟨b, off, none⟩ : Addr).add j = ⟨b, off + j, none⟩ := by unfold Addr.add; split <;> simp_all
    rwa [hadd] at this
end Go.Proofs.YtlkbdhejfmljlaaDoor
