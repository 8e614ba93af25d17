/- The walk of the statements' own theirs: the document's record of the program's. -/
import Derived.Test.YtmikllmpinciiaaRecParts
namespace Go.Proofs.Ytmikllmpinciiaa
open Go.RowKit

theorem only_low13 {w w1 w2 : World} {F : Nat → Prop} (h : Only F w w1) (hb : Below w.heap.size w1 w2) : Only F w w2 := only_low h hb
theorem cell_same13 {w w' : World} {b : Nat} (h : w'.heap[b]? = w.heap[b]?) (j : Nat) : w'.cell? ⟨b, j, none⟩ = w.cell? ⟨b, j, none⟩ ∧ w'.frozen? ⟨b, j, none⟩ = w.frozen? ⟨b, j, none⟩ := by
  unfold World.cell? World.frozen?
  dsimp only
  rw [h]
  exact ⟨rfl, rfl⟩
/-- three records made one behind the other -/
theorem boxes3 (w : World) (x0 x1 x2 y0 y1 y2 z0 z1 z2 : Value) (s t u : TypeId) :
    let W := ((w.alloc (.cells #[x0, x1, x2] s)).alloc (.cells #[y0, y1, y2] t)).alloc (.cells #[z0, z1, z2] u)
    BoxAt W w.heap.size x0 x1 x2 ∧ BoxAt W (w.heap.size + 1) y0 y1 y2 ∧ BoxAt W (w.heap.size + 1 + 1) z0 z1 z2 ∧ Below w.heap.size w W := by
  intro W
  have b1 : Below (w.heap.size + 1) (w.alloc (.cells #[x0, x1, x2] s)) ((w.alloc (.cells #[x0, x1, x2] s)).alloc (.cells #[y0, y1, y2] t)) := by
    have := (Below.refl (w.alloc (.cells #[x0, x1, x2] s)).heap.size (w.alloc (.cells #[x0, x1, x2] s))).alloc (Nat.le_refl _) (.cells #[y0, y1, y2] t)
    simpa using this
  have b2 : Below (w.heap.size + 1 + 1) ((w.alloc (.cells #[x0, x1, x2] s)).alloc (.cells #[y0, y1, y2] t)) W := by
    have := (Below.refl ((w.alloc (.cells #[x0, x1, x2] s)).alloc (.cells #[y0, y1, y2] t)).heap.size ((w.alloc (.cells #[x0, x1, x2] s)).alloc (.cells #[y0, y1, y2] t))).alloc (Nat.le_refl _) (.cells #[z0, z1, z2] u)
    simpa using this
  refine ⟨((BoxAt.new w s x0 x1 x2).below b1 (by omega)).below b2 (by omega), ?_, ?_, ((Below.refl _ w).alloc (Nat.le_refl _) _).trans ((b1.mono (by omega)).trans (b2.mono (by omega)))⟩
  · have := BoxAt.new (w.alloc (.cells #[x0, x1, x2] s)) t y0 y1 y2
    simp only [World.size_alloc] at this
    exact this.below b2 (by omega)
  · have := BoxAt.new ((w.alloc (.cells #[x0, x1, x2] s)).alloc (.cells #[y0, y1, y2] t)) u z0 z1 z2
    simp only [World.size_alloc] at this
    exact this

end Go.Proofs.Ytmikllmpinciiaa
