/- The walk of Pending: in whatever order the map is gone through, the sum is the same. -/
import Derived.Test.YtgkhnfchohcjeaaDrvNew
namespace Go.Proofs.Ytgkhnfchohcjeaa
open Go.RowKit Go.Maps

namespace Dr
def sumTo (n : Nat) (f : Nat → Nat) : Nat := ((List.range n).map f).sum
theorem sumTo_succ (n : Nat) (f : Nat → Nat) : sumTo (n + 1) f = sumTo n f + f n := by simp [sumTo, List.range_succ]
theorem sumTo_congr {f g : Nat → Nat} : ∀ {n : Nat}, (∀ i, i < n → f i = g i) → sumTo n f = sumTo n g
  | 0, _ => rfl
  | n + 1, h => by rw [sumTo_succ, sumTo_succ, sumTo_congr (fun i hi => h i (by omega)), h n (by omega)]
theorem sumTo_zero {f : Nat → Nat} : ∀ {n : Nat}, (∀ i, i < n → f i = 0) → sumTo n f = 0
  | 0, _ => rfl
  | n + 1, h => by rw [sumTo_succ, sumTo_zero (fun i hi => h i (by omega)), h n (by omega)]
theorem sumTo_le {f g : Nat → Nat} : ∀ {n : Nat}, (∀ i, i < n → f i ≤ g i) → sumTo n f ≤ sumTo n g
  | 0, _ => Nat.le_refl _
  | n + 1, h => by rw [sumTo_succ, sumTo_succ]; have := sumTo_le (n := n) (fun i hi => h i (by omega)); have := h n (by omega); omega
theorem sumTo_step {f g : Nat → Nat} {k a : Nat} (hk : g k = f k + a) (ho : ∀ i, i ≠ k → g i = f i) : ∀ {n : Nat}, k < n → sumTo n g = sumTo n f + a
  | 0, h => absurd h (Nat.not_lt_zero _)
  | n + 1, h => by
    rw [sumTo_succ, sumTo_succ]
    by_cases e : k = n
    · subst e
      rw [hk, sumTo_congr (fun i hi => ho i (by omega))]; omega
    · rw [ho n (fun x => e x.symm), sumTo_step hk ho (by omega : k < n)]; omega
/-- the writes of the sectors that L does not hold of any more -/
def doneSum (D : Dr) (L : Nat → Bool) : Nat := sumTo D.safe.length fun i => if L i then 0 else (D.writes i).length
theorem doneSum_start {D : Dr} {L : Nat → Bool} (h : ∀ i, i < D.safe.length → L i = !(D.writes i).isEmpty) : D.doneSum L = 0 := by
  refine sumTo_zero fun i hi => ?_
  rw [h i hi]
  cases e : D.writes i <;> simp
theorem doneSum_end {D : Dr} {L : Nat → Bool} (h : ∀ i, L i = false) : D.doneSum L = D.pending := sumTo_congr fun i _ => by rw [h i]; rfl
theorem doneSum_le (D : Dr) (L : Nat → Bool) : D.doneSum L ≤ D.pending := sumTo_le fun i _ => by split <;> omega
theorem doneSum_step {D : Dr} {L L' : Nat → Bool} {k : Nat} (hk : k < D.safe.length) (h1 : L k = true) (h2 : L' k = false) (h3 : ∀ i, i ≠ k → L' i = L i) : D.doneSum L' = D.doneSum L + (D.writes k).length :=
  sumTo_step (by rw [h1, h2]; simp) (fun i hi => by rw [h3 i hi]) hk
end Dr

theorem keyL_same (i j : Nat) : (keyL i).sameKey (keyL j) = decide (i = j) := by
  unfold keyL
  by_cases h : i = j
  · subst h; simp [Lit.sameKey]
  · simp [Lit.sameKey, h]; omega
theorem MapIn.key {w : World} {mb : Nat} {hd : Nat → Value} {D : Dr} {M : DataW Unit} (h : MapIn w mb hd D M) {x : Int} (hx : Maps.has M (.int .i64 x) = true) : ∃ k : Nat, k < D.safe.length ∧ x = (k : Int) := by
  obtain ⟨k, hk, e⟩ := h.keys _ hx
  refine ⟨k, hk, ?_⟩
  unfold keyL at e
  injection e
theorem DrvIn.head {w : World} {p sb pb mb : Nat} {hd : Nat → Value} {D : Dr} (h : DrvIn w p sb pb mb hd D) (i : Nat) : ∃ a cap, hd i = .slice a (D.writes i).length cap := by
  rcases (h.rows i).2 with ⟨e, h0⟩ | ⟨g, cap, cur, e, _⟩
  · exact ⟨none, 0, by rw [e, h0]⟩
  · exact ⟨_, _, e⟩

end Go.Proofs.Ytgkhnfchohcjeaa
