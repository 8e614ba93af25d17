/- Plans: rows of bools that a statement makes. -/
import Derived.Test.YtlkbdhejfmljlaaDoorPlGood
namespace Go.Proofs.YtlkbdhejfmljlaaDoor
open Go.RowKit

/-- so many bools -/
def bV (f : Nat → Bool) (n : Nat) : List Value := (List.range n).map fun i => .bool (f i)
theorem bV_succ (f : Nat → Bool) (n : Nat) : bV f (n + 1) = bV f n ++ [.bool (f n)] := by unfold bV; rw [List.range_succ, List.map_append]; rfl
theorem bV_len (f : Nat → Bool) (n : Nat) : (bV f n).length = n := by unfold bV; simp
theorem bV_at (f : Nat → Bool) {n j : Nat} (h : j < n) : (bV f n)[j]? = some (.bool (f j)) := by unfold bV; simp [h]
/-- a row of bools of the call's own -/
def RowO (w : World) (f : Nat → Bool) (n : Nat) (v : Value) (wr : World) : Prop := wr.ownsRow w.heap.size 4 1 v n (bV f n) ∧ Below w.heap.size w wr
theorem RowO.made (w : World) (f : Nat → Bool) : RowO w f 0 (.slice (some ⟨w.heap.size, 0, none⟩) 0 0) (w.alloc (.cells #[] 4)) :=
  ⟨⟨rfl, .inr ⟨w.heap.size, 0, #[], rfl, Nat.le_refl _, World.alloc_heap_new w _, Nat.le_refl _, Nat.zero_le _, rfl, rfl⟩⟩, (Below.refl _ w).alloc (Nat.le_refl _) _⟩
theorem RowO.grown {w wr w1 : World} {f : Nat → Bool} {n : Nat} {v v' : Value} {b : Bool} (h : RowO w f n v wr) (hb : f n = b)
    (ho : w1.ownsRow w.heap.size 4 1 v' (n + 1) (bV f n ++ [.bool b])) (hg : (wr.alloc (.cells #[.bool b] 4)).grownBy w1 v.ownBlock) : RowO w f (n + 1) v' w1 := by
  refine ⟨?_, h.2.trans (below_append h.1 h.2.size hg)⟩
  rw [bV_succ, hb]
  exact ho
theorem RowO.rowB {w wr : World} {f : Nat → Bool} {n cap : Nat} {a : Option Addr} (h : RowO w f n (.slice a n cap) wr) : RowB wr a n f ∧ n ≤ cap := by
  refine ⟨fun j hj => ?_, ownsRow_cap h.1⟩
  rcases h.1.2 with ⟨e, h0⟩ | ⟨g, cap', cur, e, hb, hg, rest⟩
  · subst h0; exact absurd hj (Nat.not_lt_zero _)
  · cases e
    refine ⟨g, 0, rfl, ?_⟩
    have := h.1.cells (g := g) rfl j (.bool (f j)) (bV_at f hj)
    have hadd : (⟨g, 0, none⟩ : Addr).add j = ⟨g, 0 + j, none⟩ := by unfold Addr.add; split <;> simp_all
    rw [← hadd]; exact this
theorem RowO.head {w wr : World} {f : Nat → Bool} {n : Nat} {v : Value} (h : RowO w f n v wr) : ∃ a cap, v = .slice a n cap := by
  rcases h.1.2 with ⟨rfl, h0⟩ | ⟨g, cap, cur, rfl, _⟩
  · subst h0; exact ⟨_, _, rfl⟩
  · exact ⟨_, _, rfl⟩
namespace Pl
/-- which way is gone where the first k of N are written and nothing is lost, what it reads -/
def wantW (N k : Nat) : Int := if k = 0 then 0 else if k = N then 1 else if N - k < k + 2 then 3 else 2
def wantR (N k : Nat) : Nat := if k = 0 then 0 else min (k + 2) (N - k)
def first (k : Nat) (i : Nat) : Bool := decide (i < k)
theorem full_says : ∀ N : Nat, N < 9 → 2 ≤ N → ∀ k : Nat, k < N + 1 → chooseE (N : Int) N [] = 0 ∧ chooseW (N : Int) N (first k) [] = wantW N k ∧ (chooseR (N : Int) N (first k) []).length = wantR N k := by decide +kernel
end Pl
end Go.Proofs.YtlkbdhejfmljlaaDoor
