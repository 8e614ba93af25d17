/- The document's own plans: the walk of what each way reads. -/
import Derived.Test.YtlkbdhejfmljlaaDoorRef15
import Derived.Test.YtlkbdhejfmljlaaDoorKitRound
import Derived.Maps.AppendAt
import Derived.Lib.JoinLaws
namespace Go.Proofs.YtlkbdhejfmljlaaDoor
open Go.RowKit
attribute [local go_sem] Oper.semAt_some

/-- a slice of bools, all that a reader asks of it -/
def RowB (w : World) (a : Option Addr) (n : Nat) (B : Nat → Bool) : Prop := ∀ j, j < n → ∃ b off, a = some ⟨b, off, none⟩ ∧ w.cell? ⟨b, off + j, none⟩ = some (.bool (B j))
theorem RowB.below {w w' : World} {a : Option Addr} {n : Nat} {B : Nat → Bool} (h : RowB w a n B) (hb : Below w.heap.size w w') : RowB w' a n B := fun j hj => by
  obtain ⟨b, off, ha, hc⟩ := h j hj
  exact ⟨b, off, ha, (hb.cell (p := ⟨b, off + j, none⟩) (World.block_lt_of_cell? w _ hc)).trans hc⟩
/-- numbers as a slice's cells -/
abbrev iV15 (l : List Int) : List Value := l.map (Value.int .i64)
theorem iV15_snoc (l : List Int) (x : Int) : iV15 l ++ [.int .i64 x] = iV15 (l ++ [x]) := by simp [iV15]
theorem row_none15 (w : World) (B : Nat) (hB : B ≤ w.heap.size) : (w.alloc (.cells #[] 3)).ownsRow B 3 1 (.slice (some ⟨w.heap.size, 0, none⟩) 0 0) 0 (iV15 []) :=
  ⟨rfl, .inr ⟨w.heap.size, 0, #[], rfl, hB, World.alloc_heap_new w _, Nat.le_refl _, Nat.zero_le _, rfl, rfl⟩⟩
/-- what reads answers -/
def ReadsAns (w : World) (N : Nat) (B : Nat → Bool) (L : List Int) (way : Int) (r : Ending) (w' : World) : Prop :=
  ∃ v, r = .returned (.tuple #[v, .bool (Pl.canB N B L way)]) ∧ w'.ownsRow w.heap.size 3 1 v (Pl.ansL N B L way).length (iV15 (Pl.ansL N B L way)) ∧ Below w.heap.size w w'
/-- the state between two rounds -/
def At15 (w : World) (N : Nat) (B : Nat → Bool) (L : List Int) (way : Int) (t : Nat) (v : Value) (wr : World) : Prop := wr.ownsRow w.heap.size 3 1 v (Pl.readsT N B L way t).length (iV15 (Pl.readsT N B L way t)) ∧ Below w.heap.size w wr
theorem At15.kept {w wr : World} {N : Nat} {B : Nat → Bool} {L : List Int} {way : Int} {t : Nat} {v : Value} (h : At15 w N B L way t v wr) (hn : Pl.inR N B L way t = false) : At15 w N B L way (t + 1) v wr := by
  unfold At15 at h ⊢; rw [Pl.readsT_no hn]; exact h
theorem At15.grown {w wr w1 : World} {N : Nat} {B : Nat → Bool} {L : List Int} {way : Int} {t : Nat} {v v' : Value} {m : Nat} (h : At15 w N B L way t v wr) (hn : Pl.inR N B L way t = true) (hm : m = (Pl.readsT N B L way t).length)
    (ho : w1.ownsRow w.heap.size 3 1 v' (m + 1) (iV15 (Pl.readsT N B L way t) ++ [.int .i64 (t : Int)])) (hg : (wr.alloc (.cells #[.int .i64 (t : Int)] 3)).grownBy w1 v.ownBlock) : At15 w N B L way (t + 1) v' w1 := by
  unfold At15
  rw [Pl.readsT_yes hn, List.length_append, ← hm]
  exact ⟨by rw [← iV15_snoc]; exact ho, h.2.trans (below_append h.1 h.2.size hg)⟩
theorem reads_end {w wr : World} {N : Nat} {B : Nat → Bool} {L : List Int} {way : Int} {v : Value} (h : At15 w N B L way (N + 2) v wr) (hc : Pl.canB N B L way = true) : ReadsAns w N B L way (.returned (.tuple #[v, .bool true])) wr :=
  ⟨v, by rw [hc], by unfold Pl.ansL; rw [hc]; exact h.1, h.2⟩
theorem reads_not {w wr : World} {N : Nat} {B : Nat → Bool} {L : List Int} {way : Int} (hb : Below w.heap.size w wr) (hc : Pl.canB N B L way = false) : ReadsAns w N B L way (.returned (.tuple #[.slice none 0 0, .bool false])) wr :=
  ⟨.slice none 0 0, by rw [hc], by unfold Pl.ansL; rw [hc]; exact World.ownsRow_nil _ _ _ _, hb⟩
end Go.Proofs.YtlkbdhejfmljlaaDoor
