/- Rows of parts, as a reader asks for them. -/
import Derived.Test.YtmikllmpinciiaaDoorRecMath
import Derived.Test.YtmikllmpinciiaaDoorKitMem
namespace Go.Proofs.YtmikllmpinciiaaDoor
open Go.RowKit

/-- where a part lies -/
structure PartAt (w : World) (b o : Nat) (x : Prt) : Prop where
  c0 : w.cell? ⟨b, o, none⟩ = some (.int .i64 x.col)
  c1 : w.cell? ⟨b, o + 1, none⟩ = some (.int .i64 x.off)
  c2 : w.cell? ⟨b, o + 2, none⟩ = some (.string x.data)
/-- a row of n parts -/
def PartsR (w : World) (a : Option Addr) (n : Nat) (f : Nat → Prt) : Prop := ∀ j, j < n → ∃ b off, a = some ⟨b, off, none⟩ ∧ PartAt w b (off + j * 3) (f j)
theorem PartAt.lt {w : World} {b o : Nat} {x : Prt} (h : PartAt w b o x) : b < w.heap.size := World.block_lt_of_cell? w _ h.c0
theorem PartAt.below {w w' : World} {b o : Nat} {x : Prt} {B : Nat} (h : PartAt w b o x) (hb : Below B w w') (hB : b < B) : PartAt w' b o x :=
  ⟨(hb.cell (p := ⟨b, o, none⟩) hB).trans h.c0, (hb.cell (p := ⟨b, o + 1, none⟩) hB).trans h.c1, (hb.cell (p := ⟨b, o + 2, none⟩) hB).trans h.c2⟩
theorem PartsR.below {w w' : World} {a : Option Addr} {n : Nat} {f : Nat → Prt} (h : PartsR w a n f) (hb : Below w.heap.size w w') : PartsR w' a n f := fun j hj => by
  obtain ⟨b, off, ha, hp⟩ := h j hj
  exact ⟨b, off, ha, hp.below hb hp.lt⟩
theorem PartsR.congr {w : World} {a : Option Addr} {n : Nat} {f g : Nat → Prt} (h : PartsR w a n f) (e : ∀ j, j < n → f j = g j) : PartsR w a n g := fun j hj => by
  obtain ⟨b, off, ha, hp⟩ := h j hj
  exact ⟨b, off, ha, e j hj ▸ hp⟩
theorem PartsR.nil (w : World) (a : Option Addr) (f : Nat → Prt) : PartsR w a 0 f := fun _ h => absurd h (Nat.not_lt_zero _)
/-- a row is nil, or it leads to one block -/
theorem PartsR.head {w : World} {a : Option Addr} {n : Nat} {f : Nat → Prt} (h : PartsR w a n f) (hn : 0 < n) : ∃ b off, a = some ⟨b, off, none⟩ ∧ ∀ j, j < n → PartAt w b (off + j * 3) (f j) := by
  obtain ⟨b, off, ha, _⟩ := h 0 hn
  refine ⟨b, off, ha, fun j hj => ?_⟩
  obtain ⟨b', off', ha', hp⟩ := h j hj
  rw [ha] at ha'; cases ha'; exact hp
/-- what is asked of the numbers of a record that came in -/
structure RecIn (row : Int) (n : Nat) (f : Nat → Prt) : Prop where
  hrow : -9223372036854775808 ≤ row ∧ row ≤ 9223372036854775807
  hlen : n ≤ 9223372036854775807
  hcol : ∀ j, j < n → -9223372036854775808 ≤ (f j).col ∧ (f j).col ≤ 9223372036854775807
  hoff : ∀ j, j < n → -9223372036854775808 ≤ (f j).off ∧ (f j).off ≤ 9223372036854775807
/-- the cells of a block that a call has made, as they are behind one more -/
theorem box_cell {w w1 : World} {cs : Array Value} {t : TypeId} (h : Below (w.alloc (.cells cs t)).heap.size (w.alloc (.cells cs t)) w1) (j : Nat) : w1.cell? ⟨w.heap.size, j, none⟩ = cs[j]? :=
  (h.cell (p := ⟨w.heap.size, j, none⟩) (by simp)).trans (World.cell?_alloc_mark w cs t (0, 0) j)
theorem box_below {w w1 : World} {o : Obj} (h : Below (w.alloc o).heap.size (w.alloc o) w1) : Below w.heap.size w w1 := ((Below.refl _ w).alloc (Nat.le_refl _) _).trans (h.mono (by simp))
end Go.Proofs.YtmikllmpinciiaaDoor
