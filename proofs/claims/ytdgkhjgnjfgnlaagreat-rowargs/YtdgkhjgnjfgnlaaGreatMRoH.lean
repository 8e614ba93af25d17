/- Several texts in one. Rows of sectors, plainly: which set may be, where a role stands, which columns are missing. The document's own sets of drives: a set's cells; the walk of column. -/
import Derived.Test.YtdgkhjgnjfgnlaaGreatMLayC
import Derived.Test.YtdgkhjgnjfgnlaaGreatDrvMath
import Derived.Test.YtdgkhjgnjfgnlaaGreatMKitA
import Derived.Test.YtdgkhjgnjfgnlaaGreatMRef7
import Derived.Deep.RegionHeld3
import Derived.Deep.LoopGhost
namespace Go.Proofs.YtdgkhjgnjfgnlaaGreat
namespace Ro

/-- a column's drive: none, or one that lies at a block, told by a plain drive -/
abbrev Col := Option (Nat × Dr)
def ptr : Col → Value
  | none => .pointer none
  | some x => .pointer (some ⟨x.1, 0, none⟩)
def fitB (need : Nat) : Col → Bool
  | none => true
  | some x => decide (need ≤ x.2.n)
section
variable (c k r dn bn : Nat) (C : Nat → Col) (bf : Nat → Int)
def mayB : Bool := decide (dn = c) && (decide (bn = c) && (List.range dn).all fun i => fitB (4 + r * k) (C i))
/-- a row, and a place in a column -/
def inB (row off : Int) : Bool := decide (0 ≤ row) && (decide (row < (r : Int)) && (decide (0 ≤ off) && decide (off < (k : Int))))
def chk (row off : Int) : Nat := if mayB c k r dn bn C then (if inB k r row off then 0 else 70) else 1
/-- a role's column -/
def colN (row role : Nat) : Nat := (role + (c - row % c) + 1) % c
/-- whether a column is missing in a row -/
def missB (row : Int) (i : Nat) : Bool := match C i with
  | none => true
  | some x => x.2.dead || decide (bf i ≤ row)
end
theorem colN_lt {c row role : Nat} (h : 0 < c) : colN c row role < c := Nat.mod_lt _ h
end Ro
end Go.Proofs.YtdgkhjgnjfgnlaaGreat

namespace Go.Proofs.YtdgkhjgnjfgnlaaGreat
open Go.RowKit
attribute [local go_sem] Oper.semAt_some

/-- a set's five cells, and what was there stays -/
def At5 (w : World) (b : Nat) (c k r : Nat) (vD vB : Value) (W : World) : Prop :=
  W.cell? ⟨b, 0, none⟩ = some (.int .i64 (c : Int)) ∧ W.cell? ⟨b, 1, none⟩ = some (.int .i64 (k : Int)) ∧ W.cell? ⟨b, 2, none⟩ = some (.int .i64 (r : Int)) ∧ W.cell? ⟨b, 3, none⟩ = some vD ∧ W.cell? ⟨b, 4, none⟩ = some vB ∧ Below w.heap.size w W
theorem At5.new (w : World) (c k r : Nat) (vD vB : Value) (t : TypeId) : At5 w w.heap.size c k r vD vB (w.alloc (.cells #[.int .i64 (c : Int), .int .i64 (k : Int), .int .i64 (r : Int), vD, vB] t)) :=
  ⟨World.cell?_alloc_mark w _ t (0, 0) 0, World.cell?_alloc_mark w _ t (0, 0) 1, World.cell?_alloc_mark w _ t (0, 0) 2, World.cell?_alloc_mark w _ t (0, 0) 3, World.cell?_alloc_mark w _ t (0, 0) 4, (Below.refl _ _).alloc (Nat.le_refl _) _⟩
theorem At5.kept {w W W' : World} {b c k r : Nat} {vD vB : Value} (h : At5 w b c k r vD vB W) (hb : Below W.heap.size W W') : At5 w b c k r vD vB W' := by
  obtain ⟨h0, h1, h2, h3, h4, h5⟩ := h
  have hl := World.block_lt_of_cell? W _ h0
  exact ⟨(hb.cell (p := ⟨b, 0, none⟩) hl).trans h0, (hb.cell (p := ⟨b, 1, none⟩) hl).trans h1, (hb.cell (p := ⟨b, 2, none⟩) hl).trans h2, (hb.cell (p := ⟨b, 3, none⟩) hl).trans h3, (hb.cell (p := ⟨b, 4, none⟩) hl).trans h4, h5.trans (hb.mono h5.size)⟩
section
variable {c k r : Nat} {da ba : Option Addr} {dn dcap bn bcap : Nat} {C : Nat → Ro.Col} {bf : Nat → Int}

end
end Go.Proofs.YtdgkhjgnjfgnlaaGreat
