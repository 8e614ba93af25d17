/- Several texts in one. The document's own sets of drives, as a reader has them: the walks of missing, May and check. The document's own sets of drives: the walks of May and check. -/
import Derived.Test.YtdgkhjgnjfgnlaaGreatMRoH
import Derived.Test.YtdgkhjgnjfgnlaaGreatRefPw
import Derived.BigQuiet
namespace Go.Proofs.YtdgkhjgnjfgnlaaGreat
open Go.RowKit
attribute [local go_sem] Oper.semAt_some

/-- a row of pointers to drives -/
def RowP (w : World) (a : Option Addr) (n : Nat) (C : Nat → Ro.Col) : Prop := ∀ j, j < n → ∃ b off, a = some ⟨b, off, none⟩ ∧ w.cell? ⟨b, off + j, none⟩ = some (Ro.ptr (C j))
theorem RowP.below {w w' : World} {a : Option Addr} {n : Nat} {C : Nat → Ro.Col} (h : RowP w a n C) (hb : Below w.heap.size w w') : RowP w' a n C := fun j hj => by
  obtain ⟨b, off, e, hc⟩ := h j hj
  exact ⟨b, off, e, (hb.cell (p := ⟨b, off + j, none⟩) (World.block_lt_of_cell? w _ hc)).trans hc⟩
/-- the document's own set, as a reader has it -/
structure RefSet (w : World) (da : Option Addr) (dn : Nat) (ba : Option Addr) (bn : Nat) (C : Nat → Ro.Col) (bf : Nat → Int) : Prop where
  row : RowP w da dn C
  built : RowI .i64 w ba bn bf
  drv : ∀ i p D, i < dn → C i = some (p, D) → ∃ G, RefAt w p D G
theorem RefSet.below {w w' : World} {da : Option Addr} {dn : Nat} {ba : Option Addr} {bn : Nat} {C : Nat → Ro.Col} {bf : Nat → Int} (h : RefSet w da dn ba bn C bf) (hb : Below w.heap.size w w') : RefSet w' da dn ba bn C bf :=
  ⟨h.row.below hb, h.built.below hb, fun i p D hi e => by obtain ⟨G, hG⟩ := h.drv i p D hi e; exact ⟨G, hG.below hb⟩⟩
section
variable {c k r : Nat} {da ba : Option Addr} {dn dcap bn bcap : Nat} {C : Nat → Ro.Col} {bf : Nat → Int}

end
end Go.Proofs.YtdgkhjgnjfgnlaaGreat

namespace Go.Proofs.YtdgkhjgnjfgnlaaGreat
open Go.RowKit
attribute [local go_sem] Oper.semAt_some

theorem At5.drewN {w W : World} {b c k r : Nat} {vD vB : Value} (h : At5 w b c k r vD vB W) (q : Nat) : At5 w b c k r vD vB (W.drewN q) := ⟨h.1, h.2.1, h.2.2.1, h.2.2.2.1, h.2.2.2.2.1, below_drewN h.2.2.2.2.2 q⟩

section
variable {c k r : Nat} {da ba : Option Addr} {dn dcap bn bcap : Nat} {C : Nat → Ro.Col} {bf : Nat → Int}

end
end Go.Proofs.YtdgkhjgnjfgnlaaGreat
