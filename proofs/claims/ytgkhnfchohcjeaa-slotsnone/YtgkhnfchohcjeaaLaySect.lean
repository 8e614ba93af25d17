/- The walk of a shape's sector: which sector stands at a place. -/
import Derived.Test.YtgkhnfchohcjeaaLayWalk
import Derived.Laws.StructEq
import Derived.Laws.Cover2
namespace Go.Proofs.Ytgkhnfchohcjeaa
open Go.RowKit

/-- two blocks of three cells, under 'what lay below is as it was' -/
theorem det_shapes {P : Program} {f : FuncId} {args : Array Value} {v : Value} {wr W : World} {b b' B : Nat} {c k r x y z : Int} (hB : B ≤ wr.heap.size) (h : Calls P f args W fun e w' => e = .returned v ∧ Below W.heap.size W w')
    (hW : (W.cell? ⟨b, 0, none⟩ = some (.int .i64 c) ∧ W.cell? ⟨b, 1, none⟩ = some (.int .i64 k) ∧ W.cell? ⟨b, 2, none⟩ = some (.int .i64 r)) ∧ (W.cell? ⟨b', 0, none⟩ = some (.int .i64 x) ∧ W.cell? ⟨b', 1, none⟩ = some (.int .i64 y) ∧ W.cell? ⟨b', 2, none⟩ = some (.int .i64 z)) ∧ Below B wr W) :
    Calls P f args W fun e w' => e = .returned v ∧ (w'.cell? ⟨b, 0, none⟩ = some (.int .i64 c) ∧ w'.cell? ⟨b, 1, none⟩ = some (.int .i64 k) ∧ w'.cell? ⟨b, 2, none⟩ = some (.int .i64 r)) ∧ (w'.cell? ⟨b', 0, none⟩ = some (.int .i64 x) ∧ w'.cell? ⟨b', 1, none⟩ = some (.int .i64 y) ∧ w'.cell? ⟨b', 2, none⟩ = some (.int .i64 z)) ∧ Below B wr w' :=
  h.mono fun _ _ ⟨e, hb⟩ => ⟨e, ShpAt.below (show ShpAt W b c k r from hW.1) hb (ShpAt.lt (show ShpAt W b c k r from hW.1)), ShpAt.below (show ShpAt W b' x y z from hW.2.1) hb (ShpAt.lt (show ShpAt W b' x y z from hW.2.1)), hW.2.2.trans (hb.mono (Nat.le_trans hB hW.2.2.size))⟩
theorem det_still {P : Program} {f : FuncId} {args : Array Value} {v : Value} {W : World} {S : World → Prop} (h : Calls P f args W fun e w' => e = .returned v ∧ w' = W) (hW : S W) :
    Calls P f args W fun e w' => e = .returned v ∧ S w' := h.mono fun _ _ ⟨e, hb⟩ => ⟨e, by rw [hb]; exact hW⟩
end Go.Proofs.Ytgkhnfchohcjeaa
