/- Rows of bytes that the call has made, told by a function of the place. -/
import Derived.Test.YtjephdeolifbpaaKitTexts
import Derived.Test.YtjephdeolifbpaaSynMath
namespace Go.Proofs.Ytjephdeolifbpaa
open Go.RowKit

/-- the bytes B 0 to B (n - 1) -/
def bl (n : Nat) (B : Nat → UInt8) : List UInt8 := (List.range n).map B
theorem bl_length (n : Nat) (B : Nat → UInt8) : (bl n B).length = n := by simp [bl]
theorem bl_zero (B : Nat → UInt8) : bl 0 B = [] := rfl
theorem bl_snoc (n : Nat) (B : Nat → UInt8) : bl n B ++ [B n] = bl (n + 1) B := by simp [bl, List.range_succ]
theorem bl_congr {n : Nat} {B C : Nat → UInt8} (h : ∀ j, j < n → B j = C j) : bl n B = bl n C := List.map_congr_left fun j hj => h j (List.mem_range.1 hj)
theorem bl_at {n j : Nat} (B : Nat → UInt8) (h : j < n) : (byteVals (bl n B))[j]? = some (.int .u8 ((B j).toNat : Int)) := by simp [byteVals, bl, h]
theorem byteVals_bl_length (n : Nat) (B : Nat → UInt8) : (byteVals (bl n B)).length = n := by rw [byteVals_length, bl_length]
theorem bl_set (n k : Nat) (B : Nat → UInt8) (v : UInt8) : (byteVals (bl n B)).set k (.int .u8 (v.toNat : Int)) = byteVals (bl n (Gfm.upd B k v)) := by
  refine List.ext_getElem? fun j => ?_
  rw [List.getElem?_set, byteVals_bl_length]
  by_cases h : k = j
  · subst h
    rw [if_pos rfl]
    by_cases hn : k < n
    · rw [if_pos hn, bl_at _ hn, Gfm.upd_same]
    · rw [if_neg hn, List.getElem?_eq_none (by rw [byteVals_bl_length]; omega)]
  · rw [if_neg h]
    by_cases hn : j < n
    · rw [bl_at _ hn, bl_at _ hn, Gfm.upd_other _ _ (Ne.symm h)]
    · rw [List.getElem?_eq_none (by rw [byteVals_bl_length]; omega), List.getElem?_eq_none (by rw [byteVals_bl_length]; omega)]
/-- the cells of a row of bytes, all that a reader asks -/
def RowB (w : World) (g n : Nat) (B : Nat → UInt8) : Prop := ∀ j, j < n → w.cell? ⟨g, j, none⟩ = some (.int .u8 ((B j).toNat : Int))
theorem RowB.of_owns {w : World} {base t g n c : Nat} {B : Nat → UInt8} (h : w.ownsRow base t 1 (.slice (some ⟨g, 0, none⟩) n c) n (byteVals (bl n B))) : RowB w g n B := fun j hj => by
  rw [h.cellAt j (by omega)]; exact bl_at B hj
theorem RowB.below {w w' : World} {g n : Nat} {B : Nat → UInt8} (h : RowB w g n B) (hb : Below w.heap.size w w') : RowB w' g n B := fun j hj =>
  (hb.cell (p := ⟨g, j, none⟩) (World.block_lt_of_cell? w _ (h j hj))).trans (h j hj)
end Go.Proofs.Ytjephdeolifbpaa
