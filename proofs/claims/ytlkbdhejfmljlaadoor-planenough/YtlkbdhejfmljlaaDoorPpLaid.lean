/- Plans: the library's table, as the card ties it to the program's text, is what the walks ask. -/
import Derived.Test.YtlkbdhejfmljlaaDoorPpChoose
import Derived.Test.YtlkbdhejfmljlaaDoorRows
import Derived.LaidMore
import Derived.Lib.LaidTab
namespace Go.Proofs.YtlkbdhejfmljlaaDoor
open Go.RowKit

theorem laid_tail15 {P : Program} {n : String} {d : DataW Unit} {r : List (String × DataW Unit)} {W : World} (h : laidMet P ((n, d) :: r) W) : laidMet P r W := by
  obtain ⟨ps, ⟨g, t, cs, fuel, p, q, e1, e2, e3, e4, hr, rfl⟩, hnd, hrows⟩ := h
  exact ⟨q, hr, hnd.sublist (List.sublist_append_right _ _), fun b off hp => hrows b off (List.mem_append_right _ hp)⟩
theorem gTab15 : Tryd.prog.globalNamed "math/bits.deBruijn64tab" = some 1 := by kernel_rfl
theorem tTab15 : (Tryd.prog.globals[1]?).map (·.type) = some 73 := by kernel_rfl
theorem tz_of_laid {W : World} (h : laidMetH Tryd.prog [("math/bits.deBruijn32tab", Rows.laid_math_bits_deBruijn32tab), ("math/bits.deBruijn64tab", Rows.laid_math_bits_deBruijn64tab)] W) : Tz W := by
  have h2 : laidMetH Tryd.prog [("math/bits.deBruijn32tab", Rows.laid_math_bits_deBruijn32tab), ("math/bits.deBruijn64tab", Lib.tabData .u8 (Lib.deBruijn64tab.map fun (n : Nat) => (n : Int)))] W := h
  rw [MakeChecks.laidMetH_plain _ _ _ (by kernel_rfl)] at h2
  have h3 := Lib.tabIs_of_head gTab15 tTab15 Tryd.underlying73 Tryd.underlying5 (by kernel_rfl) (by kernel_rfl) (laid_tail15 h2)
  intro j hj
  have h4 := h3.cell gTab15 j (by rw [List.length_map]; exact hj)
  rw [h4, natCast_getD]
end Go.Proofs.YtlkbdhejfmljlaaDoor
