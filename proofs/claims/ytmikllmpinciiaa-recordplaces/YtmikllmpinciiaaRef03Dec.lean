/- The walk of the document's own answer for pack: unpacking. -/
import Derived.Test.YtmikllmpinciiaaRef03
namespace Go.Proofs.Ytmikllmpinciiaa
open Go.RowKit

/-- the numbers ahead of number i -/
def Pk.decP (s : List UInt8) (ws : List Int) (i : Nat) : List Int := (List.range i).map fun j => ((Pk.num s (Pk.offs ws j) (Pk.wd ws j) : Nat) : Int)
theorem Pk.decP_succ (s : List UInt8) (ws : List Int) (i : Nat) : Pk.decP s ws (i + 1) = Pk.decP s ws i ++ [((Pk.num s (Pk.offs ws i) (Pk.wd ws i) : Nat) : Int)] := by simp [Pk.decP, List.range_succ]

theorem Pk.sh_enc : Pk.encS [1, 515] [1, 2] = ⟨#[1, 3, 2]⟩ := by decide +kernel
theorem Pk.sh_encE : Pk.encE [1, 515] [1, 2] = 0 := by decide +kernel
theorem Pk.sh_fits : Pk.fits 255 1 = true := by decide +kernel

end Go.Proofs.Ytmikllmpinciiaa
