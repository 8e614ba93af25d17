/- The walks of the document's own answers for pack. -/
import Derived.Test.YtmikllmpinciiaaPackEnc
import Derived.Test.YtmikllmpinciiaaPackDec
import Derived.RegionTactic
import Derived.ChangeAlike
import Derived.BigRegion
import Derived.BigQuiet
import Derived.Deep.QuietTactic
import Derived.Deep.RegionHeld3
namespace Go.Proofs.Ytmikllmpinciiaa
open Go.RowKit

theorem Pk.shr_step (N k : Nat) : ((N / 256 ^ k : Nat) : Int) / 256 = ((N / 256 ^ (k + 1) : Nat) : Int) := by
  rw [Nat.pow_succ, ← Nat.div_div_eq_div_mul]; simp
theorem Pk.fits_dec (N k : Nat) (h : Pk.may k = true) : (((N / 256 ^ k : Nat) : Int) == 0) = Pk.fits N k := by
  rw [← Pk.shr_nat]; exact Pk.shr_zero N k h

end Go.Proofs.Ytmikllmpinciiaa
