/- The walks of the document's own answers for crc: sums, sealing, opening. -/
import Derived.Test.YtmikllmpinciiaaCrcSeal
import Derived.RegionTactic
import Derived.ChangeAlike
import Derived.BigRegion
import Derived.Deep.RegionHeld3
namespace Go.Proofs.Ytmikllmpinciiaa
open Go.RowKit

theorem pad_snoc (l : List UInt8) (k : Nat) : (l ++ List.replicate k 0) ++ [0] = l ++ List.replicate (k + 1) (0 : UInt8) := by
  rw [List.append_assoc, List.replicate_succ']

end Go.Proofs.Ytmikllmpinciiaa
