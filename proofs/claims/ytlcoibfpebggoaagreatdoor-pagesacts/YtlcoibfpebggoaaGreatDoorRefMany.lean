/- The document's own drives as things among many. -/
import Derived.Test.YtlcoibfpebggoaaGreatDoorMKitB
import Derived.Test.YtlcoibfpebggoaaGreatDoorMRefB
namespace Go.Proofs.YtlcoibfpebggoaaGreatDoor
open Go.RowKit

/-- the document's own drive at rp, told by R -/
def refT (rp : Nat) (R : Dr) : Thing := ⟨fun w G => RefAt w rp R G, fun h hg hn => h.only hg hn, fun h hs => h.mono hs, fun h => h.tight⟩
end Go.Proofs.YtlcoibfpebggoaaGreatDoor
