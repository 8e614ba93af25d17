/- The program's drives as things among many. -/
import Derived.Test.YtlcoibfpebggoaaGreatDoorMKitB
import Derived.Test.YtlcoibfpebggoaaGreatDoorMDrvC
namespace Go.Proofs.YtlcoibfpebggoaaGreatDoor
open Go.RowKit

/-- the program's drive at p, told by D -/
def drvT (p : Nat) (D : Dr) : Thing := ⟨fun w F => DriveAt w p D F, fun h hg hn => h.only hg hn, fun h hs => h.mono hs, fun h => h.tight⟩
end Go.Proofs.YtlcoibfpebggoaaGreatDoor
