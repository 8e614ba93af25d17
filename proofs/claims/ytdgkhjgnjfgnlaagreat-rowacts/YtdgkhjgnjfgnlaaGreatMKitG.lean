/- Several texts in one. The document's own drives as things among many. The program's drives as things among many. -/
import Derived.Test.YtdgkhjgnjfgnlaaGreatMKitB
import Derived.Test.YtdgkhjgnjfgnlaaGreatMRefB
import Derived.Test.YtdgkhjgnjfgnlaaGreatMDrvC
namespace Go.Proofs.YtdgkhjgnjfgnlaaGreat
open Go.RowKit

/-- the document's own drive at rp, told by R -/
def refT (rp : Nat) (R : Dr) : Thing := ⟨fun w G => RefAt w rp R G, fun h hg hn => h.only hg hn, fun h hs => h.mono hs, fun h => h.tight⟩
end Go.Proofs.YtdgkhjgnjfgnlaaGreat

namespace Go.Proofs.YtdgkhjgnjfgnlaaGreat
open Go.RowKit

/-- the program's drive at p, told by D -/
def drvT (p : Nat) (D : Dr) : Thing := ⟨fun w F => DriveAt w p D F, fun h hg hn => h.only hg hn, fun h hs => h.mono hs, fun h => h.tight⟩
end Go.Proofs.YtdgkhjgnjfgnlaaGreat
