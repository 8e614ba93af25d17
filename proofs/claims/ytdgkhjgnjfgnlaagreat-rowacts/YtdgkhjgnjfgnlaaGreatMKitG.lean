import Derived.Test.YtdgkhjgnjfgnlaaGreatMKitB
import Derived.Test.YtdgkhjgnjfgnlaaGreatMRefB
import Derived.Test.YtdgkhjgnjfgnlaaGreatMDrvC
namespace Go.Proofs.YtdgkhjgnjfgnlaaGreat
open Go.RowKit
def refT (rp : Nat) (R : Dr) : Thing := ⟨fun w G => RefAt w rp R G, fun h hg hn => h.only hg hn, fun h hs => h.mono hs, fun h => h.tight⟩
end Go.Proofs.YtdgkhjgnjfgnlaaGreat
namespace Go.Proofs.YtdgkhjgnjfgnlaaGreat
open Go.RowKit
def drvT (p : Nat) (D : Dr) : Thing := ⟨fun w F => DriveAt w p D F, fun h hg hn => h.only hg hn, fun h hs => h.mono hs, fun h => h.tight⟩
end Go.Proofs.YtdgkhjgnjfgnlaaGreat
