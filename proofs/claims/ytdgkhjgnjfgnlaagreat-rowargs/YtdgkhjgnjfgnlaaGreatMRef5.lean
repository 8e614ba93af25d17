/- Several texts in one. The walks of the document's own answers for syndrome. The walks of the document's own Same and Make. -/
import Derived.Test.YtdgkhjgnjfgnlaaGreatMSynB
import Derived.Test.YtdgkhjgnjfgnlaaGreatMRef1
import Derived.Deep.RegionHeld3
import Derived.Test.YtdgkhjgnjfgnlaaGreatMRef6A
namespace Go.Proofs.YtdgkhjgnjfgnlaaGreat
open Go.RowKit

end Go.Proofs.YtdgkhjgnjfgnlaaGreat

namespace Go.Proofs.YtdgkhjgnjfgnlaaGreat
open Go.RowKit

namespace Rf
def sameT : Nat → (Nat → ByteArray) → (Nat → ByteArray) → Bool
  | 0, _, _ => true
  | n + 1, f, g => sameT n f g && decide (f n = g n)
def sameB (n : Nat) (f : Nat → ByteArray) (m : Nat) (g : Nat → ByteArray) : Bool := decide (n = m) && sameT n f g
end Rf

end Go.Proofs.YtdgkhjgnjfgnlaaGreat
