/- Several texts in one. The walks of the document's own sums of a row's bytes, and of its bytes at a place. The walk of the document's own filling of a row's bytes at one place. The walk of the document's own Fill. -/
import Derived.Test.YtdgkhjgnjfgnlaaGreatMRef6A
import Derived.Test.YtdgkhjgnjfgnlaaGreatMRfA
import Derived.Test.YtdgkhjgnjfgnlaaGreatMRfB
import Derived.Test.YtdgkhjgnjfgnlaaGreatMKitF
import Derived.Test.YtdgkhjgnjfgnlaaGreatMRef1
import Derived.Test.YtdgkhjgnjfgnlaaGreatMRef5
import Derived.Test.YtdgkhjgnjfgnlaaGreatMKitD
namespace Go.Proofs.YtdgkhjgnjfgnlaaGreat
open Go.RowKit

end Go.Proofs.YtdgkhjgnjfgnlaaGreat

namespace Go.Proofs.YtdgkhjgnjfgnlaaGreat
open Go.RowKit

/-- places as a slice's cells -/
def placeVals (l : List Nat) : List Value := l.map fun d : Nat => Value.int .i64 (d : Int)
def dataLen (m k : Nat) (L : Nat → Int) : Nat := (Rf.lostD m k L).length

end Go.Proofs.YtdgkhjgnjfgnlaaGreat

namespace Go.Proofs.YtdgkhjgnjfgnlaaGreat
open Go.RowKit

end Go.Proofs.YtdgkhjgnjfgnlaaGreat
