/- Several texts in one. The walks of the document's own layout: Parity, Column, Role, Find, Back, Sector. The walks of the document's own layout: Back, Role. -/
import Derived.Test.YtdgkhjgnjfgnlaaGreatMLayC
namespace Go.Proofs.YtdgkhjgnjfgnlaaGreat
open Go.RowKit

set_option maxRecDepth 100000 in
set_option maxHeartbeats 2000000 in
/-- the least columns that an int can be: two less wrap round -/
end Go.Proofs.YtdgkhjgnjfgnlaaGreat

namespace Go.Proofs.YtdgkhjgnjfgnlaaGreat
open Go.RowKit

end Go.Proofs.YtdgkhjgnjfgnlaaGreat
