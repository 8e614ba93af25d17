/- Several texts in one. The walks of the document's own layout: Parity, Column, Role, Find, Back, Sector. The walks of the document's own layout: Back, Role. -/
import Derived.Test.YtdgkhjgnjfgnlaaGreatMLayC
namespace Go.Proofs.YtdgkhjgnjfgnlaaGreat
open Go.RowKit

end Go.Proofs.YtdgkhjgnjfgnlaaGreat

namespace Go.Proofs.YtdgkhjgnjfgnlaaGreat
open Go.RowKit

end Go.Proofs.YtdgkhjgnjfgnlaaGreat
