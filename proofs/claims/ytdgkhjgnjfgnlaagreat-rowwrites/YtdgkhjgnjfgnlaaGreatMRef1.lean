/- Several texts in one. The walks of the document's own answers for gf: products, texts times a number, texts added. The walks of the document's own powers of a number, and of 2. -/
import Derived.Test.YtdgkhjgnjfgnlaaGreatMGfA
namespace Go.Proofs.YtdgkhjgnjfgnlaaGreat
open Go.RowKit

namespace Gfm
end Gfm

end Go.Proofs.YtdgkhjgnjfgnlaaGreat

namespace Go.Proofs.YtdgkhjgnjfgnlaaGreat
open Go.RowKit

namespace Gfm
end Gfm

end Go.Proofs.YtdgkhjgnjfgnlaaGreat
