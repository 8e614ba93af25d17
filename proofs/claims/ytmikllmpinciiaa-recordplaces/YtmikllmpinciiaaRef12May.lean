/- The walks of the document's own May, and of places. -/
import Derived.Test.YtmikllmpinciiaaRecKit
import Derived.Deep.LoopGhost
import Derived.BigQuiet
namespace Go.Proofs.Ytmikllmpinciiaa
open Go.RowKit

end Go.Proofs.Ytmikllmpinciiaa
