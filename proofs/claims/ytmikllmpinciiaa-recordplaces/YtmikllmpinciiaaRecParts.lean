/- The walks of the statements' own parts and theirs. -/
import Derived.Test.YtmikllmpinciiaaRecRow
import Derived.Test.YtmikllmpinciiaaRecFull
import Derived.OwnWalk
import Derived.Deep.Cut
namespace Go.Proofs.Ytmikllmpinciiaa
open Go.RowKit

end Go.Proofs.Ytmikllmpinciiaa
