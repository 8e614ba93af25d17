/- The walk of the document's own answer for crc: opening. -/
import Derived.Test.YtmikllmpinciiaaCrcOpen
import Derived.Test.YtmikllmpinciiaaRef02
namespace Go.Proofs.Ytmikllmpinciiaa
open Go.RowKit

end Go.Proofs.Ytmikllmpinciiaa
