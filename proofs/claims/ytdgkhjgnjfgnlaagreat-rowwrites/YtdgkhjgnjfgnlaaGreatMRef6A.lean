/- Several texts in one. The walks of the document's own May, and of what it asks. The walk of the document's own May. -/
import Derived.Test.YtdgkhjgnjfgnlaaGreatMGfA
import Derived.Test.YtdgkhjgnjfgnlaaGreatMSynA
import Derived.Test.YtdgkhjgnjfgnlaaGreatMKitD
import Derived.Test.YtdgkhjgnjfgnlaaGreatMKitA
import Derived.Deep.LoopGhost
namespace Go.Proofs.YtdgkhjgnjfgnlaaGreat
open Go.RowKit

end Go.Proofs.YtdgkhjgnjfgnlaaGreat

namespace Go.Proofs.YtdgkhjgnjfgnlaaGreat
open Go.RowKit

theorem run_slice_ints (a : Option Addr) (len cap N : Nat) (h : N ≤ cap) (W : World) :
    (Instr.slice 28 (.slice a len cap) none (some (.int .i64 (N : Nat))) none).run Tryz.prog W = .ok (.slice a N cap) W := by
  rw [run_slice_h W 28 a len cap (by kernel_rfl) .i64 (N : Int) (by omega) (by omega)]
  simp [sliced_to]
  go_simp

end Go.Proofs.YtdgkhjgnjfgnlaaGreat
