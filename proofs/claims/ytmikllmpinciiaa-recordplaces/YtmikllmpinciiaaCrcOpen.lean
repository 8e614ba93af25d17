/- The walks of crc: opening. -/
import Derived.Test.YtmikllmpinciiaaCrcSeal
import Derived.RegionTactic
import Derived.ChangeAlike
import Derived.BigRegion
import Derived.Deep.RegionHeld3
namespace Go.Proofs.Ytmikllmpinciiaa
open Go.RowKit

theorem opens_iff (s : ByteArray) (h : 4 ≤ s.size) (k : Nat) (hk : k = s.size - 4) : ((s.extract k s.size).toList == Crc.fourL (Crc.more 0 (s.data.toList.take k))) = Crc.opens s.data.toList := by
  have hl : s.data.toList.length = s.size := by simp
  unfold Crc.opens
  rw [hl, ← hk, decide_eq_true h, Bool.true_and]
  have e : (s.extract k s.size).toList = s.data.toList.drop k := by
    rw [ByteArray.toList_eq, ByteArray.data_extract, Array.toList_extract, List.extract_eq_take_drop]
    exact List.take_of_length_le (by rw [List.length_drop, hl]; omega)
  rw [e]

end Go.Proofs.Ytmikllmpinciiaa
