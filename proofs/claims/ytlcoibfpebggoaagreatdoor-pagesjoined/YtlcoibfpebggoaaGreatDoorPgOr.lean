/- Eight bytes joined one by one: plain. -/
import Derived.Test.YtlcoibfpebggoaaGreatDoorPgDr
namespace Go.Proofs.YtlcoibfpebggoaaGreatDoor
namespace Pg
/-- the first k bytes are joined -/
def orK (a b : List UInt8) (k : Nat) : List UInt8 := (orL a b).take k ++ a.drop k
theorem orK_zero (a b : List UInt8) : orK a b 0 = a := by simp [orK]
theorem orK_all {a b : List UInt8} (ha : a.length = 8) (hb : b.length = 8) : orK a b 8 = orL a b := by
  unfold orK
  rw [List.take_of_length_le (by rw [orL_length ha hb]; exact Nat.le_refl _), List.drop_of_length_le (by omega), List.append_nil]
theorem orK_length {a b : List UInt8} (ha : a.length = 8) (hb : b.length = 8) {k : Nat} (hk : k ≤ 8) : (orK a b k).length = 8 := by
  unfold orK
  rw [List.length_append, List.length_take, List.length_drop, orL_length ha hb, ha]; omega
theorem orK_at {a b : List UInt8} (ha : a.length = 8) (hb : b.length = 8) {k : Nat} (hk : k < 8) : (orK a b k).getD k 0 = a.getD k 0 := by
  unfold orK
  have hl : ((orL a b).take k).length = k := by rw [List.length_take, orL_length ha hb]; omega
  rw [List.getD_eq_getElem?_getD, List.getElem?_append_right (by omega), hl, Nat.sub_self, List.getElem?_drop, Nat.add_zero, List.getD_eq_getElem?_getD]
theorem orK_next {a b : List UInt8} (ha : a.length = 8) (hb : b.length = 8) {k : Nat} (hk : k < 8) : (orK a b k).set k (a.getD k 0 ||| b.getD k 0) = orK a b (k + 1) := by
  unfold orK
  have hl : ((orL a b).take k).length = k := by rw [List.length_take, orL_length ha hb]; omega
  have hx : (orL a b)[k]'(by rw [orL_length ha hb]; exact hk) = a.getD k 0 ||| b.getD k 0 := by
    unfold orL
    rw [List.getElem_zipWith, List.getD_eq_getElem?_getD, List.getD_eq_getElem?_getD, List.getElem?_eq_getElem (by omega), List.getElem?_eq_getElem (by omega)]
    rfl
  rw [List.set_append_right _ _ (by omega), hl, Nat.sub_self, List.drop_eq_getElem_cons (by omega : k < a.length), List.set_cons_zero, ← hx, List.take_succ_eq_append_getElem (by rw [orL_length ha hb]; exact hk), List.append_assoc]
  rfl
theorem or_u8 (x y : UInt8) : (x ||| y).toNat = x.toNat ||| y.toNat := UInt8.toNat_or x y
theorem ofInt_u8 (x : UInt8) : (BitVec.ofInt 8 (x.toNat : Int)).toNat = x.toNat := by
  have := x.toNat_lt
  rw [BitVec.toNat_ofInt]; omega
theorem u8_or (x y : UInt8) : Go.bits .or .u8 (x.toNat : Int) (y.toNat : Int) = (((x ||| y).toNat : Nat) : Int) := by
  have e : (BitVec.ofInt 8 (x.toNat : Int) ||| BitVec.ofInt 8 (y.toNat : Int)).toNat = (x ||| y).toNat := by rw [BitVec.toNat_or, ofInt_u8, ofInt_u8, or_u8]
  have h := (x ||| y).toNat_lt
  show IntKind.u8.wrap ((BitVec.ofInt 8 (x.toNat : Int) ||| BitVec.ofInt 8 (y.toNat : Int)).toNat : Int) = _
  rw [e, IntKind.wrap_u8]
  omega
end Pg
end Go.Proofs.YtlcoibfpebggoaaGreatDoor
