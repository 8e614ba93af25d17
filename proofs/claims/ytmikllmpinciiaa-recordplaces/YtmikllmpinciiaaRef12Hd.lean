/- The walk of the document's own Head of a record. -/
import Derived.Test.YtmikllmpinciiaaRef12Enc
import Derived.Test.YtmikllmpinciiaaRecRow
import Derived.Test.YtmikllmpinciiaaKitDet
namespace Go.Proofs.Ytmikllmpinciiaa
open Go.RowKit

namespace Rc
theorem num_size {t : ByteArray} (h : t.size = 60) : (t.extract 4 19).size = 15 := by rw [ByteArray.size_extract, h]; rfl
theorem num_lt {t : ByteArray} (h : t.size = 60) (i : Nat) (hi : i < 4) : numT t i < 256 ^ Pk.wd ws i := by
  have hl : (t.extract 4 19).data.toList.length = Pk.offs ws ws.length := by rw [Pg.list_size, num_size h]; rfl
  unfold numT
  rw [Pk.dec_at ws_ok hl hi]
  exact Pk.num_lt _ _ _
theorem num_bounds {t : ByteArray} (h : t.size = 60) : numT t 0 < 18446744073709551616 ∧ numT t 1 < 65536 ∧ numT t 2 < 256 ∧ numT t 3 < 4294967296 :=
  ⟨num_lt h 0 (by decide), num_lt h 1 (by decide), num_lt h 2 (by decide), num_lt h 3 (by decide)⟩
theorem headE_short {b : ByteArray} (h : b.size ≠ 64) : headE b = 31 := if_pos h
theorem headE_sum {b : ByteArray} (h : b.size = 64) (ho : Crc.opens b.data.toList = false) : headE b = 80 := by unfold headE; rw [if_neg (fun x => x h), ho]; rfl
theorem headE_magic {b : ByteArray} (h : b.size = 64) (ho : Crc.opens b.data.toList = true) (hf : (Crc.headB b).extract 0 4 ≠ magicB) : headE b = 81 := by unfold headE; rw [if_neg (fun x => x h), ho, cond_true, if_pos hf]
theorem headE_many {b : ByteArray} (h : b.size = 64) (ho : Crc.opens b.data.toList = true) (hf : (Crc.headB b).extract 0 4 = magicB) (hm : 40 < numT (Crc.headB b) 2) : headE b = 1 := by unfold headE; rw [if_neg (fun x => x h), ho, cond_true, if_neg (fun x => x hf), if_pos hm]
theorem headE_rest {b : ByteArray} (h : b.size = 64) (ho : Crc.opens b.data.toList = true) (hf : (Crc.headB b).extract 0 4 = magicB) (hm : ¬ 40 < numT (Crc.headB b) 2) : headE b = bif placesB (numT (Crc.headB b) 1) (numT (Crc.headB b) 2) (partT (Crc.headB b)) && decide (headS (numT (Crc.headB b) 0) (numT (Crc.headB b) 1) (numT (Crc.headB b) 2) (partT (Crc.headB b)) (numT (Crc.headB b) 3) = b) then 0 else 1 := by
  unfold headE; rw [if_neg (fun x => x h), ho, cond_true, if_neg (fun x => x hf), if_neg hm]
end Rc
/-- what Head answers -/
def HeadAns (w : World) (b : ByteArray) (e : Ending) (w' : World) : Prop :=
  ∃ a cap, e = .returned (.tuple #[.agg #[.int .u64 (Rc.hSeq b : Int), .int .i64 (Rc.hRow b : Int), .slice a (Rc.hN b) cap], .int .u32 (Rc.hSum b : Int), .int .i64 (Rc.headE b : Int)]) ∧ PartsR w' a (Rc.hN b) (Rc.hPart b) ∧ Below w.heap.size w w'
/-- no record -/
def noRec : Value := .agg #[.int .u64 0, .int .i64 0, .slice none 0 0]
theorem head_bad {w w' : World} {b : ByteArray} {n : Nat} (h : Rc.headE b = n) (hn : n ≠ 0) (hb : Below w.heap.size w w') : HeadAns w b (.returned (.tuple #[noRec, .int .u32 0, .int .i64 (n : Int)])) w' := by
  have e : ¬ Rc.headE b = 0 := by rw [h]; exact hn
  refine ⟨none, 0, ?_, ?_, hb⟩
  · unfold Rc.hSeq Rc.hRow Rc.hN Rc.hSum
    rw [if_neg e, if_neg e, if_neg e, if_neg e, h]; rfl
  · unfold Rc.hN; rw [if_neg e]; exact PartsR.nil _ _ _
theorem Rc.magic_list : Rc.magicB.toList = [82, 86, 84, 74] := by rw [ByteArray.toList_eq]; rfl
theorem cell_same12 {w w' : World} {b : Nat} (h : w'.heap[b]? = w.heap[b]?) (j : Nat) : w'.cell? ⟨b, j, none⟩ = w.cell? ⟨b, j, none⟩ ∧ w'.frozen? ⟨b, j, none⟩ = w.frozen? ⟨b, j, none⟩ := by
  unfold World.cell? World.frozen?
  dsimp only
  rw [h]
  exact ⟨rfl, rfl⟩
/-- what a region of Head holds on to -/
def KeepH (wr : World) (rb : Nat) (c0 c1 c2 : Value) (b1 o1 : Nat) (c3 : Value) (W : World) : Prop :=
  W.cell? ⟨rb, 0, none⟩ = some c0 ∧ W.cell? ⟨rb, 1, none⟩ = some c1 ∧ W.cell? ⟨rb, 2, none⟩ = some c2 ∧ W.cell? ⟨b1, o1, none⟩ = some c3 ∧ Below wr.heap.size wr W
theorem KeepH.drew {wr : World} {rb : Nat} {c0 c1 c2 : Value} {b1 o1 : Nat} {c3 : Value} {W : World} (h : KeepH wr rb c0 c1 c2 b1 o1 c3 W) : KeepH wr rb c0 c1 c2 b1 o1 c3 W.drew := ⟨h.1, h.2.1, h.2.2.1, h.2.2.2.1, h.2.2.2.2.drew⟩
theorem KeepH.det {P : Program} {f : FuncId} {args : Array Value} {v : Value} {wr : World} {rb : Nat} {c0 c1 c2 : Value} {b1 o1 : Nat} {c3 : Value} {W : World} (h : Calls P f args W fun e w' => e = .returned v ∧ Below W.heap.size W w') (hW : KeepH wr rb c0 c1 c2 b1 o1 c3 W) :
    Calls P f args W fun e w' => e = .returned v ∧ KeepH wr rb c0 c1 c2 b1 o1 c3 w' :=
  h.mono fun _ _ ⟨e, hb⟩ => by
    have hl := World.block_lt_of_cell? W _ hW.1
    have hl1 := World.block_lt_of_cell? W _ hW.2.2.2.1
    exact ⟨e, (hb.cell (p := ⟨rb, 0, none⟩) hl).trans hW.1, (hb.cell (p := ⟨rb, 1, none⟩) hl).trans hW.2.1, (hb.cell (p := ⟨rb, 2, none⟩) hl).trans hW.2.2.1, (hb.cell (p := ⟨b1, o1, none⟩) hl1).trans hW.2.2.2.1, hW.2.2.2.2.trans (hb.mono hW.2.2.2.2.size)⟩
end Go.Proofs.Ytmikllmpinciiaa
