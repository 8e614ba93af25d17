import Derived.Test.YtdgkhjgnjfgnlaaGreatMKitA
import Derived.SliceStrings
namespace Go.Proofs.YtdgkhjgnjfgnlaaGreat
open Go.RowKit
def IsStrs (w : World) (a : Option Addr) (len cap : Nat) (ss : List ByteArray) : Prop :=
 (a = none ∧ len = 0 ∧ cap = 0 ∧ ss = []) ∨
 ∃ x, a = some x ∧ len ≤ cap ∧ cap ≤ maxLen ∧ ss.length = cap ∧ (∀ i, i < ss.length → w.cell? (x.add i) = some (.string (ss.getD i ByteArray.empty))) ∧ ∀ s ∈ ss, s.size ≤ maxLen
def RowS (w : World) (a : Option Addr) (n : Nat) (f : Nat → ByteArray) : Prop :=
 ∀ j, j < n → ∃ b off, a = some ⟨b, off, none⟩ ∧ w.cell? ⟨b, off + j, none⟩ = some (.string (f j))
theorem IsStrs.row {w : World} {a : Option Addr} {len cap : Nat} {ss : List ByteArray} (h : IsStrs w a len cap ss) : ∃ l : List ByteArray, l.length = len ∧ len ≤ maxLen ∧ (∀ j, (l.getD j ByteArray.empty).size ≤ maxLen) ∧ RowS w a l.length (fun j => l.getD j ByteArray.empty) := by
 rcases h with ⟨_, rfl, _, rfl⟩ | ⟨⟨b, off, spot⟩, rfl, hl, hm, hz, hc, hs⟩
 ·exact ⟨[], rfl, Nat.zero_le _, fun j => by simp, fun j hj => absurd hj (Nat.not_lt_zero _)⟩
 ·have hlen : (ss.take len).length = len := by rw [List.length_take]; omega
  refine ⟨ss.take len, hlen, by omega, fun j => ?_, fun j hj => ?_⟩
  ·rw [List.getD_eq_getElem?_getD]
   cases e : (ss.take len)[j]? with
   | none => simp
   | some x => exact hs x (List.mem_of_mem_take (List.mem_of_getElem? e))
  ·rw [hlen] at hj
   have h0 := World.cell?_spot (hc 0 (by omega))
   have hsp : spot = none := by simpa [Addr.add] using h0
   subst hsp
   refine ⟨b, off, rfl, ?_⟩
   have hadd : (⟨b, off, none⟩ : Addr).add j = ⟨b, off + j, none⟩ := by unfold Addr.add; split <;> simp_all
   have e : (ss.take len).getD j ByteArray.empty = ss.getD j ByteArray.empty := by simp [List.getD_eq_getElem?_getD, hj]
   rw [← hadd]; show w.cell? _ = some (.string ((ss.take len).getD j ByteArray.empty)); rw [e]; exact hc j (by omega)
theorem RowS.below {w w' : World} {a : Option Addr} {n : Nat} {f : Nat → ByteArray} (h : RowS w a n f) (hb : Below w.heap.size w w') : RowS w' a n f := by
 intro j hj
 obtain ⟨b, off, ha, hc⟩ := h j hj
 exact ⟨b, off, ha, (hb.cell (p := ⟨b, off + j, none⟩) (World.block_lt_of_cell? w _ hc)).trans hc⟩
end Go.Proofs.YtdgkhjgnjfgnlaaGreat
