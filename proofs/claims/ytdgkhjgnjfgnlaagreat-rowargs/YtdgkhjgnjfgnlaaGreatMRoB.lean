/- Several texts in one. The document's own sets of drives: the walk of Read. The document's own sets of drives: Read, of whatever row, as a reader has its answer; the walk of Lost. -/
import Derived.Test.YtdgkhjgnjfgnlaaGreatMRoA
import Derived.Test.YtdgkhjgnjfgnlaaGreatKitTexts
import Derived.Test.YtdgkhjgnjfgnlaaGreatKitStr
namespace Go.Proofs.YtdgkhjgnjfgnlaaGreat
open Go.RowKit
attribute [local go_sem] Oper.semAt_some

namespace Ro
section
variable (c k r dn bn : Nat) (C : Nat → Col) (bf : Nat → Int) (row off : Int)
/-- what is read of a role's column -/
def oneX (q : Nat) : ByteArray := if missB C bf row (colN c row.toNat q) then ⟨#[]⟩ else match C (colN c row.toNat q) with
  | none => ⟨#[]⟩
  | some x => txt (x.2.readS (4 + row * k + off))
def oneE (q : Nat) : Nat := if missB C bf row (colN c row.toNat q) then 41 else match C (colN c row.toNat q) with
  | none => 41
  | some x => x.2.readE (4 + row * k + off)
/-- whether some drive's power is gone, of those ahead of t; which roles are lost -/
def offT (t : Nat) : Bool := (List.range t).any fun q => oneE c k C bf row off q == 42
def lostT (t : Nat) : List Int := ((List.range t).filter fun q => oneE c k C bf row off q != 0).map fun q => ((q : Nat) : Int)
def readE : Nat := if chk c k r dn bn C row off = 0 then (if offT c k C bf row off c then 42 else 0) else chk c k r dn bn C row off
def readN : Nat := if readE c k r dn bn C bf row off = 0 then c else 0
def readL : List Int := if readE c k r dn bn C bf row off = 0 then lostT c k C bf row off c else []
end
section
variable {c k : Nat} {C : Nat → Col} {bf : Nat → Int} {row off : Int}
theorem lostT_len (t : Nat) : (lostT c k C bf row off t).length ≤ t := by
  unfold lostT
  rw [List.length_map]
  have := List.length_filter_le (fun q => oneE c k C bf row off q != 0) (List.range t)
  rwa [List.length_range] at this
end
end Ro
def iVs (l : List Int) : List Value := l.map (Value.int .i64)
theorem iVs_snoc (l : List Int) (x : Int) : iVs (l ++ [x]) = iVs l ++ [.int .i64 x] := by simp [iVs]
/-- a row of texts, and one of numbers, of the call's own -/
def Txt16 (w : World) (B n : Nat) (f : Nat → ByteArray) (v : Value) : Prop := w.ownsRow B 9 1 v n (textVals n f)
def Int16 (w : World) (B : Nat) (l : List Int) (v : Value) : Prop := w.ownsRow B 3 1 v l.length (iVs l)
theorem At5.low {w W W' : World} {b c k r B : Nat} {vD vB : Value} (h : At5 w b c k r vD vB W) (hb : Below B W W') (hB : b < B) (hw : w.heap.size ≤ B) : At5 w b c k r vD vB W' :=
  ⟨(hb.cell (p := ⟨b, 0, none⟩) hB).trans h.1, (hb.cell (p := ⟨b, 1, none⟩) hB).trans h.2.1, (hb.cell (p := ⟨b, 2, none⟩) hB).trans h.2.2.1, (hb.cell (p := ⟨b, 3, none⟩) hB).trans h.2.2.2.1, (hb.cell (p := ⟨b, 4, none⟩) hB).trans h.2.2.2.2.1, h.2.2.2.2.2.trans (hb.mono hw)⟩
theorem row_low16 {w : World} {B B' t s n : Nat} {v : Value} {l : List Value} (h : w.ownsRow B t s v n l) (hB : B' ≤ B) : w.ownsRow B' t s v n l :=
  ⟨h.1, h.2.imp id fun ⟨g, cap, cur, e, hg, r⟩ => ⟨g, cap, cur, e, Nat.le_trans hB hg, r⟩⟩
/-- what Read answers -/
def RdAns (w : World) (E n : Nat) (f : Nat → ByteArray) (l : List Int) (e : Ending) (w' : World) : Prop :=
  (∃ vl vi, e = .returned (.tuple #[vl, vi, .int .i64 (E : Int)]) ∧ Txt16 w' w.heap.size n f vl ∧ Int16 w' w.heap.size l vi) ∧ Below w.heap.size w w'
/-- .. of a row that is one, of a set that may be -/
def RdYes (w : World) (c : Nat) (gone : Bool) (f : Nat → ByteArray) (l : List Int) (e : Ending) (w' : World) : Prop := RdAns w (if gone then 42 else 0) (if gone then 0 else c) f (if gone then [] else l) e w'
section
variable {c k r : Nat} {da ba : Option Addr} {dn dcap bn bcap : Nat} {C : Nat → Ro.Col} {bf : Nat → Int}

/-- what stands while a row is read: the set's cells, what was read, which were lost -/
structure Rd16 (w : World) (c k r : Nat) (vD vB : Value) (t : Nat) (f : Nat → ByteArray) (vt : Value) (l : List Int) (vi : Value) (W : World) : Prop where
  at5 : At5 w w.heap.size c k r vD vB W
  txt : Txt16 W (w.heap.size + 1) t f vt
  int : Int16 W (w.heap.size + 1) l vi
theorem Rd16.lt {w W : World} {t : Nat} {f : Nat → ByteArray} {vt vi vD vB : Value} {l : List Int} (h : Rd16 w c k r vD vB t f vt l vi W) : w.heap.size < W.heap.size := World.block_lt_of_cell? W _ h.at5.1
theorem Rd16.kept {w W W' : World} {t : Nat} {f : Nat → ByteArray} {vt vi vD vB : Value} {l : List Int} (h : Rd16 w c k r vD vB t f vt l vi W) (hb : Below W.heap.size W W') : Rd16 w c k r vD vB t f vt l vi W' :=
  ⟨h.at5.kept hb, ownsRow_below h.txt hb, ownsRow_below h.int hb⟩
/-- one role is lost more -/
theorem Rd16.more {w W w1 : World} {t n : Nat} {f : Nat → ByteArray} {vt vi vD vB v' : Value} {l : List Int} {x : Int} (h : Rd16 w c k r vD vB t f vt l vi W) (hn : n = l.length)
    (ho : w1.ownsRow (w.heap.size + 1) 3 1 v' (n + 1) (iVs l ++ [.int .i64 x])) (hg : (W.alloc (.cells #[.int .i64 x] 3)).grownBy w1 vi.ownBlock) : Rd16 w c k r vD vB t f vt (l ++ [x]) v' w1 := by
  have hba := below_append h.int h.lt hg
  refine ⟨h.at5.low hba (Nat.lt_succ_self _) (Nat.le_succ _), ownsRow_across h.txt h.int (by decide) hg, ?_⟩
  unfold Int16
  rw [List.length_append, ← hn, iVs_snoc]
  exact ho
/-- one text more is read -/
theorem Rd16.read {w W w1 : World} {t : Nat} {f : Nat → ByteArray} {vt vi vD vB v' : Value} {l : List Int} (h : Rd16 w c k r vD vB t f vt l vi W)
    (ho : w1.ownsRow (w.heap.size + 1) 9 1 v' (t + 1) (textVals t f ++ [.string (f t)])) (hg : (W.alloc (.cells #[.string (f t)] 9)).grownBy w1 vt.ownBlock) : Rd16 w c k r vD vB (t + 1) f v' l vi w1 := by
  have hba := below_append h.txt h.lt hg
  refine ⟨h.at5.low hba (Nat.lt_succ_self _) (Nat.le_succ _), ?_, ownsRow_across h.int h.txt (by decide) hg⟩
  unfold Txt16
  rw [← textVals_snoc]
  exact ho

end
end Go.Proofs.YtdgkhjgnjfgnlaaGreat

namespace Go.Proofs.YtdgkhjgnjfgnlaaGreat
open Go.RowKit
attribute [local go_sem] Oper.semAt_some

/-- what Read, and Filled, answer, as a reader has it -/
def RdSays (w : World) (E n : Nat) (f : Nat → ByteArray) (l : List Int) (e : Ending) (w' : World) : Prop :=
  (∃ al cl ai ci, e = .returned (.tuple #[.slice al n cl, .slice ai l.length ci, .int .i64 (E : Int)]) ∧ RowS w' al n f ∧ n ≤ cl ∧ RowI .i64 w' ai l.length (fun j => l.getD j 0) ∧ l.length ≤ ci) ∧ Below w.heap.size w w'
section
variable {c k r : Nat} {da ba : Option Addr} {dn dcap bn bcap : Nat} {C : Nat → Ro.Col} {bf : Nat → Int}
theorem Ro.chk_yes {row off : Int} (h : Ro.chk c k r dn bn C row off = 0) : dn = c ∧ bn = c ∧ ((0 ≤ row ∧ row < (r : Int)) ∧ 0 ≤ off ∧ off < (k : Int)) ∧ ∀ i, i < c → Ro.fitB (4 + r * k) (C i) = true := by
  unfold Ro.chk at h
  split at h
  · rename_i hm
    split at h
    · rename_i hi
      unfold Ro.mayB at hm
      unfold Ro.inB at hi
      simp only [Bool.and_eq_true, decide_eq_true_eq, List.all_eq_true] at hm hi
      obtain ⟨h1, h2, h3⟩ := hm
      exact ⟨h1, h2, ⟨⟨hi.1, hi.2.1⟩, hi.2.2.1, hi.2.2.2⟩, fun i hi => h3 i (List.mem_range.2 (by omega))⟩
    · cases h
  · cases h

end
end Go.Proofs.YtdgkhjgnjfgnlaaGreat
