import Derived.Test.YtdgkhjgnjfgnlaaGreatMKitA
import Derived.BigQuiet
import Derived.BigRegion
import Derived.Test.YtdgkhjgnjfgnlaaGreatMRoI
import Derived.Test.YtdgkhjgnjfgnlaaGreatMKitH
import Derived.Test.YtdgkhjgnjfgnlaaGreatMRef5
namespace Go.Proofs.YtdgkhjgnjfgnlaaGreat
open Go.RowKit
attribute [local go_sem] Oper.semAt_some
set_option maxRecDepth 100000 in
set_option maxHeartbeats 1000000 in
theorem same_rows (a b : Option Addr) (n ca cb : Nat) (f : Nat → Int) (hn : n ≤ 1048576) (w : World) (hA : RowI .i64 w a n f) (hB : RowI .i64 w b n f) :
  Calls Tryz.prog 21 #[.slice a n ca, .slice b n cb] w fun e w' => e = .returned (.bool true) ∧ Below w.heap.size w w' := by
 go_enter Tryz.func21, Tryz.ntmps21
 go_wp2
 go_loopw [5] (fun i wr => ∃ k : Nat, k ≤ n ∧ i = .int .i64 k ∧ Below w.heap.size w wr) (fun i _ => n - (intOf i).toNat)
 case atStart => exact ⟨0, Nat.zero_le _, rfl, Below.refl _ w⟩
 case round =>
  obtain ⟨k, hk, rfl, hb⟩ := hrel
  have HB : Hid (Below w.heap.size w wr) := hb
  by_cases hlt : k < n
  ·obtain ⟨b1, o1, rfl, d1⟩ := (hA.below hb) k hlt
   obtain ⟨b2, o2, rfl, d2⟩ := (hB.below hb) k hlt
   obtain ⟨x, hx⟩ : ∃ x, x = f k := ⟨_, rfl⟩
   rw [← hx] at d1 d2
   have Ha : Hid (RowI .i64 w (some ⟨b1, o1, none⟩) n f) := hA
   have Hb : Hid (RowI .i64 w (some ⟨b2, o2, none⟩) n f) := hB
   clear hx hA hB hb
   go_wp2
   go_quiet (fail)
   go_wp2
   go_roundw
   case rel => exact ⟨k + 1, by omega, by go_num, below_drewN HB.out _⟩
   case measure => simp [intOf]; omega
  ·have hkk : k = n := by omega
   clear hb
   go_wp2
   go_ret
   exact ⟨rfl, HB.out⟩
end Go.Proofs.YtdgkhjgnjfgnlaaGreat
namespace Go.Proofs.YtdgkhjgnjfgnlaaGreat.rowActs
open Go.RowKit
attribute [local go_sem] Oper.semAt_some
section
variable {c k r : Nat} (hok : Lay.ok (c : Int) (k : Int) (r : Int)) {C D : Nat → Ro.Col} (hal : Ro.Alike C D) (row off role : Int) (f : Nat → Int)
include hok hal
theorem read_both : ∃ (E N : Nat) (F : Nat → ByteArray) (L : List Int), N ≤ 10 ∧ L.length ≤ 10 ∧ ∀ (V : World) (B aP cP aQ cQ aR cR aS cS : Nat) (l : List Thing), St16 V B c (.slice (some ⟨aP, 0, none⟩) c cP) (.slice (some ⟨aQ, 0, none⟩) c cQ) (.slice (some ⟨aR, 0, none⟩) c cR) (.slice (some ⟨aS, 0, none⟩) c cS) C D f f l →
  Calls Tryz.prog 12 #[.agg #[.int .i64 (c : Int), .int .i64 (k : Int), .int .i64 (r : Int), .slice (some ⟨aP, 0, none⟩) c cP, .slice (some ⟨aQ, 0, none⟩) c cQ], .int .i64 row, .int .i64 off] V (RdSays V E N F L) ∧ Calls Tryz.prog 13 #[.agg #[.int .i64 (c : Int), .int .i64 (k : Int), .int .i64 (r : Int), .slice (some ⟨aR, 0, none⟩) c cR, .slice (some ⟨aS, 0, none⟩) c cS], .int .i64 row, .int .i64 off] V (RdSays V E N F L) := by
 have hc10 : c ≤ 10 := by have := hok.1; omega
 refine ⟨Ro.readE c k r c c C f row off, Ro.readN c k r c c C f row off, Ro.oneX c k C f row off, Ro.readL c k r c c C f row off, ?_, Nat.le_trans (Ro.readL_len row off) hc10, fun V B aP cP aQ cQ aR cR aS cS l hV => ⟨pRead16_any hok (by omega) row off V hV.pr.set, ?_⟩⟩
 ·unfold Ro.readN; split <;> omega
 ·rw [Ro.readE_al hal, Ro.readN_al hal, Ro.oneX_al2 hal, Ro.readL_al hal]
  exact rRead16_any hok (by omega) row off V hV.ref.set
theorem filled_both : ∃ (E : Int) (N : Nat) (F : Nat → ByteArray) (L : List Int), N ≤ 10 ∧ L.length ≤ 10 ∧ ∀ (V : World) (B aP cP aQ cQ aR cR aS cS : Nat) (l : List Thing), St16 V B c (.slice (some ⟨aP, 0, none⟩) c cP) (.slice (some ⟨aQ, 0, none⟩) c cQ) (.slice (some ⟨aR, 0, none⟩) c cR) (.slice (some ⟨aS, 0, none⟩) c cS) C D f f l →
  Calls Tryz.prog 14 #[.agg #[.int .i64 (c : Int), .int .i64 (k : Int), .int .i64 (r : Int), .slice (some ⟨aP, 0, none⟩) c cP, .slice (some ⟨aQ, 0, none⟩) c cQ], .int .i64 row, .int .i64 off] V (FdSays V E N F L) ∧ Calls Tryz.prog 15 #[.agg #[.int .i64 (c : Int), .int .i64 (k : Int), .int .i64 (r : Int), .slice (some ⟨aR, 0, none⟩) c cR, .slice (some ⟨aS, 0, none⟩) c cS], .int .i64 row, .int .i64 off] V (FdSays V E N F L) := by
 have hc10 : c ≤ 10 := by have := hok.1; omega
 refine ⟨Ro.filledE c k r c c C f row off, Ro.filledN c k r c c C f row off, Ro.filledF c k r c c C f row off, Ro.filledL c k r c c C f row off, ?_, ?_, fun V B aP cP aQ cQ aR cR aS cS l hV => ⟨pFilled16_any hok (by omega) row off V hV.pr.set, ?_⟩⟩
 ·unfold Ro.filledN; split <;> omega
 ·unfold Ro.filledL
  split
  ·exact Nat.le_trans (Ro.readL_len row off) hc10
  ·exact Nat.zero_le _
 ·rw [Ro.filledE_al hal, Ro.filledN_al hal, Ro.filledF_al hal, Ro.filledL_al hal]
  exact rFilled16_any hok (by omega) row off V hV.ref.set
theorem sector_both : ∃ (E : Int) (X : ByteArray), ∀ (V : World) (B aP cP aQ cQ aR cR aS cS : Nat) (l : List Thing), St16 V B c (.slice (some ⟨aP, 0, none⟩) c cP) (.slice (some ⟨aQ, 0, none⟩) c cQ) (.slice (some ⟨aR, 0, none⟩) c cR) (.slice (some ⟨aS, 0, none⟩) c cS) C D f f l →
  Calls Tryz.prog 16 #[.agg #[.int .i64 (c : Int), .int .i64 (k : Int), .int .i64 (r : Int), .slice (some ⟨aP, 0, none⟩) c cP, .slice (some ⟨aQ, 0, none⟩) c cQ], .int .i64 row, .int .i64 off, .int .i64 role] V (fun e w' => e = .returned (.tuple #[.string X, .int .i64 E]) ∧ Below V.heap.size V w') ∧ Calls Tryz.prog 17 #[.agg #[.int .i64 (c : Int), .int .i64 (k : Int), .int .i64 (r : Int), .slice (some ⟨aR, 0, none⟩) c cR, .slice (some ⟨aS, 0, none⟩) c cS], .int .i64 row, .int .i64 off, .int .i64 role] V (fun e w' => e = .returned (.tuple #[.string X, .int .i64 E]) ∧ Below V.heap.size V w') := by
 have hc10 : c ≤ 10 := by have := hok.1; omega
 refine ⟨Ro.secE c k r c c C f row off role, Ro.secX c k r c c C f row off role, fun V B aP cP aQ cQ aR cR aS cS l hV => ⟨pSector16_any hok (by omega) row off role V hV.pr.set, ?_⟩⟩
 rw [Ro.secE_al hal, Ro.secX_al hal]
 exact rSector16_any hok (by omega) row off role V hV.ref.set
theorem lost_both : ∃ (E : Nat) (L : List Int), L.length ≤ 10 ∧ ∀ (V : World) (B aP cP aQ cQ aR cR aS cS : Nat) (l : List Thing), St16 V B c (.slice (some ⟨aP, 0, none⟩) c cP) (.slice (some ⟨aQ, 0, none⟩) c cQ) (.slice (some ⟨aR, 0, none⟩) c cR) (.slice (some ⟨aS, 0, none⟩) c cS) C D f f l →
  Calls Tryz.prog 18 #[.agg #[.int .i64 (c : Int), .int .i64 (k : Int), .int .i64 (r : Int), .slice (some ⟨aP, 0, none⟩) c cP, .slice (some ⟨aQ, 0, none⟩) c cQ], .int .i64 row] V (LsAns V E L) ∧ Calls Tryz.prog 19 #[.agg #[.int .i64 (c : Int), .int .i64 (k : Int), .int .i64 (r : Int), .slice (some ⟨aR, 0, none⟩) c cR, .slice (some ⟨aS, 0, none⟩) c cS], .int .i64 row] V (LsAns V E L) := by
 have hc10 : c ≤ 10 := by have := hok.1; omega
 refine ⟨Ro.lostE c k r c c C row, Ro.lostL c k r c c C f row, ?_, fun V B aP cP aQ cQ aR cR aS cS l hV => ⟨pLost16_any hok (by omega) row V hV.pr.set, ?_⟩⟩
 ·unfold Ro.lostL
  split
  ·exact Nat.le_trans (Ro.missT_len _) hc10
  ·exact Nat.zero_le _
 ·rw [Ro.lostE_al hal, Ro.lostL_al hal]
  exact rLost16_any hok (by omega) row V hV.ref.set
theorem may_both : ∃ (b : Bool), ∀ (V : World) (B aP cP aQ cQ aR cR aS cS : Nat) (l : List Thing), St16 V B c (.slice (some ⟨aP, 0, none⟩) c cP) (.slice (some ⟨aQ, 0, none⟩) c cQ) (.slice (some ⟨aR, 0, none⟩) c cR) (.slice (some ⟨aS, 0, none⟩) c cS) C D f f l →
  Calls Tryz.prog 22 #[.agg #[.int .i64 (c : Int), .int .i64 (k : Int), .int .i64 (r : Int), .slice (some ⟨aP, 0, none⟩) c cP, .slice (some ⟨aQ, 0, none⟩) c cQ]] V (fun e w' => e = .returned (.bool b) ∧ Below V.heap.size V w') ∧ Calls Tryz.prog 23 #[.agg #[.int .i64 (c : Int), .int .i64 (k : Int), .int .i64 (r : Int), .slice (some ⟨aR, 0, none⟩) c cR, .slice (some ⟨aS, 0, none⟩) c cS]] V (fun e w' => e = .returned (.bool b) ∧ Below V.heap.size V w') := by
 have hc10 : c ≤ 10 := by have := hok.1; omega
 refine ⟨Ro.mayB c k r c c C, fun V B aP cP aQ cQ aR cR aS cS l hV => ⟨may16_any hok (by omega) V hV.pr.set, ?_⟩⟩
 rw [Ro.mayB_al hal]
 exact rMay16 hok (by omega) V hV.ref.set
end
theorem ActAt16.below {w w' : World} {b o : Nat} {x : Act16} (h : ActAt16 w b o x) (hb : Below w.heap.size w w') : ActAt16 w' b o x := by
 have hl : b < w.heap.size := World.block_lt_of_cell? _ _ h.c0
 exact ⟨(hb.cell hl).trans h.c0, (hb.cell hl).trans h.c1, (hb.cell hl).trans h.c2, (hb.cell hl).trans h.c3, (hb.cell hl).trans h.c4, (hb.cell hl).trans h.c5, h.kind, h.row, h.off, h.role, h.col, h.s⟩
def bx2 (b c k r aP cP aQ cQ aR cR aS cS : Nat) : List Thing := [blkT b 30 #[.int .i64 (c : Int), .int .i64 (k : Int), .int .i64 (r : Int), .slice (some ⟨aP, 0, none⟩) c cP, .slice (some ⟨aQ, 0, none⟩) c cQ], blkT (b + 1) 33 #[.int .i64 (c : Int), .int .i64 (k : Int), .int .i64 (r : Int), .slice (some ⟨aR, 0, none⟩) c cR, .slice (some ⟨aS, 0, none⟩) c cS]]
def bx3 (b c k r aP cP aQ cQ aR cR aS cS a : Nat) (kd row off role : Int) (col : Nat) (s : ByteArray) : List Thing := bx2 b c k r aP cP aQ cQ aR cR aS cS ++ [blkT a 38 #[.int .i64 kd, .int .i64 row, .int .i64 off, .int .i64 role, .int .u8 (col : Int), .string s]]
end Go.Proofs.YtdgkhjgnjfgnlaaGreat.rowActs
