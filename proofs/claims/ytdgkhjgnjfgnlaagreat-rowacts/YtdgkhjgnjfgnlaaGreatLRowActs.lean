import Derived.Test.YtdgkhjgnjfgnlaaGreatMRowC
import Derived.Test.YtdgkhjgnjfgnlaaGreatMKitD
import Derived.Deep.LoopGhost
import Derived.ProofKit
import Derived.OpenShut
import Derived.ShutString
import Derived.Below
import Derived.ChangeOld
namespace Go.Proofs.YtdgkhjgnjfgnlaaGreat.rowActs
open Go.ChangeShapes Go.WideShapes Go.ChangeAt Go.RowKit
open Go.ChangeMaps (open_string shut_string)
attribute [local go_sem] Oper.semAt_some
set_option maxRecDepth 100000 in
set_option maxHeartbeats 32000000 in
theorem walk_light (x y z c k r : Nat) (hok : Lay.ok (c : Int) (k : Int) (r : Int)) (hg : ∀ W, Calls Tryz.prog 10 #[.int .u8 (x : Int), .int .u8 (y : Int), .int .u8 (z : Int)] W fun e w' => e = .returned (.agg #[.int .i64 (c : Int), .int .i64 (k : Int), .int .i64 (r : Int)]) ∧ Below W.heap.size W w')
  (fewer : Bool) (a : Option Addr) (n cap : Nat) (F : Nat → Act16) (w : World) (hA : 0 < n → ∃ b off, a = some ⟨b, off, none⟩ ∧ ∀ j, j < n → ActAt16 w b (off + j * 6) (F j))
  (hh : Calls Tryz.prog 7 #[.slice a n cap] w fun e w' => w' = w ∧ (e = .returned (.bool true) ∨ e = .returned (.bool false) ∧ Light16 n F)) :
  Calls Tryz.prog 3 #[.int .u8 (x : Int), .int .u8 (y : Int), .int .u8 (z : Int), .bool fewer, .slice a n cap] w fun e w' => e = .returned (.bool true) ∧ Below w.heap.size w w' := by
 have HSH : Hid (∀ W, Calls Tryz.prog 8 #[] W fun e w' => e = .returned (.bool true) ∧ Below W.heap.size W w') := fun W => shown16_any W
 have HG : Hid (∀ W, Calls Tryz.prog 10 #[.int .u8 (x : Int), .int .u8 (y : Int), .int .u8 (z : Int)] W fun e w' => e = .returned (.agg #[.int .i64 (c : Int), .int .i64 (k : Int), .int .i64 (r : Int)]) ∧ Below W.heap.size W w') := hg
 obtain ⟨nn, hnn⟩ : ∃ nn, nn = if fewer then 4 + r * k - 1 else 4 + r * k := ⟨_, rfl⟩
 have HPA : Hid (∀ W, Calls Tryz.prog 9 #[.agg #[.int .i64 (c : Int), .int .i64 (k : Int), .int .i64 (r : Int)], .bool fewer] W (PairSt W c k r nn)) := fun W => pair16_st c k r hok fewer nn hnn W
 have HA0 : Hid (0 < n → ∃ b off, a = some ⟨b, off, none⟩ ∧ ∀ j, j < n → ActAt16 w b (off + j * 6) (F j)) := hA
 clear hnn hg hA
 go_enter Tryz.func3, Tryz.ntmps3
 go_wp2_with fail
 refine hh.mono ?_
 rintro e w' ⟨h3, he⟩
 have h3' := h3.symm
 subst h3'
 clear h3 hh
 rcases he with rfl | ⟨rfl, hL⟩
 ·go_wp2_with fail
  refine (HSH.out _).mono ?_
  rintro e w1 ⟨rfl, hb⟩
  have HB : Hid (Below w.heap.size w w1) := hb
  clear hb
  go_wp2
  go_ret
  exact ⟨rfl, HB.out⟩
 have HA : Hid ((0 < n → ∃ b off, a = some ⟨b, off, none⟩ ∧ ∀ j, j < n → ActAt16 w b (off + j * 6) (F j)) ∧ Light16 n F) := ⟨HA0.out, hL⟩
 have hn80 : n ≤ 80 := hL.1
 clear hL HA0
 go_wp2_with fail
 refine (HSH.out _).mono ?_
 rintro e wa ⟨rfl, hba⟩
 have BA : Hid (Below w.heap.size w wa) := hba
 clear hba
 go_wp2_with fail
 refine (HG.out _).mono ?_
 rintro e w0 ⟨rfl, hb0⟩
 have B0 : Hid (Below w.heap.size w w0) := BA.out.trans (hb0.mono BA.out.size)
 clear hb0
 go_wp2_with fail
 refine (HPA.out _).mono ?_
 rintro e w1 ⟨aP, cP, aQ, cQ, aR, cR, aS, cS, C, D, rfl, _, _, hfC, hfD, hal, hS, hb1⟩
 have B1 : Hid (Below w.heap.size w w1) := B0.out.trans (hb1.mono B0.out.size)
 have HBB : Hid (w.heap.size ≤ w0.heap.size + 5) := by have := B0.out.size; show _ ≤ _; omega
 have hbx : ST ((w1.alloc (.cells #[.int .i64 (c : Int), .int .i64 (k : Int), .int .i64 (r : Int), .slice (some ⟨aP, 0, none⟩) c cP, .slice (some ⟨aQ, 0, none⟩) c cQ] 30)).alloc (.cells #[.int .i64 (c : Int), .int .i64 (k : Int), .int .i64 (r : Int), .slice (some ⟨aR, 0, none⟩) c cR, .slice (some ⟨aS, 0, none⟩) c cS] 33)) (w0.heap.size + 5) c aP cP aQ cQ aR cR aS cS C D (fun _ => (r : Int)) (bx2 w1.heap.size c k r aP cP aQ cQ aR cR aS cS) := by
  have h := (hS.box 30 #[.int .i64 (c : Int), .int .i64 (k : Int), .int .i64 (r : Int), .slice (some ⟨aP, 0, none⟩) c cP, .slice (some ⟨aQ, 0, none⟩) c cQ]).box 33 #[.int .i64 (c : Int), .int .i64 (k : Int), .int .i64 (r : Int), .slice (some ⟨aR, 0, none⟩) c cR, .slice (some ⟨aS, 0, none⟩) c cS]
  rw [World.size_alloc] at h
  exact h
 have T2 : Hid (ST ((w1.alloc (.cells #[.int .i64 (c : Int), .int .i64 (k : Int), .int .i64 (r : Int), .slice (some ⟨aP, 0, none⟩) c cP, .slice (some ⟨aQ, 0, none⟩) c cQ] 30)).alloc (.cells #[.int .i64 (c : Int), .int .i64 (k : Int), .int .i64 (r : Int), .slice (some ⟨aR, 0, none⟩) c cR, .slice (some ⟨aS, 0, none⟩) c cS] 33)) (w0.heap.size + 5) c aP cP aQ cQ aR cR aS cS C D (fun _ => (r : Int)) (bx2 w1.heap.size c k r aP cP aQ cQ aR cR aS cS)) := hbx
 have B2 : Hid (Below w.heap.size w ((w1.alloc (.cells #[.int .i64 (c : Int), .int .i64 (k : Int), .int .i64 (r : Int), .slice (some ⟨aP, 0, none⟩) c cP, .slice (some ⟨aQ, 0, none⟩) c cQ] 30)).alloc (.cells #[.int .i64 (c : Int), .int .i64 (k : Int), .int .i64 (r : Int), .slice (some ⟨aR, 0, none⟩) c cR, .slice (some ⟨aS, 0, none⟩) c cS] 33))) := (B1.out.alloc B1.out.size _).alloc (Nat.le_trans B1.out.size (by simp)) _
 have HI : Hid (Ro.Alike C D ∧ Few16 C 0 ∧ Few16 D 0) := ⟨hal, hfC, hfD⟩
 clear hfC hfD hal hS hb1 hbx
 go_upto_region 5 with fail
 generalize ((w1.alloc (.cells #[.int .i64 (c : Int), .int .i64 (k : Int), .int .i64 (r : Int), .slice (some ⟨aP, 0, none⟩) c cP, .slice (some ⟨aQ, 0, none⟩) c cQ] 30)).alloc (.cells #[.int .i64 (c : Int), .int .i64 (k : Int), .int .i64 (r : Int), .slice (some ⟨aR, 0, none⟩) c cR, .slice (some ⟨aS, 0, none⟩) c cS] 33)) = w2 at *
 have HS2 : Hid (∀ W E1 E2 g, ST W (w0.heap.size + 5) c aP cP aQ cQ aR cR aS cS E1 E2 g (bx2 w1.heap.size c k r aP cP aQ cQ aR cR aS cS) → W.cell? ⟨w1.heap.size, 0, none⟩ = some (.int .i64 (c : Int)) ∧ W.cell? ⟨w1.heap.size, 1, none⟩ = some (.int .i64 (k : Int)) ∧ W.cell? ⟨w1.heap.size, 2, none⟩ = some (.int .i64 (r : Int)) ∧ W.cell? ⟨w1.heap.size, 3, none⟩ = some (.slice (some ⟨aP, 0, none⟩) c cP) ∧ W.cell? ⟨w1.heap.size, 4, none⟩ = some (.slice (some ⟨aQ, 0, none⟩) c cQ) ∧ W.cell? ⟨w1.heap.size + 1, 0, none⟩ = some (.int .i64 (c : Int)) ∧ W.cell? ⟨w1.heap.size + 1, 1, none⟩ = some (.int .i64 (k : Int)) ∧ W.cell? ⟨w1.heap.size + 1, 2, none⟩ = some (.int .i64 (r : Int)) ∧ W.cell? ⟨w1.heap.size + 1, 3, none⟩ = some (.slice (some ⟨aR, 0, none⟩) c cR) ∧ W.cell? ⟨w1.heap.size + 1, 4, none⟩ = some (.slice (some ⟨aS, 0, none⟩) c cS)) := fun W E1 E2 g hW => ⟨hW.cell (i := 0) rfl 0, hW.cell (i := 0) rfl 1, hW.cell (i := 0) rfl 2, hW.cell (i := 0) rfl 3, hW.cell (i := 0) rfl 4, hW.cell (i := 1) rfl 0, hW.cell (i := 1) rfl 1, hW.cell (i := 1) rfl 2, hW.cell (i := 1) rfl 3, hW.cell (i := 1) rfl 4⟩
 go_loopg [13] n (fun gg s13 wr => ∃ i : Nat, i ≤ n ∧ gg = n - i ∧ s13 = .int .i64 (i : Int) ∧ ∃ C D f, ST wr (w0.heap.size + 5) c aP cP aQ cQ aR cR aS cS C D f (bx2 w1.heap.size c k r aP cP aQ cQ aR cR aS cS) ∧ Ro.Alike C D ∧ Few16 C i ∧ Few16 D i ∧ Below (w0.heap.size + 5) w2 wr)
 case atStart => exact ⟨0, Nat.zero_le _, rfl, rfl, C, D, _, T2.out, HI.out.1, HI.out.2.1, HI.out.2.2, Below.refl _ _⟩
 case round =>
  obtain ⟨i, hi, rfl, rfl, C1, D1, f1, hT, hal, hfC, hfD, hB⟩ := hrel
  have TR : Hid (ST wr (w0.heap.size + 5) c aP cP aQ cQ aR cR aS cS C1 D1 f1 (bx2 w1.heap.size c k r aP cP aQ cQ aR cR aS cS)) := hT
  have BR : Hid (Below (w0.heap.size + 5) w2 wr) := hB
  clear hT hB
  by_cases hlt : i < n
  ·have hii : (i : Int) < (n : Int) := by omega
   obtain ⟨b1, o1, rfl, hact⟩ := HA.out.1 (by omega)
   have hat := ActAt16.below (hact i hlt) (B2.out.trans (BR.out.mono HBB.out))
   have hs100 := HA.out.2.2 i hlt
   obtain ⟨⟨kd, row, off, role, col, s⟩, hx⟩ : ∃ xx, F i = xx := ⟨_, rfl⟩
   rw [hx] at hat hs100
   obtain ⟨t0, t1, t2, t3, t4, t5, wk, wrw, wo, wro, hcol, _⟩ := hat
   have wo2 : (Lit.int .i64 off).wf = true := wo
   have hoff : off ≤ 9223372036854775807 := by have := bounds_i64 wo2; omega
   replace hs100 : s.size ≤ 100 := hs100
   have lA : b1 < wr.heap.size := World.block_lt_of_cell? _ _ t0
   have hbx : ST (wr.alloc (.cells #[.int .i64 kd, .int .i64 row, .int .i64 off, .int .i64 role, .int .u8 (col : Int), .string s] 38)) (w0.heap.size + 5) c aP cP aQ cQ aR cR aS cS C1 D1 f1 (bx3 w1.heap.size c k r aP cP aQ cQ aR cR aS cS wr.heap.size kd row off role col s) := TR.out.box 38 #[.int .i64 kd, .int .i64 row, .int .i64 off, .int .i64 role, .int .u8 (col : Int), .string s]
   have T7 : Hid (ST (wr.alloc (.cells #[.int .i64 kd, .int .i64 row, .int .i64 off, .int .i64 role, .int .u8 (col : Int), .string s] 38)) (w0.heap.size + 5) c aP cP aQ cQ aR cR aS cS C1 D1 f1 (bx3 w1.heap.size c k r aP cP aQ cQ aR cR aS cS wr.heap.size kd row off role col s)) := hbx
   have B7 : Hid (Below (w0.heap.size + 5) wr (wr.alloc (.cells #[.int .i64 kd, .int .i64 row, .int .i64 off, .int .i64 role, .int .u8 (col : Int), .string s] 38))) := (Below.refl _ _).alloc TR.out.size _
   clear hbx hact hx wk wrw wo wro wo2
   go_upto_region 8 with fail
   clear t0 t1 t2 t3 t4 t5 lA
   generalize (wr.alloc (.cells #[.int .i64 kd, .int .i64 row, .int .i64 off, .int .i64 role, .int .u8 (col : Int), .string s] 38)) = w7 at *
   have HS3 : Hid (∀ W E1 E2 g, ST W (w0.heap.size + 5) c aP cP aQ cQ aR cR aS cS E1 E2 g (bx3 w1.heap.size c k r aP cP aQ cQ aR cR aS cS wr.heap.size kd row off role col s) → (W.cell? ⟨w1.heap.size, 0, none⟩ = some (.int .i64 (c : Int)) ∧ W.cell? ⟨w1.heap.size, 1, none⟩ = some (.int .i64 (k : Int)) ∧ W.cell? ⟨w1.heap.size, 2, none⟩ = some (.int .i64 (r : Int)) ∧ W.cell? ⟨w1.heap.size, 3, none⟩ = some (.slice (some ⟨aP, 0, none⟩) c cP) ∧ W.cell? ⟨w1.heap.size, 4, none⟩ = some (.slice (some ⟨aQ, 0, none⟩) c cQ) ∧ W.cell? ⟨w1.heap.size + 1, 0, none⟩ = some (.int .i64 (c : Int)) ∧ W.cell? ⟨w1.heap.size + 1, 1, none⟩ = some (.int .i64 (k : Int)) ∧ W.cell? ⟨w1.heap.size + 1, 2, none⟩ = some (.int .i64 (r : Int)) ∧ W.cell? ⟨w1.heap.size + 1, 3, none⟩ = some (.slice (some ⟨aR, 0, none⟩) c cR) ∧ W.cell? ⟨w1.heap.size + 1, 4, none⟩ = some (.slice (some ⟨aS, 0, none⟩) c cS)) ∧ W.cell? ⟨wr.heap.size, 0, none⟩ = some (.int .i64 kd) ∧ W.cell? ⟨wr.heap.size, 1, none⟩ = some (.int .i64 row) ∧ W.cell? ⟨wr.heap.size, 2, none⟩ = some (.int .i64 off) ∧ W.cell? ⟨wr.heap.size, 3, none⟩ = some (.int .i64 role) ∧ W.cell? ⟨wr.heap.size, 4, none⟩ = some (.int .u8 (col : Int)) ∧ W.cell? ⟨wr.heap.size, 5, none⟩ = some (.string s)) := fun W E1 E2 g hW => ⟨⟨hW.cell (i := 0) rfl 0, hW.cell (i := 0) rfl 1, hW.cell (i := 0) rfl 2, hW.cell (i := 0) rfl 3, hW.cell (i := 0) rfl 4, hW.cell (i := 1) rfl 0, hW.cell (i := 1) rfl 1, hW.cell (i := 1) rfl 2, hW.cell (i := 1) rfl 3, hW.cell (i := 1) rfl 4⟩, hW.cell (i := 2) rfl 0, hW.cell (i := 2) rfl 1, hW.cell (i := 2) rfl 2, hW.cell (i := 2) rfl 3, hW.cell (i := 2) rfl 4, hW.cell (i := 2) rfl 5⟩
   obtain ⟨⟨p0, p1, p2, p3, p4, q0, q1, q2, q3, q4⟩, ⟨a0, a1, a2, a3, a4, a5⟩⟩ := HS3.out _ _ _ _ T7.out
   have lb0 : w1.heap.size < w7.heap.size := World.block_lt_of_cell? _ _ p0
   have lb1 : w1.heap.size + 1 < w7.heap.size := World.block_lt_of_cell? _ _ q0
   have lb2 : wr.heap.size < w7.heap.size := World.block_lt_of_cell? _ _ a0
   go_wp2_with fail
   refine (doesS_any w7 _ c k r i hok T7.out hal hfC hfD (by omega) row off role col hcol s kd hs100 hoff).mono ?_
   rintro e w8 ⟨C2, D2, f2, rfl, hT8, hal2, hfC2, hfD2, hb8⟩
   have T8 : Hid (ST w8 (w0.heap.size + 5) c aP cP aQ cQ aR cR aS cS C2 D2 f2 (bx3 w1.heap.size c k r aP cP aQ cQ aR cR aS cS wr.heap.size kd row off role col s)) := hT8
   have B8 : Hid (Below (w0.heap.size + 5) w2 w8) := (BR.out.trans B7.out).trans hb8
   obtain ⟨E1, N1, F1, L1, hN1, hL1, hR1⟩ := read_both hok hal2 row off f2
   obtain ⟨E2, N2, F2, L2, hN2, hL2, hR2⟩ := filled_both hok hal2 row off f2
   obtain ⟨E3, X3, hR3⟩ := sector_both hok hal2 row off role f2
   obtain ⟨E4, L4, hL4, hR4⟩ := lost_both hok hal2 row f2
   have R1 : Hid (∀ (V : World) (B aP cP aQ cQ aR cR aS cS : Nat) (l : List Thing), St16 V B c (.slice (some ⟨aP, 0, none⟩) c cP) (.slice (some ⟨aQ, 0, none⟩) c cQ) (.slice (some ⟨aR, 0, none⟩) c cR) (.slice (some ⟨aS, 0, none⟩) c cS) C2 D2 f2 f2 l → _) := hR1
   have R2 : Hid (∀ (V : World) (B aP cP aQ cQ aR cR aS cS : Nat) (l : List Thing), St16 V B c (.slice (some ⟨aP, 0, none⟩) c cP) (.slice (some ⟨aQ, 0, none⟩) c cQ) (.slice (some ⟨aR, 0, none⟩) c cR) (.slice (some ⟨aS, 0, none⟩) c cS) C2 D2 f2 f2 l → _) := hR2
   have R3 : Hid (∀ (V : World) (B aP cP aQ cQ aR cR aS cS : Nat) (l : List Thing), St16 V B c (.slice (some ⟨aP, 0, none⟩) c cP) (.slice (some ⟨aQ, 0, none⟩) c cQ) (.slice (some ⟨aR, 0, none⟩) c cR) (.slice (some ⟨aS, 0, none⟩) c cS) C2 D2 f2 f2 l → _) := hR3
   have R4 : Hid (∀ (V : World) (B aP cP aQ cQ aR cR aS cS : Nat) (l : List Thing), St16 V B c (.slice (some ⟨aP, 0, none⟩) c cP) (.slice (some ⟨aQ, 0, none⟩) c cQ) (.slice (some ⟨aR, 0, none⟩) c cR) (.slice (some ⟨aS, 0, none⟩) c cS) C2 D2 f2 f2 l → _) := hR4
   have HAL : Hid (Ro.Alike C2 D2 ∧ Few16 C2 (i + 1) ∧ Few16 D2 (i + 1)) := ⟨hal2, hfC2, hfD2⟩
   clear hT8 hal2 hfC2 hfD2 hb8 hR1 hR2 hR3 hR4 hal hfC hfD hs100 hoff hcol
   clear p0 p1 p2 p3 p4 q0 q1 q2 q3 q4 a0 a1 a2 a3 a4 a5 lb0 lb1 lb2
   obtain ⟨⟨p0, p1, p2, p3, p4, q0, q1, q2, q3, q4⟩, ⟨a0, a1, a2, a3, a4, a5⟩⟩ := HS3.out _ _ _ _ T8.out
   have lb0 : w1.heap.size < w8.heap.size := World.block_lt_of_cell? _ _ p0
   have lb1 : w1.heap.size + 1 < w8.heap.size := World.block_lt_of_cell? _ _ q0
   have lb2 : wr.heap.size < w8.heap.size := World.block_lt_of_cell? _ _ a0
   go_wp2_with fail
   refine (R1.out _ _ _ _ _ _ _ _ _ _ _ T8.out).1.mono ?_
   rintro e w9 ⟨⟨al1, cl1, ai1, ci1, rfl, rs1, _, ri1, _⟩, hb9⟩
   have K1 : Hid (RowS w9 al1 N1 F1 ∧ RowI .i64 w9 ai1 L1.length (fun j => L1.getD j 0)) := ⟨rs1, ri1⟩
   clear rs1 ri1
   have T9 : Hid (ST w9 (w0.heap.size + 5) c aP cP aQ cQ aR cR aS cS C2 D2 f2 (bx3 w1.heap.size c k r aP cP aQ cQ aR cR aS cS wr.heap.size kd row off role col s)) := T8.out.below hb9
   have G9 : Hid (Below w8.heap.size w8 w9) := hb9
   clear hb9
   clear p0 p1 p2 p3 p4 q0 q1 q2 q3 q4 a0 a1 a2 a3 a4 a5 lb0 lb1 lb2
   obtain ⟨⟨p0, p1, p2, p3, p4, q0, q1, q2, q3, q4⟩, ⟨a0, a1, a2, a3, a4, a5⟩⟩ := HS3.out _ _ _ _ T9.out
   have lb0 : w1.heap.size < w9.heap.size := World.block_lt_of_cell? _ _ p0
   have lb1 : w1.heap.size + 1 < w9.heap.size := World.block_lt_of_cell? _ _ q0
   have lb2 : wr.heap.size < w9.heap.size := World.block_lt_of_cell? _ _ a0
   go_wp2_with fail
   refine (R1.out _ _ _ _ _ _ _ _ _ _ _ T9.out).2.mono ?_
   rintro e w10 ⟨⟨al2, cl2, ai2, ci2, rfl, rs2, _, ri2, _⟩, hb10⟩
   have K2 : Hid (RowS w10 al2 N1 F1 ∧ RowI .i64 w10 ai2 L1.length (fun j => L1.getD j 0)) := ⟨rs2, ri2⟩
   clear rs2 ri2
   have T10 : Hid (ST w10 (w0.heap.size + 5) c aP cP aQ cQ aR cR aS cS C2 D2 f2 (bx3 w1.heap.size c k r aP cP aQ cQ aR cR aS cS wr.heap.size kd row off role col s)) := T9.out.below hb10
   have G10 : Hid (Below w9.heap.size w9 w10) := hb10
   clear hb10
   clear p0 p1 p2 p3 p4 q0 q1 q2 q3 q4 a0 a1 a2 a3 a4 a5 lb0 lb1 lb2
   obtain ⟨⟨p0, p1, p2, p3, p4, q0, q1, q2, q3, q4⟩, ⟨a0, a1, a2, a3, a4, a5⟩⟩ := HS3.out _ _ _ _ T10.out
   have lb0 : w1.heap.size < w10.heap.size := World.block_lt_of_cell? _ _ p0
   have lb1 : w1.heap.size + 1 < w10.heap.size := World.block_lt_of_cell? _ _ q0
   have lb2 : wr.heap.size < w10.heap.size := World.block_lt_of_cell? _ _ a0
   go_wp2_with fail
   refine (R2.out _ _ _ _ _ _ _ _ _ _ _ T10.out).1.mono ?_
   rintro e w11 ⟨⟨al3, cl3, ai3, ci3, rfl, rs3, _, ri3, _⟩, hb11⟩
   have K3 : Hid (RowS w11 al3 N2 F2 ∧ RowI .i64 w11 ai3 L2.length (fun j => L2.getD j 0)) := ⟨rs3, ri3⟩
   clear rs3 ri3
   have T11 : Hid (ST w11 (w0.heap.size + 5) c aP cP aQ cQ aR cR aS cS C2 D2 f2 (bx3 w1.heap.size c k r aP cP aQ cQ aR cR aS cS wr.heap.size kd row off role col s)) := T10.out.below hb11
   have G11 : Hid (Below w10.heap.size w10 w11) := hb11
   clear hb11
   clear p0 p1 p2 p3 p4 q0 q1 q2 q3 q4 a0 a1 a2 a3 a4 a5 lb0 lb1 lb2
   obtain ⟨⟨p0, p1, p2, p3, p4, q0, q1, q2, q3, q4⟩, ⟨a0, a1, a2, a3, a4, a5⟩⟩ := HS3.out _ _ _ _ T11.out
   have lb0 : w1.heap.size < w11.heap.size := World.block_lt_of_cell? _ _ p0
   have lb1 : w1.heap.size + 1 < w11.heap.size := World.block_lt_of_cell? _ _ q0
   have lb2 : wr.heap.size < w11.heap.size := World.block_lt_of_cell? _ _ a0
   go_wp2_with fail
   refine (R2.out _ _ _ _ _ _ _ _ _ _ _ T11.out).2.mono ?_
   rintro e w12 ⟨⟨al4, cl4, ai4, ci4, rfl, rs4, _, ri4, _⟩, hb12⟩
   have K4 : Hid (RowS w12 al4 N2 F2 ∧ RowI .i64 w12 ai4 L2.length (fun j => L2.getD j 0)) := ⟨rs4, ri4⟩
   clear rs4 ri4
   have T12 : Hid (ST w12 (w0.heap.size + 5) c aP cP aQ cQ aR cR aS cS C2 D2 f2 (bx3 w1.heap.size c k r aP cP aQ cQ aR cR aS cS wr.heap.size kd row off role col s)) := T11.out.below hb12
   have G12 : Hid (Below w11.heap.size w11 w12) := hb12
   clear hb12
   clear p0 p1 p2 p3 p4 q0 q1 q2 q3 q4 a0 a1 a2 a3 a4 a5 lb0 lb1 lb2
   obtain ⟨⟨p0, p1, p2, p3, p4, q0, q1, q2, q3, q4⟩, ⟨a0, a1, a2, a3, a4, a5⟩⟩ := HS3.out _ _ _ _ T12.out
   have lb0 : w1.heap.size < w12.heap.size := World.block_lt_of_cell? _ _ p0
   have lb1 : w1.heap.size + 1 < w12.heap.size := World.block_lt_of_cell? _ _ q0
   have lb2 : wr.heap.size < w12.heap.size := World.block_lt_of_cell? _ _ a0
   go_wp2_with fail
   refine (R3.out _ _ _ _ _ _ _ _ _ _ _ T12.out).1.mono ?_
   rintro e w13 ⟨rfl, hb13⟩
   have T13 : Hid (ST w13 (w0.heap.size + 5) c aP cP aQ cQ aR cR aS cS C2 D2 f2 (bx3 w1.heap.size c k r aP cP aQ cQ aR cR aS cS wr.heap.size kd row off role col s)) := T12.out.below hb13
   have G13 : Hid (Below w12.heap.size w12 w13) := hb13
   clear hb13
   clear p0 p1 p2 p3 p4 q0 q1 q2 q3 q4 a0 a1 a2 a3 a4 a5 lb0 lb1 lb2
   obtain ⟨⟨p0, p1, p2, p3, p4, q0, q1, q2, q3, q4⟩, ⟨a0, a1, a2, a3, a4, a5⟩⟩ := HS3.out _ _ _ _ T13.out
   have lb0 : w1.heap.size < w13.heap.size := World.block_lt_of_cell? _ _ p0
   have lb1 : w1.heap.size + 1 < w13.heap.size := World.block_lt_of_cell? _ _ q0
   have lb2 : wr.heap.size < w13.heap.size := World.block_lt_of_cell? _ _ a0
   go_wp2_with fail
   refine (R3.out _ _ _ _ _ _ _ _ _ _ _ T13.out).2.mono ?_
   rintro e w14 ⟨rfl, hb14⟩
   have T14 : Hid (ST w14 (w0.heap.size + 5) c aP cP aQ cQ aR cR aS cS C2 D2 f2 (bx3 w1.heap.size c k r aP cP aQ cQ aR cR aS cS wr.heap.size kd row off role col s)) := T13.out.below hb14
   have G14 : Hid (Below w13.heap.size w13 w14) := hb14
   clear hb14
   clear p0 p1 p2 p3 p4 q0 q1 q2 q3 q4 a0 a1 a2 a3 a4 a5 lb0 lb1 lb2
   obtain ⟨⟨p0, p1, p2, p3, p4, q0, q1, q2, q3, q4⟩, ⟨a0, a1, a2, a3, a4, a5⟩⟩ := HS3.out _ _ _ _ T14.out
   have lb0 : w1.heap.size < w14.heap.size := World.block_lt_of_cell? _ _ p0
   have lb1 : w1.heap.size + 1 < w14.heap.size := World.block_lt_of_cell? _ _ q0
   have lb2 : wr.heap.size < w14.heap.size := World.block_lt_of_cell? _ _ a0
   go_wp2_with fail
   refine (R4.out _ _ _ _ _ _ _ _ _ _ _ T14.out).1.mono ?_
   rintro e w15 ⟨⟨ai5, ci5, rfl, ri5, _⟩, hb15⟩
   have K5 : Hid (RowI .i64 w15 ai5 L4.length (fun j => L4.getD j 0)) := ri5
   clear ri5
   have T15 : Hid (ST w15 (w0.heap.size + 5) c aP cP aQ cQ aR cR aS cS C2 D2 f2 (bx3 w1.heap.size c k r aP cP aQ cQ aR cR aS cS wr.heap.size kd row off role col s)) := T14.out.below hb15
   have G15 : Hid (Below w14.heap.size w14 w15) := hb15
   clear hb15
   clear p0 p1 p2 p3 p4 q0 q1 q2 q3 q4 a0 a1 a2 a3 a4 a5 lb0 lb1 lb2
   obtain ⟨⟨p0, p1, p2, p3, p4, q0, q1, q2, q3, q4⟩, ⟨a0, a1, a2, a3, a4, a5⟩⟩ := HS3.out _ _ _ _ T15.out
   have lb0 : w1.heap.size < w15.heap.size := World.block_lt_of_cell? _ _ p0
   have lb1 : w1.heap.size + 1 < w15.heap.size := World.block_lt_of_cell? _ _ q0
   have lb2 : wr.heap.size < w15.heap.size := World.block_lt_of_cell? _ _ a0
   go_wp2_with fail
   refine (R4.out _ _ _ _ _ _ _ _ _ _ _ T15.out).2.mono ?_
   rintro e w16 ⟨⟨ai6, ci6, rfl, ri6, _⟩, hb16⟩
   have K6 : Hid (RowI .i64 w16 ai6 L4.length (fun j => L4.getD j 0)) := ri6
   clear ri6
   have T16 : Hid (ST w16 (w0.heap.size + 5) c aP cP aQ cQ aR cR aS cS C2 D2 f2 (bx3 w1.heap.size c k r aP cP aQ cQ aR cR aS cS wr.heap.size kd row off role col s)) := T15.out.below hb16
   have D15 : Hid (Below w15.heap.size w15 w16) := hb16
   clear hb16
   clear p0 p1 p2 p3 p4 q0 q1 q2 q3 q4 a0 a1 a2 a3 a4 a5 lb0 lb1 lb2
   have D14 : Hid (Below w14.heap.size w14 w16) := G15.out.trans (D15.out.mono G15.out.size)
   have D13 : Hid (Below w13.heap.size w13 w16) := G14.out.trans (D14.out.mono G14.out.size)
   have D12 : Hid (Below w12.heap.size w12 w16) := G13.out.trans (D13.out.mono G13.out.size)
   have D11 : Hid (Below w11.heap.size w11 w16) := G12.out.trans (D12.out.mono G12.out.size)
   have D10 : Hid (Below w10.heap.size w10 w16) := G11.out.trans (D11.out.mono G11.out.size)
   have D9 : Hid (Below w9.heap.size w9 w16) := G10.out.trans (D10.out.mono G10.out.size)
   have D8 : Hid (Below w8.heap.size w8 w16) := G9.out.trans (D9.out.mono G9.out.size)
   have B16 : Hid (Below (w0.heap.size + 5) w2 w16) := B8.out.trans (D8.out.mono T8.out.size)
   have V1 : Hid (∀ W, Below w16.heap.size w16 W → Calls Tryz.prog 20 #[.slice al1 N1 cl1, .slice al2 N1 cl2] W fun e w' => e = .returned (.bool true) ∧ Below W.heap.size W w') := fun W hW => by
    have hx := Same_any N1 N1 F1 F1 (by omega) (by omega) al1 al2 cl1 cl2 W ((K1.out.1.below D9.out).below hW) ((K2.out.1.below D10.out).below hW)
    rw [Rf.sameB_yes (fun _ _ => rfl)] at hx
    exact hx
   have V2 : Hid (∀ W, Below w16.heap.size w16 W → Calls Tryz.prog 21 #[.slice ai1 L1.length ci1, .slice ai2 L1.length ci2] W fun e w' => e = .returned (.bool true) ∧ Below W.heap.size W w') := fun W hW =>
    same_rows ai1 ai2 _ ci1 ci2 _ (by omega) W ((K1.out.2.below D9.out).below hW) ((K2.out.2.below D10.out).below hW)
   have V3 : Hid (∀ W, Below w16.heap.size w16 W → Calls Tryz.prog 20 #[.slice al3 N2 cl3, .slice al4 N2 cl4] W fun e w' => e = .returned (.bool true) ∧ Below W.heap.size W w') := fun W hW => by
    have hx := Same_any N2 N2 F2 F2 (by omega) (by omega) al3 al4 cl3 cl4 W ((K3.out.1.below D11.out).below hW) ((K4.out.1.below D12.out).below hW)
    rw [Rf.sameB_yes (fun _ _ => rfl)] at hx
    exact hx
   have V4 : Hid (∀ W, Below w16.heap.size w16 W → Calls Tryz.prog 21 #[.slice ai3 L2.length ci3, .slice ai4 L2.length ci4] W fun e w' => e = .returned (.bool true) ∧ Below W.heap.size W w') := fun W hW =>
    same_rows ai3 ai4 _ ci3 ci4 _ (by omega) W ((K3.out.2.below D11.out).below hW) ((K4.out.2.below D12.out).below hW)
   have V5 : Hid (∀ W, Below w16.heap.size w16 W → Calls Tryz.prog 21 #[.slice ai5 L4.length ci5, .slice ai6 L4.length ci6] W fun e w' => e = .returned (.bool true) ∧ Below W.heap.size W w') := fun W hW =>
    same_rows ai5 ai6 _ ci5 ci6 _ (by omega) W ((K5.out.below D15.out).below hW) (K6.out.below hW)
   have y1 : ((E1 : Int) != (E1 : Int)) = false := by simp
   have y2 : (E2 != E2) = false := by simp
   have y3 : (E3 != E3) = false := by simp
   have y4 : ((E4 : Int) != (E4 : Int)) = false := by simp
   have y5 : (X3.toList != X3.toList) = false := by simp
   clear hN1 hL1 hN2 hL2 hL4
   go_wp2_with fail
   refine (V1.out _ (Below.refl _ _)).mono ?_
   rintro e w17 ⟨rfl, hb17⟩
   have X17 : Hid (Below w16.heap.size w16 w17) := hb17
   clear hb17
   go_wp2_with fail
   refine (V2.out _ X17.out).mono ?_
   rintro e w18 ⟨rfl, hb18⟩
   have X18 : Hid (Below w16.heap.size w16 w18) := X17.out.trans (hb18.mono X17.out.size)
   clear hb18
   go_wp2_with fail
   refine (V3.out _ X18.out).mono ?_
   rintro e w19 ⟨rfl, hb19⟩
   have X19 : Hid (Below w16.heap.size w16 w19) := X18.out.trans (hb19.mono X18.out.size)
   clear hb19
   go_wp2_with fail
   refine (V4.out _ X19.out).mono ?_
   rintro e w20 ⟨rfl, hb20⟩
   have X20 : Hid (Below w16.heap.size w16 w20) := X19.out.trans (hb20.mono X19.out.size)
   clear hb20
   go_wp2_with fail
   refine (V5.out _ X20.out).mono ?_
   rintro e w21 ⟨rfl, hb21⟩
   have X21 : Hid (Below w16.heap.size w16 w21) := X20.out.trans (hb21.mono X20.out.size)
   clear hb21
   go_wp2
   go_roundg (n - (i + 1))
   case measure => omega
   case rel => exact ⟨i + 1, by omega, rfl, by go_num, C2, D2, f2, St16.less (l := [blkT w1.heap.size 30 #[.int .i64 (c : Int), .int .i64 (k : Int), .int .i64 (r : Int), .slice (some ⟨aP, 0, none⟩) c cP, .slice (some ⟨aQ, 0, none⟩) c cQ], blkT (w1.heap.size + 1) 33 #[.int .i64 (c : Int), .int .i64 (k : Int), .int .i64 (r : Int), .slice (some ⟨aR, 0, none⟩) c cR, .slice (some ⟨aS, 0, none⟩) c cS]]) (m := [blkT wr.heap.size 38 #[.int .i64 kd, .int .i64 row, .int .i64 off, .int .i64 role, .int .u8 (col : Int), .string s]]) (T16.out.below X21.out), HAL.out.1, HAL.out.2.1, HAL.out.2.2, B16.out.trans (X21.out.mono T16.out.size)⟩
  ·have hni : ¬ (i : Int) < (n : Int) := by omega
   have BE : Hid (Below w.heap.size w wr) := B2.out.trans (BR.out.mono HBB.out)
   obtain ⟨bb, hR5⟩ := may_both hok hal f1
   have R5 : Hid (∀ (V : World) (B aP cP aQ cQ aR cR aS cS : Nat) (l : List Thing), St16 V B c (.slice (some ⟨aP, 0, none⟩) c cP) (.slice (some ⟨aQ, 0, none⟩) c cQ) (.slice (some ⟨aR, 0, none⟩) c cR) (.slice (some ⟨aS, 0, none⟩) c cS) C1 D1 f1 f1 l → _) := hR5
   have HMX : Hid (Tryz.prog.follows .mixedOrders = true) := by show _ = _; kernel_rfl
   have yb : (bb == bb) = true := by simp
   clear hR5 hal hfC hfD
   obtain ⟨p0, p1, p2, p3, p4, q0, q1, q2, q3, q4⟩ := HS2.out _ _ _ _ TR.out
   have lb0 : w1.heap.size < wr.heap.size := World.block_lt_of_cell? _ _ p0
   have lb1 : w1.heap.size + 1 < wr.heap.size := World.block_lt_of_cell? _ _ q0
   go_upto_region 20 with fail
   have T0 : Hid (ST wr.drew (w0.heap.size + 5) c aP cP aQ cQ aR cR aS cS C1 D1 f1 (bx2 w1.heap.size c k r aP cP aQ cQ aR cR aS cS)) := TR.out.below (Below.refl _ _).drew
   have hS0 := HS2.out _ _ _ _ T0.out
   clear p0 p1 p2 p3 p4 q0 q1 q2 q3 q4 lb0 lb1
   go_region_held3 (fun V => V.cell? ⟨w1.heap.size, 0, none⟩ = some (.int .i64 (c : Int)) ∧ V.cell? ⟨w1.heap.size, 1, none⟩ = some (.int .i64 (k : Int)) ∧ V.cell? ⟨w1.heap.size, 2, none⟩ = some (.int .i64 (r : Int)) ∧ V.cell? ⟨w1.heap.size, 3, none⟩ = some (.slice (some ⟨aP, 0, none⟩) c cP) ∧ V.cell? ⟨w1.heap.size, 4, none⟩ = some (.slice (some ⟨aQ, 0, none⟩) c cQ) ∧ V.cell? ⟨w1.heap.size + 1, 0, none⟩ = some (.int .i64 (c : Int)) ∧ V.cell? ⟨w1.heap.size + 1, 1, none⟩ = some (.int .i64 (k : Int)) ∧ V.cell? ⟨w1.heap.size + 1, 2, none⟩ = some (.int .i64 (r : Int)) ∧ V.cell? ⟨w1.heap.size + 1, 3, none⟩ = some (.slice (some ⟨aR, 0, none⟩) c cR) ∧ V.cell? ⟨w1.heap.size + 1, 4, none⟩ = some (.slice (some ⟨aS, 0, none⟩) c cS)) (first | exact hS0 | assumption) (first | (go_at_call 22; refine (R5.out _ _ _ _ _ _ _ _ _ _ _ T0.out).1.mono ?_; rintro e w4 ⟨rfl, hb4⟩; have T4 : Hid (ST w4 (w0.heap.size + 5) c aP cP aQ cQ aR cR aS cS C1 D1 f1 (bx2 w1.heap.size c k r aP cP aQ cQ aR cR aS cS)) := T0.out.below hb4; have hs4 := HS2.out _ _ _ _ T4.out; have B4 : Hid (Below wr.heap.size wr w4) := (Below.refl _ wr).drew.trans hb4; clear hb4) | (go_at_call 23; refine (R5.out _ _ _ _ _ _ _ _ _ _ _ T4.out).2.mono ?_; rintro e w5 ⟨rfl, hb5⟩; have T5 : Hid (ST w5 (w0.heap.size + 5) c aP cP aQ cQ aR cR aS cS C1 D1 f1 (bx2 w1.heap.size c k r aP cP aQ cQ aR cR aS cS)) := T4.out.below hb5; have hs5 := HS2.out _ _ _ _ T5.out; have B5 : Hid (Below wr.heap.size wr w5) := B4.out.trans (hb5.mono B4.out.size); clear hb5))
   go_wp2
   go_ret
   exact ⟨rfl, BE.out.trans (B5.out.mono BE.out.size)⟩
theorem walk (w : World) (a0 : Int) (w0 : (Lit.int .u8 a0).wf = true) (a1 : Int) (w1 : (Lit.int .u8 a1).wf = true) (a2 : Int) (w2 : (Lit.int .u8 a2).wf = true) (a3 : Bool) (a4 : Option Addr) (len4 cap4 : Nat) (f4 : Nat → Act16) (m4 : len4 ≤ maxLen) (w4 : 0 < len4 → ∃ b off, a4 = some ⟨b, off, none⟩ ∧ ∀ j, j < len4 → ActAt16 w b (off + j * 6) (f4 j)) :
  Calls Tryz.prog 3 #[.int .u8 a0, .int .u8 a1, .int .u8 a2, .bool a3, .slice a4 len4 cap4] w fun e w' => e = .returned (.bool true) ∧ Below w.heap.size w w' := by
 obtain ⟨x, rfl, hx⟩ : ∃ N : Nat, a0 = (N : Int) ∧ N < 256 := by have := bounds_u8 w0; exact ⟨a0.toNat, by omega, by omega⟩
 obtain ⟨y, rfl, hy⟩ : ∃ N : Nat, a1 = (N : Int) ∧ N < 256 := by have := bounds_u8 w1; exact ⟨a1.toNat, by omega, by omega⟩
 obtain ⟨z, rfl, hz⟩ : ∃ N : Nat, a2 = (N : Int) ∧ N < 256 := by have := bounds_u8 w2; exact ⟨a2.toNat, by omega, by omega⟩
 have hok := geo16_ok x y z
 have hg := fun W => geo16_any x y z hx hy hz W
 obtain ⟨c, hc⟩ : ∃ c, geo16c x = c := ⟨_, rfl⟩
 obtain ⟨k, hk⟩ : ∃ k, geo16k y = k := ⟨_, rfl⟩
 obtain ⟨r, hr⟩ : ∃ r, geo16r z = r := ⟨_, rfl⟩
 rw [hc, hk, hr] at hok
 rw [hc, hk, hr] at hg
 by_cases h0 : len4 = 0
 ·subst h0
  exact walk_light x y z c k r hok hg a3 a4 0 cap4 f4 w (fun h => absurd h (Nat.lt_irrefl _)) ((heavy16_nil w a4 cap4).mono fun e w' ⟨h1, h2⟩ => ⟨h1, .inr ⟨h2, by omega, fun j hj => absurd hj (Nat.not_lt_zero _)⟩⟩)
 ·obtain ⟨b, off, rfl, hA⟩ := w4 (by omega)
  exact walk_light x y z c k r hok hg a3 _ len4 cap4 f4 w (fun _ => ⟨b, off, rfl, hA⟩) (heavy16_some w b off len4 cap4 f4 hA m4)
theorem own : ownKnob Tryz.prog.godebug = none := by kernel_rfl
theorem laidOut : laidOutB Tryz.prog = true := by kernel_rfl
set_option linter.unusedVariables false in
set_option maxRecDepth 100000 in
theorem lifted (os : Os) (started : os.Started) (H : Type) (enc : TypeId × Value → H) :
  ReturnsInHanded {} Tryz.checked os 3 .any (Rows.rowActsSpec.pre6 enc Tryz.prog Tryz.f3 Rows.rowActsRow.domain false) (Rows.rowActsSpec.post enc Tryz.prog Tryz.f3 false true false false) := by
 refine returnsInHanded_of_change (C := Tryz.checked) own started (by kernel_rfl) Tryz.func3
  (ChangeSpec.witness6 (enc := enc) (C := Tryz.checked) false ⟨#[], #[.int .u8 0, .int .u8 0, .int .u8 0, .bool false, .slice none 0 0], []⟩ 8 (by kernel_rfl) (by kernel_rfl) (by kernel_rfl) (by kernel_rfl)) ?_
 intro W base args ds gs before hval0 hW hcnd _
 have hval : ∀ (j : Nat) t v, Tryz.f3.params[j]? = some t → args[j]? = some v → Value.okWide Tryz.prog W .any base t v := hval0
 have hW' := hW
 obtain ⟨p, q, hA0, hV, rfl, hfz, hnd⟩ := hW
 have hA : DataW.TrodAll enc Tryz.prog W 0 (fun _ => true) true Tryz.f3.params.toList args.toList ds p := hA0
 rw [Tryz.params3] at hA hval
 obtain ⟨v0, vs0, d0, ds0, p0, q0, hargs, rfl, rfl, h0, r0⟩ := trodAll_cons hA
 obtain ⟨v1, vs1, d1, ds1, p1, q1, rfl, rfl, rfl, h1, r1⟩ := trodAll_cons r0
 obtain ⟨v2, vs2, d2, ds2, p2, q2, rfl, rfl, rfl, h2, r2⟩ := trodAll_cons r1
 obtain ⟨v3, vs3, d3, ds3, p3, q3, rfl, rfl, rfl, h3, r3⟩ := trodAll_cons r2
 obtain ⟨v4, vs4, d4, ds4, p4, q4, rfl, rfl, rfl, h4, r4⟩ := trodAll_cons r3
 obtain ⟨rfl, rfl, rfl⟩ := trodAll_nil r4
 obtain rfl : args = #[v0, v1, v2, v3, v4] := by cases args; simp_all
 obtain ⟨rfl, rfl⟩ := trodVars_none hV
 obtain ⟨a0, rfl, rfl, rfl, w0⟩ := open_int Tryz.underlying5 (hval 0 5 v0 rfl rfl) h0
 obtain ⟨a1, rfl, rfl, rfl, w1⟩ := open_int Tryz.underlying5 (hval 1 5 v1 rfl rfl) h1
 obtain ⟨a2, rfl, rfl, rfl, w2⟩ := open_int Tryz.underlying5 (hval 2 5 v2 rfl rfl) h2
 obtain ⟨a3, rfl, rfl, rfl⟩ := open_bool Tryz.underlying4 (hval 3 4 v3 rfl rfl) h3
 obtain ⟨a4, len4, cap4, rfl⟩ := okWide_slice Tryz.underlying22 (hval 4 22 v4 rfl rfl)
 have k4 := h4
 have lt4 : ∀ x ∈ p4, x.block < W.heap.size := by obtain ⟨m, hm⟩ := k4; exact DataW.trod_lt m _ _ _ hm
 obtain ⟨f4, m4, w4⟩ : ∃ f : Nat → Act16, len4 ≤ maxLen ∧ (0 < len4 → ∃ b off, a4 = some ⟨b, off, none⟩ ∧ ∀ j, j < len4 → ActAt16 W b (off + j * 6) (f j)) := by
  obtain ⟨fuel, hf⟩ := h4
  obtain ⟨x, l, c, f, hcs, hm, hA⟩ := open_acts16 hf
  simp [Value.cells] at hcs
  obtain ⟨rfl, rfl, rfl⟩ := hcs
  exact ⟨f, hm, hA⟩
 clear hA0 hval0
 simp only [List.append_nil] at hW'
 refine (walk W a0 w0 a1 w1 a2 w2 a3 a4 len4 cap4 f4 m4 w4).mono fun e W' ⟨he, hg⟩ => ?_
 subst he
 exact ⟨_, rfl, _, _, _, [], _, [], hW', trodAll_mk1 (shut_bool Tryz.underlying4 _), (trodAll_cons_mk (shut_int Tryz.underlying5 w0) (trodAll_cons_mk (shut_int Tryz.underlying5 w1) (trodAll_cons_mk (shut_int Tryz.underlying5 w2) (trodAll_cons_mk (shut_bool Tryz.underlying4 a3) (trodAll_cons_mk (Below.trod laidOut (by kernel_rfl) (of_decide_eq_true (by kernel_rfl)) k4 hg lt4) trodAll_mk0))))), rfl, hg.frame _, fun h => by cases h⟩
theorem proved : Rows.RowActsSaid :=
 OpenClaim.holds_of_wide 3 Tryz.f3 rfl rfl rfl rfl rfl rfl rfl ⟨rfl, rfl, rfl, rfl, rfl⟩ rfl rfl rfl rfl rfl (by kernel_rfl) Tryz.func3 (by kernel_rfl)
  (of_decide_eq_true (by kernel_rfl)) (by unfold Func.isWrapper; first | (rw [if_pos (by decide +kernel)]; kernel_rfl) | (rw [if_neg (by decide +kernel)]; exact ⟨rfl, rfl⟩))
  (fun os started H enc _ => lifted os started H enc)
end Go.Proofs.YtdgkhjgnjfgnlaaGreat.rowActs
