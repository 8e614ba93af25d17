/- For every geometry that the law makes of three bytes, every row, place and role, every text and flag, the law RowWrites returns true: what is written to a role of a row is read there, and nowhere else, and outlives a crash if it is flushed. No condition. -/
import Derived.Test.YtdgkhjgnjfgnlaaGreatMRoG
import Derived.Test.YtdgkhjgnjfgnlaaGreatMKitD
import Derived.Deep.LoopGhost
import Derived.ProofKit
import Derived.OpenShut
import Derived.ShutString
import Derived.Below
import Derived.ChangeOld
namespace Go.Proofs.YtdgkhjgnjfgnlaaGreat.rowWrites
open Go.ChangeShapes Go.WideShapes Go.ChangeAt Go.RowKit
open Go.ChangeMaps (open_string shut_string)
attribute [local go_sem] Oper.semAt_some

theorem walk_big (a b d x y z : Nat) (s : ByteArray) (fl : Bool) (hs : ¬ s.size ≤ 100) (w : World) :
    Calls Tryz.prog 5 #[.int .u8 (a : Int), .int .u8 (b : Int), .int .u8 (d : Int), .int .u8 (x : Int), .int .u8 (y : Int), .int .u8 (z : Int), .string s, .bool fl] w fun e w' => e = .returned (.bool true) ∧ Below w.heap.size w w' := by
  have h1 : decide ((100 : Int) < (s.size : Int)) = true := decide_eq_true (by omega)
  have HSH : Hid (∀ W, Calls Tryz.prog 8 #[] W fun e w' => e = .returned (.bool true) ∧ Below W.heap.size W w') := fun W => shown16_any W
  clear hs
  go_enter Tryz.func5, Tryz.ntmps5
  go_wp2_with fail
  refine (HSH.out _).mono ?_
  rintro e w1 ⟨rfl, hb⟩
  have HB : Hid (Below w.heap.size w w1) := hb
  clear hb
  go_wp2
  go_ret
  exact ⟨rfl, HB.out⟩
set_option maxRecDepth 100000 in
set_option maxHeartbeats 16000000 in
theorem walk_small (a b d x y z c k r : Nat) (hok : Lay.ok (c : Int) (k : Int) (r : Int)) (hg : ∀ W, Calls Tryz.prog 10 #[.int .u8 (a : Int), .int .u8 (b : Int), .int .u8 (d : Int)] W fun e w' => e = .returned (.agg #[.int .i64 (c : Int), .int .i64 (k : Int), .int .i64 (r : Int)]) ∧ Below W.heap.size W w')
    (hx : x < 256) (hy : y < 256) (hz : z < 256) (s : ByteArray) (fl : Bool) (hs : s.size ≤ 100) (w : World) :
    Calls Tryz.prog 5 #[.int .u8 (a : Int), .int .u8 (b : Int), .int .u8 (d : Int), .int .u8 (x : Int), .int .u8 (y : Int), .int .u8 (z : Int), .string s, .bool fl] w fun e w' => e = .returned (.bool true) ∧ Below w.heap.size w w' := by
  have u1 : decide ((100 : Int) < (s.size : Int)) = false := decide_eq_false (by omega)
  have HSH : Hid (∀ W, Calls Tryz.prog 8 #[] W fun e w' => e = .returned (.bool true) ∧ Below W.heap.size W w') := fun W => shown16_any W
  have HG : Hid (∀ W, Calls Tryz.prog 10 #[.int .u8 (a : Int), .int .u8 (b : Int), .int .u8 (d : Int)] W fun e w' => e = .returned (.agg #[.int .i64 (c : Int), .int .i64 (k : Int), .int .i64 (r : Int)]) ∧ Below W.heap.size W w') := hg
  have HPA : Hid (∀ W, Calls Tryz.prog 9 #[.agg #[.int .i64 (c : Int), .int .i64 (k : Int), .int .i64 (r : Int)], .bool false] W (PairSt W c k r (4 + r * k))) := fun W => pair16_st c k r hok false (4 + r * k) rfl W
  obtain ⟨X, hX⟩ : ∃ X, Ro.fillB s = X := ⟨_, rfl⟩
  have hX64 : X.size = 64 := by rw [← hX]; exact Ro.fillB_size _
  have HFU : Hid (∀ W, Calls Tryz.prog 24 #[.string s] W fun e w' => e = .returned (.string X) ∧ w' = W) := fun W => by rw [← hX]; exact full16_any _ hs W
  obtain ⟨Y, hY⟩ : ∃ Y, Ro.fillB ⟨#[]⟩ = Y := ⟨_, rfl⟩
  have HFE : Hid (∀ W, Calls Tryz.prog 24 #[.string ⟨#[]⟩] W fun e w' => e = .returned (.string Y) ∧ w' = W) := fun W => by rw [← hY]; exact full16_any _ (by decide) W
  have HMX : Hid (Tryz.prog.follows .mixedOrders = true) := by show _ = _; kernel_rfl
  have hc4 : 4 ≤ c := by have := hok.1; omega
  have hc10 : c ≤ 10 := by have := hok.1; omega
  have hk1 : 0 < k := by have := hok.2.1; omega
  have hk4 : k ≤ 4 := by have := hok.2.1; omega
  have hr1 : 0 < r := by have := hok.2.2; omega
  have hr4 : r ≤ 256 := by have := hok.2.2; omega
  have hc0 : 0 < c := by omega
  have hc0i : (0 : Int) < (c : Int) := by omega
  obtain ⟨R, hR⟩ : ∃ R, x % r = R := ⟨_, rfl⟩
  obtain ⟨O, hO⟩ : ∃ O, y % k = O := ⟨_, rfl⟩
  obtain ⟨Q, hQ⟩ : ∃ Q, z % c = Q := ⟨_, rfl⟩
  have hRr : R < r := by rw [← hR]; exact Nat.mod_lt _ hr1
  have hOk : O < k := by rw [← hO]; exact Nat.mod_lt _ hk1
  have hQc : Q < c := by rw [← hQ]; exact Nat.mod_lt _ hc0
  have t1 : (x : Int).tmod (r : Int) = (R : Int) := by rw [Int.tmod_eq_emod_of_nonneg (by omega), ← Int.natCast_emod, hR]
  have t2 : (y : Int).tmod (k : Int) = (O : Int) := by rw [Int.tmod_eq_emod_of_nonneg (by omega), ← Int.natCast_emod, hO]
  have t3 : (z : Int).tmod (c : Int) = (Q : Int) := by rw [Int.tmod_eq_emod_of_nonneg (by omega), ← Int.natCast_emod, hQ]
  have n1 : (r : Int) ≠ 0 := by omega
  have n2 : (k : Int) ≠ 0 := by omega
  have n3 : (c : Int) ≠ 0 := by omega
  clear hX hg hs hR hO hQ
  go_enter Tryz.func5, Tryz.ntmps5
  go_wp2_with fail
  refine (HSH.out _).mono ?_
  rintro e wa ⟨rfl, hba⟩
  have BA : Hid (Below w.heap.size w wa) := hba
  clear hba
  go_wp2_with fail
  refine (HG.out _).mono ?_
  rintro e w0 ⟨rfl, hb0⟩
  have B0 : Hid (Below w.heap.size w w0) := BA.out.trans (hb0.mono BA.out.size)
  clear hb0
  go_wp2_with fail
  refine (HPA.out _).mono ?_
  rintro e w1 ⟨aP, cP, aQ, cQ, aR, cR, aS, cS, C, D, rfl, hC, _, hF, _, _, hS, hb1⟩
  rw [World.size_alloc] at hS hb1
  have G1 := (ShpAt.new w0 (c : Int) (k : Int) (r : Int) 26).below hb1 (Nat.lt_succ_self _)
  have HGEO : Hid (ShpAt w1 w0.heap.size (c : Int) (k : Int) (r : Int)) := G1
  have B1 : Hid (Below w.heap.size w w1) := (B0.out.alloc B0.out.size _).trans (hb1.mono (by have := B0.out.size; omega))
  have HBB : Hid (w.heap.size ≤ w0.heap.size + 1 + 5) := by have := B0.out.size; show _ ≤ _; omega
  have hbx : St16 ((w1.alloc (.cells #[.int .i64 (c : Int), .int .i64 (k : Int), .int .i64 (r : Int), .slice (some ⟨aP, 0, none⟩) c cP, .slice (some ⟨aQ, 0, none⟩) c cQ] 30)).alloc (.cells #[.int .i64 (c : Int), .int .i64 (k : Int), .int .i64 (r : Int), .slice (some ⟨aR, 0, none⟩) c cR, .slice (some ⟨aS, 0, none⟩) c cS] 33)) (w0.heap.size + 1 + 5) c (.slice (some ⟨aP, 0, none⟩) c cP) (.slice (some ⟨aQ, 0, none⟩) c cQ) (.slice (some ⟨aR, 0, none⟩) c cR) (.slice (some ⟨aS, 0, none⟩) c cS) C D (fun _ => (r : Int)) (fun _ => (r : Int)) ([blkT w1.heap.size 30 #[.int .i64 (c : Int), .int .i64 (k : Int), .int .i64 (r : Int), .slice (some ⟨aP, 0, none⟩) c cP, .slice (some ⟨aQ, 0, none⟩) c cQ], blkT (w1.heap.size + 1) 33 #[.int .i64 (c : Int), .int .i64 (k : Int), .int .i64 (r : Int), .slice (some ⟨aR, 0, none⟩) c cR, .slice (some ⟨aS, 0, none⟩) c cS]]) := by
    have h := (hS.box 30 #[.int .i64 (c : Int), .int .i64 (k : Int), .int .i64 (r : Int), .slice (some ⟨aP, 0, none⟩) c cP, .slice (some ⟨aQ, 0, none⟩) c cQ]).box 33 #[.int .i64 (c : Int), .int .i64 (k : Int), .int .i64 (r : Int), .slice (some ⟨aR, 0, none⟩) c cR, .slice (some ⟨aS, 0, none⟩) c cS]
    rw [World.size_alloc] at h
    exact h
  have HS2 : Hid (St16 ((w1.alloc (.cells #[.int .i64 (c : Int), .int .i64 (k : Int), .int .i64 (r : Int), .slice (some ⟨aP, 0, none⟩) c cP, .slice (some ⟨aQ, 0, none⟩) c cQ] 30)).alloc (.cells #[.int .i64 (c : Int), .int .i64 (k : Int), .int .i64 (r : Int), .slice (some ⟨aR, 0, none⟩) c cR, .slice (some ⟨aS, 0, none⟩) c cS] 33)) (w0.heap.size + 1 + 5) c (.slice (some ⟨aP, 0, none⟩) c cP) (.slice (some ⟨aQ, 0, none⟩) c cQ) (.slice (some ⟨aR, 0, none⟩) c cR) (.slice (some ⟨aS, 0, none⟩) c cS) C D (fun _ => (r : Int)) (fun _ => (r : Int)) ([blkT w1.heap.size 30 #[.int .i64 (c : Int), .int .i64 (k : Int), .int .i64 (r : Int), .slice (some ⟨aP, 0, none⟩) c cP, .slice (some ⟨aQ, 0, none⟩) c cQ], blkT (w1.heap.size + 1) 33 #[.int .i64 (c : Int), .int .i64 (k : Int), .int .i64 (r : Int), .slice (some ⟨aR, 0, none⟩) c cR, .slice (some ⟨aS, 0, none⟩) c cS]])) := hbx
  have B2 : Hid (Below w.heap.size w ((w1.alloc (.cells #[.int .i64 (c : Int), .int .i64 (k : Int), .int .i64 (r : Int), .slice (some ⟨aP, 0, none⟩) c cP, .slice (some ⟨aQ, 0, none⟩) c cQ] 30)).alloc (.cells #[.int .i64 (c : Int), .int .i64 (k : Int), .int .i64 (r : Int), .slice (some ⟨aR, 0, none⟩) c cR, .slice (some ⟨aS, 0, none⟩) c cS] 33))) := (B1.out.alloc B1.out.size _).alloc (Nat.le_trans B1.out.size (by simp)) _
  have HGE2 : Hid (ShpAt ((w1.alloc (.cells #[.int .i64 (c : Int), .int .i64 (k : Int), .int .i64 (r : Int), .slice (some ⟨aP, 0, none⟩) c cP, .slice (some ⟨aQ, 0, none⟩) c cQ] 30)).alloc (.cells #[.int .i64 (c : Int), .int .i64 (k : Int), .int .i64 (r : Int), .slice (some ⟨aR, 0, none⟩) c cR, .slice (some ⟨aS, 0, none⟩) c cS] 33)) w0.heap.size (c : Int) (k : Int) (r : Int)) := HGEO.out.below (((Below.refl _ _).alloc (Nat.le_refl _) (.cells #[.int .i64 (c : Int), .int .i64 (k : Int), .int .i64 (r : Int), .slice (some ⟨aP, 0, none⟩) c cP, .slice (some ⟨aQ, 0, none⟩) c cQ] 30)).alloc (by simp) (.cells #[.int .i64 (c : Int), .int .i64 (k : Int), .int .i64 (r : Int), .slice (some ⟨aR, 0, none⟩) c cR, .slice (some ⟨aS, 0, none⟩) c cS] 33)) HGEO.out.lt
  have hH := Ro.Have.new hC
  obtain ⟨hw0, hw1⟩ := hH.write (k := k) (r := r) (Nat.le_refl _) hRr hOk hQc hX64
  obtain ⟨C1, hC1⟩ : ∃ C1, Ro.wrC c k r c c C (R : Int) (O : Int) (Q : Int) X = C1 := ⟨_, rfl⟩
  have hF1 : Few16 C1 1 := by rw [← hC1]; exact hF.wrC c k r c c _ _ _ X
  have HWR : Hid (∀ W, St16 W (w0.heap.size + 1 + 5) c (.slice (some ⟨aP, 0, none⟩) c cP) (.slice (some ⟨aQ, 0, none⟩) c cQ) (.slice (some ⟨aR, 0, none⟩) c cR) (.slice (some ⟨aS, 0, none⟩) c cS) C D (fun _ => (r : Int)) (fun _ => (r : Int)) ([blkT w1.heap.size 30 #[.int .i64 (c : Int), .int .i64 (k : Int), .int .i64 (r : Int), .slice (some ⟨aP, 0, none⟩) c cP, .slice (some ⟨aQ, 0, none⟩) c cQ], blkT (w1.heap.size + 1) 33 #[.int .i64 (c : Int), .int .i64 (k : Int), .int .i64 (r : Int), .slice (some ⟨aR, 0, none⟩) c cR, .slice (some ⟨aS, 0, none⟩) c cS]]) → Calls Tryz.prog 27 #[.agg #[.int .i64 (c : Int), .int .i64 (k : Int), .int .i64 (r : Int), .slice (some ⟨aP, 0, none⟩) c cP, .slice (some ⟨aQ, 0, none⟩) c cQ], .int .i64 (R : Int), .int .i64 (O : Int), .int .i64 (Q : Int), .string X] W fun e w' => e = .returned (.int .i64 0) ∧ St16 w' (w0.heap.size + 1 + 5) c (.slice (some ⟨aP, 0, none⟩) c cP) (.slice (some ⟨aQ, 0, none⟩) c cQ) (.slice (some ⟨aR, 0, none⟩) c cR) (.slice (some ⟨aS, 0, none⟩) c cS) C1 D (fun _ => (r : Int)) (fun _ => (r : Int)) ([blkT w1.heap.size 30 #[.int .i64 (c : Int), .int .i64 (k : Int), .int .i64 (r : Int), .slice (some ⟨aP, 0, none⟩) c cP, .slice (some ⟨aQ, 0, none⟩) c cQ], blkT (w1.heap.size + 1) 33 #[.int .i64 (c : Int), .int .i64 (k : Int), .int .i64 (r : Int), .slice (some ⟨aR, 0, none⟩) c cR, .slice (some ⟨aS, 0, none⟩) c cS]]) ∧ Below (w0.heap.size + 1 + 5) W w') := fun W hW => by
    have h := hW.prWrite hok hF (by omega) (R : Int) (O : Int) (Q : Int) X
    rw [hw0, hC1] at h
    exact h
  rw [hC1] at hw1
  obtain ⟨hf0, hf1⟩ := hw1.flush (k := k) (r := r) (Nat.le_refl _)
  obtain ⟨C3, hC3⟩ : ∃ C3, Ro.flushC c k r c c C1 = C3 := ⟨_, rfl⟩
  have HFL : Hid (∀ W, St16 W (w0.heap.size + 1 + 5) c (.slice (some ⟨aP, 0, none⟩) c cP) (.slice (some ⟨aQ, 0, none⟩) c cQ) (.slice (some ⟨aR, 0, none⟩) c cR) (.slice (some ⟨aS, 0, none⟩) c cS) C1 D (fun _ => (r : Int)) (fun _ => (r : Int)) ([blkT w1.heap.size 30 #[.int .i64 (c : Int), .int .i64 (k : Int), .int .i64 (r : Int), .slice (some ⟨aP, 0, none⟩) c cP, .slice (some ⟨aQ, 0, none⟩) c cQ], blkT (w1.heap.size + 1) 33 #[.int .i64 (c : Int), .int .i64 (k : Int), .int .i64 (r : Int), .slice (some ⟨aR, 0, none⟩) c cR, .slice (some ⟨aS, 0, none⟩) c cS]]) → Calls Tryz.prog 30 #[.agg #[.int .i64 (c : Int), .int .i64 (k : Int), .int .i64 (r : Int), .slice (some ⟨aP, 0, none⟩) c cP, .slice (some ⟨aQ, 0, none⟩) c cQ]] W fun e w' => e = .returned (.int .i64 0) ∧ St16 w' (w0.heap.size + 1 + 5) c (.slice (some ⟨aP, 0, none⟩) c cP) (.slice (some ⟨aQ, 0, none⟩) c cQ) (.slice (some ⟨aR, 0, none⟩) c cR) (.slice (some ⟨aS, 0, none⟩) c cS) C3 D (fun _ => (r : Int)) (fun _ => (r : Int)) ([blkT w1.heap.size 30 #[.int .i64 (c : Int), .int .i64 (k : Int), .int .i64 (r : Int), .slice (some ⟨aP, 0, none⟩) c cP, .slice (some ⟨aQ, 0, none⟩) c cQ], blkT (w1.heap.size + 1) 33 #[.int .i64 (c : Int), .int .i64 (k : Int), .int .i64 (r : Int), .slice (some ⟨aR, 0, none⟩) c cR, .slice (some ⟨aS, 0, none⟩) c cS]]) ∧ Below (w0.heap.size + 1 + 5) W w') := fun W hW => by
    have h := hW.prFlush hok hF1 (by omega)
    rw [hf0, hC3] at h
    exact h
  have hF3 : Few16 C3 1 := by rw [← hC3]; exact hF1.flushC c k r c c
  rw [hC3] at hf1
  obtain ⟨C4, hC4⟩ : ∃ C4, (if fl then C3 else C1) = C4 := ⟨_, rfl⟩
  have HH4 : Hid (Ro.Have c (4 + r * k) (safeV fl c k R O Q X) (Ro.upd2 (fun _ _ => Ro.zero64) (Ro.colN c R Q) (4 + R * k + O) X.data.toList) C4 ∧ Few16 C4 1) := by
    rw [← hC4]
    unfold safeV
    cases fl with
    | false => exact ⟨hw1, hF1⟩
    | true => exact ⟨hf1, hF3⟩
  have HC4 : Hid ((fl = true → C4 = C3) ∧ (fl = false → C4 = C1)) := ⟨fun e => by rw [← hC4, e]; rfl, fun e => by rw [← hC4, e]; rfl⟩
  have HS5 : Hid (∀ W E, St16 W (w0.heap.size + 1 + 5) c (.slice (some ⟨aP, 0, none⟩) c cP) (.slice (some ⟨aQ, 0, none⟩) c cQ) (.slice (some ⟨aR, 0, none⟩) c cR) (.slice (some ⟨aS, 0, none⟩) c cS) E D (fun _ => (r : Int)) (fun _ => (r : Int)) ([blkT w1.heap.size 30 #[.int .i64 (c : Int), .int .i64 (k : Int), .int .i64 (r : Int), .slice (some ⟨aP, 0, none⟩) c cP, .slice (some ⟨aQ, 0, none⟩) c cQ], blkT (w1.heap.size + 1) 33 #[.int .i64 (c : Int), .int .i64 (k : Int), .int .i64 (r : Int), .slice (some ⟨aR, 0, none⟩) c cR, .slice (some ⟨aS, 0, none⟩) c cS]]) → W.cell? ⟨w1.heap.size, 0, none⟩ = some (.int .i64 (c : Int)) ∧ W.cell? ⟨w1.heap.size, 1, none⟩ = some (.int .i64 (k : Int)) ∧ W.cell? ⟨w1.heap.size, 2, none⟩ = some (.int .i64 (r : Int)) ∧ W.cell? ⟨w1.heap.size, 3, none⟩ = some (.slice (some ⟨aP, 0, none⟩) c cP) ∧ W.cell? ⟨w1.heap.size, 4, none⟩ = some (.slice (some ⟨aQ, 0, none⟩) c cQ)) := fun W E hW => ⟨hW.cell (i := 0) rfl 0, hW.cell (i := 0) rfl 1, hW.cell (i := 0) rfl 2, hW.cell (i := 0) rfl 3, hW.cell (i := 0) rfl 4⟩
  obtain ⟨hg0, hg1, hg2⟩ := HGE2.out
  have hgl : w0.heap.size < ((w1.alloc (.cells #[.int .i64 (c : Int), .int .i64 (k : Int), .int .i64 (r : Int), .slice (some ⟨aP, 0, none⟩) c cP, .slice (some ⟨aQ, 0, none⟩) c cQ] 30)).alloc (.cells #[.int .i64 (c : Int), .int .i64 (k : Int), .int .i64 (r : Int), .slice (some ⟨aR, 0, none⟩) c cR, .slice (some ⟨aS, 0, none⟩) c cS] 33)).heap.size := World.block_lt_of_cell? _ _ hg0
  clear hC hF hS hb1 hH hbx G1 hw0 hw1 hC1 hC3 hC4 hf0 hf1 hF1 hF3
  go_upto_region 5 with fail
  generalize ((w1.alloc (.cells #[.int .i64 (c : Int), .int .i64 (k : Int), .int .i64 (r : Int), .slice (some ⟨aP, 0, none⟩) c cP, .slice (some ⟨aQ, 0, none⟩) c cQ] 30)).alloc (.cells #[.int .i64 (c : Int), .int .i64 (k : Int), .int .i64 (r : Int), .slice (some ⟨aR, 0, none⟩) c cR, .slice (some ⟨aS, 0, none⟩) c cS] 33)) = w2 at *
  obtain ⟨j0, j1, j2, j3, j4⟩ := HS5.out _ _ HS2.out
  have hl2 : w1.heap.size < w2.heap.size := World.block_lt_of_cell? _ _ j0
  go_upto_region 8 with fail
  have hS0 : w2.drew.cell? ⟨w1.heap.size, 0, none⟩ = some (.int .i64 (c : Int)) ∧ w2.drew.cell? ⟨w1.heap.size, 1, none⟩ = some (.int .i64 (k : Int)) ∧ w2.drew.cell? ⟨w1.heap.size, 2, none⟩ = some (.int .i64 (r : Int)) ∧ w2.drew.cell? ⟨w1.heap.size, 3, none⟩ = some (.slice (some ⟨aP, 0, none⟩) c cP) ∧ w2.drew.cell? ⟨w1.heap.size, 4, none⟩ = some (.slice (some ⟨aQ, 0, none⟩) c cQ) := ⟨j0, j1, j2, j3, j4⟩
  have T2d : Hid (St16 w2.drew (w0.heap.size + 1 + 5) c (.slice (some ⟨aP, 0, none⟩) c cP) (.slice (some ⟨aQ, 0, none⟩) c cQ) (.slice (some ⟨aR, 0, none⟩) c cR) (.slice (some ⟨aS, 0, none⟩) c cS) C D (fun _ => (r : Int)) (fun _ => (r : Int)) ([blkT w1.heap.size 30 #[.int .i64 (c : Int), .int .i64 (k : Int), .int .i64 (r : Int), .slice (some ⟨aP, 0, none⟩) c cP, .slice (some ⟨aQ, 0, none⟩) c cQ], blkT (w1.heap.size + 1) 33 #[.int .i64 (c : Int), .int .i64 (k : Int), .int .i64 (r : Int), .slice (some ⟨aR, 0, none⟩) c cR, .slice (some ⟨aS, 0, none⟩) c cS]])) := HS2.out.below ((Below.refl _ _).drew)
  go_cut [78] from 63 to 77 (fun s78 wc => s78 = .bool false ∧ St16 wc (w0.heap.size + 1 + 5) c (.slice (some ⟨aP, 0, none⟩) c cP) (.slice (some ⟨aQ, 0, none⟩) c cQ) (.slice (some ⟨aR, 0, none⟩) c cR) (.slice (some ⟨aS, 0, none⟩) c cS) C4 D (fun _ => (r : Int)) (fun _ => (r : Int)) ([blkT w1.heap.size 30 #[.int .i64 (c : Int), .int .i64 (k : Int), .int .i64 (r : Int), .slice (some ⟨aP, 0, none⟩) c cP, .slice (some ⟨aQ, 0, none⟩) c cQ], blkT (w1.heap.size + 1) 33 #[.int .i64 (c : Int), .int .i64 (k : Int), .int .i64 (r : Int), .slice (some ⟨aR, 0, none⟩) c cR, .slice (some ⟨aS, 0, none⟩) c cS]]) ∧ Below (w0.heap.size + 1 + 5) w2 wc)
  case first =>
    cases fl with
    | false =>
      have E4 : Hid (C4 = C1) := HC4.out.2 rfl
      refine wp_region_held (S := fun W => W.cell? ⟨w1.heap.size, 0, none⟩ = some (.int .i64 (c : Int)) ∧ W.cell? ⟨w1.heap.size, 1, none⟩ = some (.int .i64 (k : Int)) ∧ W.cell? ⟨w1.heap.size, 2, none⟩ = some (.int .i64 (r : Int)) ∧ W.cell? ⟨w1.heap.size, 3, none⟩ = some (.slice (some ⟨aP, 0, none⟩) c cP) ∧ W.cell? ⟨w1.heap.size, 4, none⟩ = some (.slice (some ⟨aQ, 0, none⟩) c cQ)) HMX.out ?_
      have hS : (fun W : World => W.cell? ⟨w1.heap.size, 0, none⟩ = some (.int .i64 (c : Int)) ∧ W.cell? ⟨w1.heap.size, 1, none⟩ = some (.int .i64 (k : Int)) ∧ W.cell? ⟨w1.heap.size, 2, none⟩ = some (.int .i64 (r : Int)) ∧ W.cell? ⟨w1.heap.size, 3, none⟩ = some (.slice (some ⟨aP, 0, none⟩) c cP) ∧ W.cell? ⟨w1.heap.size, 4, none⟩ = some (.slice (some ⟨aQ, 0, none⟩) c cQ)) w2.drew := hS0
      change wpAnyH _ _ _ _ _ _ _ _ w2.drew
      refine held_quiet 0 (v := ?v0q1) rfl (by kernel_rfl) (fun _ _ _ h => h) (by assumption) rfl ?hy0q1 ?rest0q1
      case hy0q1 => (intro wS hSw; (try dsimp only at hSw); go_simp; try with_reducible rfl)
      try simp only [Act.put, List.setIfInBounds_toArray, List.set_cons_zero, List.set_cons_succ]
      refine held_quiet 1 (v := ?v1q2) rfl (by kernel_rfl) (fun _ _ _ h => h) (by assumption) rfl ?hy1q2 ?rest1q2
      case hy1q2 => (intro wS hSw; (try dsimp only at hSw); go_simp; try with_reducible rfl)
      try simp only [Act.put, List.setIfInBounds_toArray, List.set_cons_zero, List.set_cons_succ]
      refine held_quiet 2 (v := ?v2q3) rfl (by kernel_rfl) (fun _ _ _ h => h) (by assumption) rfl ?hy2q3 ?rest2q3
      case hy2q3 => (intro wS hSw; (try dsimp only at hSw); go_simp; try with_reducible rfl)
      try simp only [Act.put, List.setIfInBounds_toArray, List.set_cons_zero, List.set_cons_succ]
      refine held_quiet 3 (v := ?v3q4) rfl (by kernel_rfl) (fun _ _ _ h => h) (by assumption) rfl ?hy3q4 ?rest3q4
      case hy3q4 => (intro wS hSw; (try dsimp only at hSw); go_simp; try with_reducible rfl)
      try simp only [Act.put, List.setIfInBounds_toArray, List.set_cons_zero, List.set_cons_succ]
      refine held_quiet 4 (v := ?v4q5) rfl (by kernel_rfl) (fun _ _ _ h => h) (by assumption) rfl ?hy4q5 ?rest4q5
      case hy4q5 => (intro wS hSw; (try dsimp only at hSw); go_simp; try with_reducible rfl)
      try simp only [Act.put, List.setIfInBounds_toArray, List.set_cons_zero, List.set_cons_succ]
      refine held_one 5 rfl (by kernel_rfl) ?_
      go_wp2_with (go_at_call 24; refine (HFU.out _).mono ?_; rintro e w3 ⟨rfl, h3⟩; have h3' := h3.symm; subst h3'; clear h3)
      refine ⟨hS0, ?_⟩
      refine held_one 6 rfl (by kernel_rfl) ?_
      go_wp2_with (go_at_call 27; refine (HWR.out _ T2d.out).mono ?_; rintro e w4 ⟨rfl, ht4, hb4⟩; have T4 : Hid (St16 w4 (w0.heap.size + 1 + 5) c (.slice (some ⟨aP, 0, none⟩) c cP) (.slice (some ⟨aQ, 0, none⟩) c cQ) (.slice (some ⟨aR, 0, none⟩) c cR) (.slice (some ⟨aS, 0, none⟩) c cS) C1 D (fun _ => (r : Int)) (fun _ => (r : Int)) ([blkT w1.heap.size 30 #[.int .i64 (c : Int), .int .i64 (k : Int), .int .i64 (r : Int), .slice (some ⟨aP, 0, none⟩) c cP, .slice (some ⟨aQ, 0, none⟩) c cQ], blkT (w1.heap.size + 1) 33 #[.int .i64 (c : Int), .int .i64 (k : Int), .int .i64 (r : Int), .slice (some ⟨aR, 0, none⟩) c cR, .slice (some ⟨aS, 0, none⟩) c cS]])) := ht4; have B4 : Hid (Below (w0.heap.size + 1 + 5) w2 w4) := (Below.refl _ w2).drew.trans hb4; clear ht4 hb4)
      have hS4 : (fun W : World => W.cell? ⟨w1.heap.size, 0, none⟩ = some (.int .i64 (c : Int)) ∧ W.cell? ⟨w1.heap.size, 1, none⟩ = some (.int .i64 (k : Int)) ∧ W.cell? ⟨w1.heap.size, 2, none⟩ = some (.int .i64 (r : Int)) ∧ W.cell? ⟨w1.heap.size, 3, none⟩ = some (.slice (some ⟨aP, 0, none⟩) c cP) ∧ W.cell? ⟨w1.heap.size, 4, none⟩ = some (.slice (some ⟨aQ, 0, none⟩) c cQ)) w4 := HS5.out _ _ T4.out
      refine ⟨hS4, ?_⟩
      clear hS
      refine held_quiet 7 (v := ?v7q6) rfl (by kernel_rfl) (fun _ _ _ h => h) (by assumption) rfl ?hy7q6 ?rest7q6
      case hy7q6 => (intro wS hSw; (try dsimp only at hSw); go_simp; try with_reducible rfl)
      try simp only [Act.put, List.setIfInBounds_toArray, List.set_cons_zero, List.set_cons_succ]
      refine held_quiet 8 (v := ?v8q7) rfl (by kernel_rfl) (fun _ _ _ h => h) (by assumption) rfl ?hy8q7 ?rest8q7
      case hy8q7 => (intro wS hSw; (try dsimp only at hSw); go_simp; try with_reducible rfl)
      try simp only [Act.put, List.setIfInBounds_toArray, List.set_cons_zero, List.set_cons_succ]
      refine held_quiet 9 (v := ?v9q8) rfl (by kernel_rfl) (fun _ _ _ h => h) (by assumption) rfl ?hy9q8 ?rest9q8
      case hy9q8 => (intro wS hSw; (try dsimp only at hSw); go_simp; try with_reducible rfl)
      try simp only [Act.put, List.setIfInBounds_toArray, List.set_cons_zero, List.set_cons_succ]
      refine held_quiet 10 (v := ?v10q9) rfl (by kernel_rfl) (fun _ _ _ h => h) (by assumption) rfl ?hy10q9 ?rest10q9
      case hy10q9 => (intro wS hSw; (try dsimp only at hSw); go_simp; try with_reducible rfl)
      try simp only [Act.put, List.setIfInBounds_toArray, List.set_cons_zero, List.set_cons_succ]
      refine held_one 11 rfl (by kernel_rfl) ?_
      go_wp2
      refine held_one 12 rfl (by kernel_rfl) ?_
      go_wp2
      refine ⟨hS4, ?_⟩
      refine held_one 13 rfl (by kernel_rfl) ?_
      go_wp2
      try refine ⟨hS4, ?_⟩
      refine held_quiet 14 (v := ?v14q10) rfl (by kernel_rfl) (fun _ _ _ h => h) (by assumption) rfl ?hy14q10 ?rest14q10
      case hy14q10 => (intro wS hSw; (try dsimp only at hSw); go_simp; try with_reducible rfl)
      try simp only [Act.put, List.setIfInBounds_toArray, List.set_cons_zero, List.set_cons_succ]
      refine held_quiet 15 (v := ?v15q11) rfl (by kernel_rfl) (fun _ _ _ h => h) (by assumption) rfl ?hy15q11 ?rest15q11
      case hy15q11 => (intro wS hSw; (try dsimp only at hSw); go_simp; try with_reducible rfl)
      try simp only [Act.put, List.setIfInBounds_toArray, List.set_cons_zero, List.set_cons_succ]
      refine held_done (by kernel_rfl) ?_
      go_wp2_with fail
      go_meet
      exact ⟨rfl, by rw [E4.out]; exact T4.out, B4.out⟩
    | true =>
      have E4 : Hid (C4 = C3) := HC4.out.1 rfl
      refine wp_region_held (S := fun W => W.cell? ⟨w1.heap.size, 0, none⟩ = some (.int .i64 (c : Int)) ∧ W.cell? ⟨w1.heap.size, 1, none⟩ = some (.int .i64 (k : Int)) ∧ W.cell? ⟨w1.heap.size, 2, none⟩ = some (.int .i64 (r : Int)) ∧ W.cell? ⟨w1.heap.size, 3, none⟩ = some (.slice (some ⟨aP, 0, none⟩) c cP) ∧ W.cell? ⟨w1.heap.size, 4, none⟩ = some (.slice (some ⟨aQ, 0, none⟩) c cQ)) HMX.out ?_
      have hS : (fun W : World => W.cell? ⟨w1.heap.size, 0, none⟩ = some (.int .i64 (c : Int)) ∧ W.cell? ⟨w1.heap.size, 1, none⟩ = some (.int .i64 (k : Int)) ∧ W.cell? ⟨w1.heap.size, 2, none⟩ = some (.int .i64 (r : Int)) ∧ W.cell? ⟨w1.heap.size, 3, none⟩ = some (.slice (some ⟨aP, 0, none⟩) c cP) ∧ W.cell? ⟨w1.heap.size, 4, none⟩ = some (.slice (some ⟨aQ, 0, none⟩) c cQ)) w2.drew := hS0
      change wpAnyH _ _ _ _ _ _ _ _ w2.drew
      refine held_quiet 0 (v := ?v0q12) rfl (by kernel_rfl) (fun _ _ _ h => h) (by assumption) rfl ?hy0q12 ?rest0q12
      case hy0q12 => (intro wS hSw; (try dsimp only at hSw); go_simp; try with_reducible rfl)
      try simp only [Act.put, List.setIfInBounds_toArray, List.set_cons_zero, List.set_cons_succ]
      refine held_quiet 1 (v := ?v1q13) rfl (by kernel_rfl) (fun _ _ _ h => h) (by assumption) rfl ?hy1q13 ?rest1q13
      case hy1q13 => (intro wS hSw; (try dsimp only at hSw); go_simp; try with_reducible rfl)
      try simp only [Act.put, List.setIfInBounds_toArray, List.set_cons_zero, List.set_cons_succ]
      refine held_quiet 2 (v := ?v2q14) rfl (by kernel_rfl) (fun _ _ _ h => h) (by assumption) rfl ?hy2q14 ?rest2q14
      case hy2q14 => (intro wS hSw; (try dsimp only at hSw); go_simp; try with_reducible rfl)
      try simp only [Act.put, List.setIfInBounds_toArray, List.set_cons_zero, List.set_cons_succ]
      refine held_quiet 3 (v := ?v3q15) rfl (by kernel_rfl) (fun _ _ _ h => h) (by assumption) rfl ?hy3q15 ?rest3q15
      case hy3q15 => (intro wS hSw; (try dsimp only at hSw); go_simp; try with_reducible rfl)
      try simp only [Act.put, List.setIfInBounds_toArray, List.set_cons_zero, List.set_cons_succ]
      refine held_quiet 4 (v := ?v4q16) rfl (by kernel_rfl) (fun _ _ _ h => h) (by assumption) rfl ?hy4q16 ?rest4q16
      case hy4q16 => (intro wS hSw; (try dsimp only at hSw); go_simp; try with_reducible rfl)
      try simp only [Act.put, List.setIfInBounds_toArray, List.set_cons_zero, List.set_cons_succ]
      refine held_one 5 rfl (by kernel_rfl) ?_
      go_wp2_with (go_at_call 24; refine (HFU.out _).mono ?_; rintro e w3 ⟨rfl, h3⟩; have h3' := h3.symm; subst h3'; clear h3)
      refine ⟨hS0, ?_⟩
      refine held_one 6 rfl (by kernel_rfl) ?_
      go_wp2_with (go_at_call 27; refine (HWR.out _ T2d.out).mono ?_; rintro e w4 ⟨rfl, ht4, hb4⟩; have T4 : Hid (St16 w4 (w0.heap.size + 1 + 5) c (.slice (some ⟨aP, 0, none⟩) c cP) (.slice (some ⟨aQ, 0, none⟩) c cQ) (.slice (some ⟨aR, 0, none⟩) c cR) (.slice (some ⟨aS, 0, none⟩) c cS) C1 D (fun _ => (r : Int)) (fun _ => (r : Int)) ([blkT w1.heap.size 30 #[.int .i64 (c : Int), .int .i64 (k : Int), .int .i64 (r : Int), .slice (some ⟨aP, 0, none⟩) c cP, .slice (some ⟨aQ, 0, none⟩) c cQ], blkT (w1.heap.size + 1) 33 #[.int .i64 (c : Int), .int .i64 (k : Int), .int .i64 (r : Int), .slice (some ⟨aR, 0, none⟩) c cR, .slice (some ⟨aS, 0, none⟩) c cS]])) := ht4; have B4 : Hid (Below (w0.heap.size + 1 + 5) w2 w4) := (Below.refl _ w2).drew.trans hb4; clear ht4 hb4)
      have hS4 : (fun W : World => W.cell? ⟨w1.heap.size, 0, none⟩ = some (.int .i64 (c : Int)) ∧ W.cell? ⟨w1.heap.size, 1, none⟩ = some (.int .i64 (k : Int)) ∧ W.cell? ⟨w1.heap.size, 2, none⟩ = some (.int .i64 (r : Int)) ∧ W.cell? ⟨w1.heap.size, 3, none⟩ = some (.slice (some ⟨aP, 0, none⟩) c cP) ∧ W.cell? ⟨w1.heap.size, 4, none⟩ = some (.slice (some ⟨aQ, 0, none⟩) c cQ)) w4 := HS5.out _ _ T4.out
      refine ⟨hS4, ?_⟩
      clear hS
      refine held_quiet 7 (v := ?v7q17) rfl (by kernel_rfl) (fun _ _ _ h => h) (by assumption) rfl ?hy7q17 ?rest7q17
      case hy7q17 => (intro wS hSw; (try dsimp only at hSw); go_simp; try with_reducible rfl)
      try simp only [Act.put, List.setIfInBounds_toArray, List.set_cons_zero, List.set_cons_succ]
      refine held_quiet 8 (v := ?v8q18) rfl (by kernel_rfl) (fun _ _ _ h => h) (by assumption) rfl ?hy8q18 ?rest8q18
      case hy8q18 => (intro wS hSw; (try dsimp only at hSw); go_simp; try with_reducible rfl)
      try simp only [Act.put, List.setIfInBounds_toArray, List.set_cons_zero, List.set_cons_succ]
      refine held_quiet 9 (v := ?v9q19) rfl (by kernel_rfl) (fun _ _ _ h => h) (by assumption) rfl ?hy9q19 ?rest9q19
      case hy9q19 => (intro wS hSw; (try dsimp only at hSw); go_simp; try with_reducible rfl)
      try simp only [Act.put, List.setIfInBounds_toArray, List.set_cons_zero, List.set_cons_succ]
      refine held_quiet 10 (v := ?v10q20) rfl (by kernel_rfl) (fun _ _ _ h => h) (by assumption) rfl ?hy10q20 ?rest10q20
      case hy10q20 => (intro wS hSw; (try dsimp only at hSw); go_simp; try with_reducible rfl)
      try simp only [Act.put, List.setIfInBounds_toArray, List.set_cons_zero, List.set_cons_succ]
      refine held_quiet 11 (v := ?v11q21) rfl (by kernel_rfl) (fun _ _ _ h => h) (by assumption) rfl ?hy11q21 ?rest11q21
      case hy11q21 => (intro wS hSw; (try dsimp only at hSw); go_simp; try with_reducible rfl)
      try simp only [Act.put, List.setIfInBounds_toArray, List.set_cons_zero, List.set_cons_succ]
      refine held_one 12 rfl (by kernel_rfl) ?_
      go_wp2_with (go_at_call 30; refine (HFL.out _ T4.out).mono ?_; rintro e w5 ⟨rfl, ht5, hb5⟩; have T5 : Hid (St16 w5 (w0.heap.size + 1 + 5) c (.slice (some ⟨aP, 0, none⟩) c cP) (.slice (some ⟨aQ, 0, none⟩) c cQ) (.slice (some ⟨aR, 0, none⟩) c cR) (.slice (some ⟨aS, 0, none⟩) c cS) C3 D (fun _ => (r : Int)) (fun _ => (r : Int)) ([blkT w1.heap.size 30 #[.int .i64 (c : Int), .int .i64 (k : Int), .int .i64 (r : Int), .slice (some ⟨aP, 0, none⟩) c cP, .slice (some ⟨aQ, 0, none⟩) c cQ], blkT (w1.heap.size + 1) 33 #[.int .i64 (c : Int), .int .i64 (k : Int), .int .i64 (r : Int), .slice (some ⟨aR, 0, none⟩) c cR, .slice (some ⟨aS, 0, none⟩) c cS]])) := ht5; have B5 : Hid (Below (w0.heap.size + 1 + 5) w2 w5) := B4.out.trans hb5; clear ht5 hb5)
      have hS5 : (fun W : World => W.cell? ⟨w1.heap.size, 0, none⟩ = some (.int .i64 (c : Int)) ∧ W.cell? ⟨w1.heap.size, 1, none⟩ = some (.int .i64 (k : Int)) ∧ W.cell? ⟨w1.heap.size, 2, none⟩ = some (.int .i64 (r : Int)) ∧ W.cell? ⟨w1.heap.size, 3, none⟩ = some (.slice (some ⟨aP, 0, none⟩) c cP) ∧ W.cell? ⟨w1.heap.size, 4, none⟩ = some (.slice (some ⟨aQ, 0, none⟩) c cQ)) w5 := HS5.out _ _ T5.out
      refine ⟨hS5, ?_⟩
      clear hS4
      refine held_quiet 13 (v := ?v13q22) rfl (by kernel_rfl) (fun _ _ _ h => h) (by assumption) rfl ?hy13q22 ?rest13q22
      case hy13q22 => (intro wS hSw; (try dsimp only at hSw); go_simp; try with_reducible rfl)
      try simp only [Act.put, List.setIfInBounds_toArray, List.set_cons_zero, List.set_cons_succ]
      refine held_quiet 14 (v := ?v14q23) rfl (by kernel_rfl) (fun _ _ _ h => h) (by assumption) rfl ?hy14q23 ?rest14q23
      case hy14q23 => (intro wS hSw; (try dsimp only at hSw); go_simp; try with_reducible rfl)
      try simp only [Act.put, List.setIfInBounds_toArray, List.set_cons_zero, List.set_cons_succ]
      refine held_quiet 15 (v := ?v15q24) rfl (by kernel_rfl) (fun _ _ _ h => h) (by assumption) rfl ?hy15q24 ?rest15q24
      case hy15q24 => (intro wS hSw; (try dsimp only at hSw); go_simp; try with_reducible rfl)
      try simp only [Act.put, List.setIfInBounds_toArray, List.set_cons_zero, List.set_cons_succ]
      refine held_done (by kernel_rfl) ?_
      go_wp2_with fail
      go_meet
      exact ⟨rfl, by rw [E4.out]; exact T5.out, B5.out⟩
  case rest =>
    obtain ⟨rfl, hT8, hB8⟩ := hcut
    obtain ⟨w8, hw8⟩ : ∃ w8, w8 = wc := ⟨_, rfl⟩
    subst hw8
    have T8 : Hid (St16 w8 (w0.heap.size + 1 + 5) c (.slice (some ⟨aP, 0, none⟩) c cP) (.slice (some ⟨aQ, 0, none⟩) c cQ) (.slice (some ⟨aR, 0, none⟩) c cR) (.slice (some ⟨aS, 0, none⟩) c cS) C4 D (fun _ => (r : Int)) (fun _ => (r : Int)) ([blkT w1.heap.size 30 #[.int .i64 (c : Int), .int .i64 (k : Int), .int .i64 (r : Int), .slice (some ⟨aP, 0, none⟩) c cP, .slice (some ⟨aQ, 0, none⟩) c cQ], blkT (w1.heap.size + 1) 33 #[.int .i64 (c : Int), .int .i64 (k : Int), .int .i64 (r : Int), .slice (some ⟨aR, 0, none⟩) c cR, .slice (some ⟨aS, 0, none⟩) c cS]])) := hT8
    have BW8 : Hid (Below w.heap.size w w8) := B2.out.trans (hB8.mono HBB.out)
    have G8 : Hid (ShpAt w8 w0.heap.size (c : Int) (k : Int) (r : Int)) := HGE2.out.below hB8 (by omega)
    clear hT8 hB8 j0 j1 j2 j3 j4 hl2 hg0 hg1 hg2 hgl hS0 T2d
    go_upto_region 11 with fail
    obtain ⟨hh4, hf4⟩ := HH4.out
    obtain ⟨U, hU⟩ : ∃ U, safeV fl c k R O Q X = U := ⟨_, rfl⟩
    have HU : Hid (safeV fl c k R O Q X = U) := hU
    obtain ⟨V, hV⟩ : ∃ V, Ro.upd2 (fun _ _ => Ro.zero64) (Ro.colN c R Q) (4 + R * k + O) X.data.toList = V := ⟨_, rfl⟩
    rw [hU, hV] at hh4
    have HH8 : Hid (Ro.Have c (4 + r * k) U V C4 ∧ Few16 C4 1) := ⟨hh4, hf4⟩
    clear hU hV hh4 hf4
    go_loopg [23] c (fun gg s23 wr => ∃ t : Nat, t ≤ c ∧ gg = c - t ∧ s23 = .int .i64 (t : Int) ∧ ∃ Ct, St16 wr (w0.heap.size + 1 + 5) c (.slice (some ⟨aP, 0, none⟩) c cP) (.slice (some ⟨aQ, 0, none⟩) c cQ) (.slice (some ⟨aR, 0, none⟩) c cR) (.slice (some ⟨aS, 0, none⟩) c cS) Ct D (fun _ => (r : Int)) (fun _ => (r : Int)) ([blkT w1.heap.size 30 #[.int .i64 (c : Int), .int .i64 (k : Int), .int .i64 (r : Int), .slice (some ⟨aP, 0, none⟩) c cP, .slice (some ⟨aQ, 0, none⟩) c cQ], blkT (w1.heap.size + 1) 33 #[.int .i64 (c : Int), .int .i64 (k : Int), .int .i64 (r : Int), .slice (some ⟨aR, 0, none⟩) c cR, .slice (some ⟨aS, 0, none⟩) c cS]]) ∧ Few16 Ct 1 ∧ Ro.Have c (4 + r * k) U (crV t U V) Ct ∧ Below (w0.heap.size + 1 + 5) w8 wr)
    case atStart => exact ⟨0, Nat.zero_le _, rfl, rfl, C4, T8.out, HH8.out.2, have_start HH8.out.1, Below.refl _ _⟩
    case round =>
      obtain ⟨t, ht, rfl, rfl, Ct, hT, hF, hH, hB⟩ := hrel
      obtain ⟨wr', hwr⟩ : ∃ w', w' = wr := ⟨_, rfl⟩
      have TT : Hid (St16 wr (w0.heap.size + 1 + 5) c (.slice (some ⟨aP, 0, none⟩) c cP) (.slice (some ⟨aQ, 0, none⟩) c cQ) (.slice (some ⟨aR, 0, none⟩) c cR) (.slice (some ⟨aS, 0, none⟩) c cS) Ct D (fun _ => (r : Int)) (fun _ => (r : Int)) ([blkT w1.heap.size 30 #[.int .i64 (c : Int), .int .i64 (k : Int), .int .i64 (r : Int), .slice (some ⟨aP, 0, none⟩) c cP, .slice (some ⟨aQ, 0, none⟩) c cQ], blkT (w1.heap.size + 1) 33 #[.int .i64 (c : Int), .int .i64 (k : Int), .int .i64 (r : Int), .slice (some ⟨aR, 0, none⟩) c cR, .slice (some ⟨aS, 0, none⟩) c cS]])) := hT
      have FF : Hid (Few16 Ct 1 ∧ Ro.Have c (4 + r * k) U (crV t U V) Ct ∧ Below (w0.heap.size + 1 + 5) w8 wr) := ⟨hF, hH, hB⟩
      obtain ⟨g0, g1, g2⟩ := G8.out.below hB (by omega)
      have hgl : w0.heap.size < wr.heap.size := World.block_lt_of_cell? _ _ g0
      obtain ⟨j0, j1, j2, j3, j4⟩ := HS5.out _ _ hT
      have hl2 : w1.heap.size < wr.heap.size := World.block_lt_of_cell? _ _ j0
      by_cases hlt : t < c
      · have hi : (t : Int) < (c : Int) := by omega
        obtain ⟨p, E, hC, _⟩ := hH t hlt
        have hcell := hT.cellP hlt
        rw [hC] at hcell
        have hce : wr.cell? ⟨aP, t, none⟩ = some (.pointer (some ⟨p, 0, none⟩)) := hcell
        have hlp : aP < wr.heap.size := World.block_lt_of_cell? _ _ hce
        have HCC : Hid (Ct t = some (p, E)) := hC
        clear hT hF hH hB hC hcell
        go_wp2_with fail
        refine (prCrash TT.out FF.out.1 (by omega) hlt HCC.out).mono ?_
        rintro e w9 ⟨rfl, ht9, hb9⟩
        have T9 : Hid (St16 w9 (w0.heap.size + 1 + 5) c (.slice (some ⟨aP, 0, none⟩) c cP) (.slice (some ⟨aQ, 0, none⟩) c cQ) (.slice (some ⟨aR, 0, none⟩) c cR) (.slice (some ⟨aS, 0, none⟩) c cS) (swap1 Ct t (some (p, E.crash []))) D (fun _ => (r : Int)) (fun _ => (r : Int)) ([blkT w1.heap.size 30 #[.int .i64 (c : Int), .int .i64 (k : Int), .int .i64 (r : Int), .slice (some ⟨aP, 0, none⟩) c cP, .slice (some ⟨aQ, 0, none⟩) c cQ], blkT (w1.heap.size + 1) 33 #[.int .i64 (c : Int), .int .i64 (k : Int), .int .i64 (r : Int), .slice (some ⟨aR, 0, none⟩) c cR, .slice (some ⟨aS, 0, none⟩) c cS]])) := ht9
        have B9 : Hid (Below (w0.heap.size + 1 + 5) w8 w9) := FF.out.2.2.trans hb9
        clear ht9 hb9
        go_wp2
        go_roundg (c - (t + 1))
        case measure => omega
        case rel => exact ⟨t + 1, by omega, rfl, by go_num, _, T9.out, few_crash FF.out.1, have_crash FF.out.2.1 hlt HCC.out, B9.out⟩
      · have htc : t = c := by omega
        have hx2 : ¬ (t : Int) < (c : Int) := by omega
        rw [htc] at hH
        have HHE : Hid (Ro.Have c (4 + r * k) U U Ct) := have_end hH
        have BT : Hid (Below w.heap.size w wr) := BW8.out.trans (hB.mono HBB.out)
        have GT : Hid (ShpAt wr w0.heap.size (c : Int) (k : Int) (r : Int)) := G8.out.below hB (by omega)
        clear hT hF hH hB htc
        obtain ⟨wt, hwt⟩ : ∃ wt, wt = wr := ⟨_, rfl⟩
        subst hwt
        have HALL : Hid (∀ W, Below wt.heap.size wt W → W.cell? ⟨w0.heap.size, 0, none⟩ = some (.int .i64 (c : Int)) ∧ W.cell? ⟨w0.heap.size, 1, none⟩ = some (.int .i64 (k : Int)) ∧ W.cell? ⟨w0.heap.size, 2, none⟩ = some (.int .i64 (r : Int)) ∧ (W.cell? ⟨w1.heap.size, 0, none⟩ = some (.int .i64 (c : Int)) ∧ W.cell? ⟨w1.heap.size, 1, none⟩ = some (.int .i64 (k : Int)) ∧ W.cell? ⟨w1.heap.size, 2, none⟩ = some (.int .i64 (r : Int)) ∧ W.cell? ⟨w1.heap.size, 3, none⟩ = some (.slice (some ⟨aP, 0, none⟩) c cP) ∧ W.cell? ⟨w1.heap.size, 4, none⟩ = some (.slice (some ⟨aQ, 0, none⟩) c cQ)) ∧ w0.heap.size < W.heap.size ∧ w1.heap.size < W.heap.size) := fun W hW => by
          obtain ⟨g0, g1, g2⟩ := GT.out.below hW GT.out.lt
          have hs := HS5.out _ _ (TT.out.below hW)
          exact ⟨g0, g1, g2, hs, World.block_lt_of_cell? _ _ g0, World.block_lt_of_cell? _ _ hs.1⟩
        have HRDW : Hid (∀ W (i j : Nat), Below wt.heap.size wt W → i < r → j < k → Calls Tryz.prog 12 #[.agg #[.int .i64 (c : Int), .int .i64 (k : Int), .int .i64 (r : Int), .slice (some ⟨aP, 0, none⟩) c cP, .slice (some ⟨aQ, 0, none⟩) c cQ], .int .i64 (i : Int), .int .i64 (j : Int)] W fun e w' => ∃ al cl ai ci, e = .returned (.tuple #[.slice al c cl, .slice ai 0 ci, .int .i64 0]) ∧ RowS w' al c (fun q => if (i = R ∧ j = O ∧ q = Q) ∧ fl = true then X else Y) ∧ Below W.heap.size W w') := fun W i j hW hi hj => by
          have h := pRead16_any (dcap := cP) (bcap := cQ) hok (by omega) (i : Int) (j : Int) W (TT.out.below hW).pr.set
          obtain ⟨e1, e2, e3⟩ := HHE.out.reads (bf := (fun _ => (r : Int))) (fun _ _ => Int.le_refl _) (Nat.le_refl _) hi hj hc0
          rw [e1, e2, e3] at h
          refine h.mono ?_
          rintro e w' ⟨⟨al, cl, ai, ci, rfl, h1, _⟩, hb⟩
          refine ⟨al, cl, ai, ci, rfl, h1.mono (Nat.le_refl _) fun q hq => ?_, hb⟩
          rw [(HHE.out.one (bf := (fun _ => (r : Int))) (fun _ _ => Int.le_refl _) (Nat.le_refl _) hi hj (q := q) hc0).2, ← HU.out, safe_at hj hOk hq hQc, hY]
        have VX : (X.toList != X.toList) = false := by simp
        have VY : (Y.toList != Y.toList) = false := by simp
        go_upto_region 14 with fail
        clear g0 g1 g2 hgl j0 j1 j2 j3 j4 hl2 hok hlt hx2
        go_upto_region 15 with fail
        go_loopg [24] r (fun gg s24 wr => ∃ i : Nat, i ≤ r ∧ gg = r - i ∧ s24 = .int .i64 (i : Int) ∧ Below wt.heap.size wt wr)
        case atStart => exact ⟨0, Nat.zero_le _, rfl, rfl, Below.refl _ _⟩
        case round =>
          obtain ⟨i, hi, rfl, rfl, hB⟩ := hrel
          have BI : Hid (Below wt.heap.size wt wr) := hB
          obtain ⟨g0, g1, g2, ⟨j0, j1, j2, j3, j4⟩, hgl, hsl⟩ := HALL.out wr hB
          clear hB
          by_cases hir : i < r
          · have hiri : (i : Int) < (r : Int) := by omega
            go_upto_region 18 with fail
            clear g0 g1 g2 j0 j1 j2 j3 j4 hgl hsl
            go_loopg [25] k (fun gg s25 wr => ∃ j : Nat, j ≤ k ∧ gg = k - j ∧ s25 = .int .i64 (j : Int) ∧ Below wt.heap.size wt wr)
            case atStart => exact ⟨0, Nat.zero_le _, rfl, rfl, BI.out⟩
            case round =>
              obtain ⟨j, hj, rfl, rfl, hB⟩ := hrel
              have BJ : Hid (Below wt.heap.size wt wr) := hB
              obtain ⟨g0, g1, g2, ⟨j0, j1, j2, j3, j4⟩, hgl, hsl⟩ := HALL.out wr hB
              clear hB
              by_cases hjk : j < k
              · have hjki : (j : Int) < (k : Int) := by omega
                go_wp2_with fail
                refine (HRDW.out _ i j BJ.out hir hjk).mono ?_
                rintro e w4 ⟨al, cl, ai, ci, rfl, hrow, hb4⟩
                have B4 : Hid (Below wt.heap.size wt w4) := BJ.out.trans (hb4.mono BJ.out.size)
                have HROW : Hid (RowS w4 al c (fun q => if (i = R ∧ j = O ∧ q = Q) ∧ fl = true then X else Y)) := hrow
                clear g0 g1 g2 j0 j1 j2 j3 j4 hgl hsl hrow hb4
                obtain ⟨g0, g1, g2, ⟨j0, j1, j2, j3, j4⟩, hgl, hsl⟩ := HALL.out w4 B4.out
                have VC : ((c : Int) != (c : Int)) = false := by simp
                go_wp2_with fail
                clear g0 g1 g2 j0 j1 j2 j3 j4 hgl hsl VC
                obtain ⟨b1, o1, rfl, _⟩ := HROW.out 0 hc0
                go_loopg [29] c (fun gg s29 wr => ∃ q : Nat, q ≤ c ∧ gg = c - q ∧ s29 = .int .i64 (q : Int) ∧ Below w4.heap.size w4 wr)
                case atStart => exact ⟨0, Nat.zero_le _, rfl, rfl, Below.refl _ _⟩
                case round =>
                  obtain ⟨q, hq, rfl, rfl, hB⟩ := hrel
                  have BQ : Hid (Below w4.heap.size w4 wr) := hB
                  have BQ2 : Hid (Below wt.heap.size wt wr) := B4.out.trans (hB.mono B4.out.size)
                  obtain ⟨g0, g1, g2, ⟨j0, j1, j2, j3, j4⟩, hgl, hsl⟩ := HALL.out wr BQ2.out
                  clear hB j0 j1 j2 j3 j4 hsl
                  by_cases hqc : q < c
                  · have hqci : (q : Int) < (c : Int) := by omega
                    obtain ⟨b2, o2, eb, hcell⟩ := (HROW.out.below BQ.out) q hqc
                    injection eb with eb
                    injection eb with eb1 eb2
                    subst eb1
                    subst eb2
                    have hl1 : b1 < wr.heap.size := World.block_lt_of_cell? _ _ hcell
                    replace hcell : wr.cell? ⟨b1, o1 + q, none⟩ = some (.string (if (i = R ∧ j = O ∧ q = Q) ∧ fl = true then X else Y)) := hcell
                    by_cases h1 : i = R
                    · have v1 : ((i : Int) == (R : Int)) = true := by rw [h1]; simp
                      by_cases h2 : j = O
                      · have v2 : ((j : Int) == (O : Int)) = true := by rw [h2]; simp
                        by_cases h3 : q = Q
                        · have v3 : ((q : Int) == (Q : Int)) = true := by rw [h3]; simp
                          cases fl with
                          | true =>
                            rw [if_pos ⟨⟨h1, h2, h3⟩, rfl⟩] at hcell
                            clear h1 h2 h3
                            go_wp2_with fail
                            refine (HFE.out _).mono ?_; rintro e w5 ⟨rfl, h5⟩; have h5' := h5.symm; subst h5'; clear h5
                            go_wp2_with fail
                            refine (HFU.out _).mono ?_; rintro e w5 ⟨rfl, h5⟩; have h5' := h5.symm; subst h5'; clear h5
                            go_wp2; go_roundg (c - (q + 1)); (case measure => omega); (case rel => exact ⟨q + 1, by omega, rfl, by go_num, BQ.out⟩)
                          | false =>
                            rw [if_neg (fun h => by cases h.2)] at hcell
                            clear h1 h2 h3
                            go_wp2_with fail
                            refine (HFE.out _).mono ?_; rintro e w5 ⟨rfl, h5⟩; have h5' := h5.symm; subst h5'; clear h5; go_wp2; go_roundg (c - (q + 1)); (case measure => omega); (case rel => exact ⟨q + 1, by omega, rfl, by go_num, BQ.out⟩)
                        · have v3 : ((q : Int) == (Q : Int)) = false := beq_eq_false_iff_ne.2 (by omega)
                          rw [if_neg (fun h => h3 h.1.2.2)] at hcell
                          clear h1 h2 h3
                          go_wp2_with fail
                          refine (HFE.out _).mono ?_; rintro e w5 ⟨rfl, h5⟩; have h5' := h5.symm; subst h5'; clear h5; go_wp2; go_roundg (c - (q + 1)); (case measure => omega); (case rel => exact ⟨q + 1, by omega, rfl, by go_num, BQ.out⟩)
                      · have v2 : ((j : Int) == (O : Int)) = false := beq_eq_false_iff_ne.2 (by omega)
                        rw [if_neg (fun h => h2 h.1.2.1)] at hcell
                        clear h1 h2
                        go_wp2_with fail
                        refine (HFE.out _).mono ?_; rintro e w5 ⟨rfl, h5⟩; have h5' := h5.symm; subst h5'; clear h5; go_wp2; go_roundg (c - (q + 1)); (case measure => omega); (case rel => exact ⟨q + 1, by omega, rfl, by go_num, BQ.out⟩)
                    · have v1 : ((i : Int) == (R : Int)) = false := beq_eq_false_iff_ne.2 (by omega)
                      rw [if_neg (fun h => h1 h.1.1)] at hcell
                      clear h1
                      go_wp2_with fail
                      refine (HFE.out _).mono ?_; rintro e w5 ⟨rfl, h5⟩; have h5' := h5.symm; subst h5'; clear h5; go_wp2; go_roundg (c - (q + 1)); (case measure => omega); (case rel => exact ⟨q + 1, by omega, rfl, by go_num, BQ.out⟩)
                  · have hqn : ¬ (q : Int) < (c : Int) := by omega
                    go_wp2
                    go_roundg (k - (j + 1))
                    case measure => omega
                    case rel => exact ⟨j + 1, by omega, rfl, by go_num, BQ2.out⟩
              · have hjn : ¬ (j : Int) < (k : Int) := by omega
                go_wp2
                go_roundg (r - (i + 1))
                case measure => omega
                case rel => exact ⟨i + 1, by omega, rfl, by go_num, BJ.out⟩
          · have hin : ¬ (i : Int) < (r : Int) := by omega
            go_wp2
            go_ret
            exact ⟨rfl, BT.out.trans (BI.out.mono BT.out.size)⟩

theorem walk (a : Int) (wa : (Lit.int .u8 a).wf = true) (b : Int) (wb : (Lit.int .u8 b).wf = true) (d : Int) (wd : (Lit.int .u8 d).wf = true) (x : Int) (wx : (Lit.int .u8 x).wf = true) (y : Int) (wy : (Lit.int .u8 y).wf = true) (z : Int) (wz : (Lit.int .u8 z).wf = true) (s : ByteArray) (_ws : s.size ≤ maxLen) (fl : Bool) (w : World) :
    Calls Tryz.prog 5 #[.int .u8 a, .int .u8 b, .int .u8 d, .int .u8 x, .int .u8 y, .int .u8 z, .string s, .bool fl] w fun e w' => e = .returned (.bool true) ∧ Below w.heap.size w w' := by
  obtain ⟨A, rfl, hA⟩ : ∃ N : Nat, a = (N : Int) ∧ N < 256 := by have := bounds_u8 wa; exact ⟨a.toNat, by omega, by omega⟩
  obtain ⟨B, rfl, hB⟩ : ∃ N : Nat, b = (N : Int) ∧ N < 256 := by have := bounds_u8 wb; exact ⟨b.toNat, by omega, by omega⟩
  obtain ⟨E, rfl, hE⟩ : ∃ N : Nat, d = (N : Int) ∧ N < 256 := by have := bounds_u8 wd; exact ⟨d.toNat, by omega, by omega⟩
  obtain ⟨X, rfl, hX⟩ : ∃ N : Nat, x = (N : Int) ∧ N < 256 := by have := bounds_u8 wx; exact ⟨x.toNat, by omega, by omega⟩
  obtain ⟨Y, rfl, hY⟩ : ∃ N : Nat, y = (N : Int) ∧ N < 256 := by have := bounds_u8 wy; exact ⟨y.toNat, by omega, by omega⟩
  obtain ⟨Z, rfl, hZ⟩ : ∃ N : Nat, z = (N : Int) ∧ N < 256 := by have := bounds_u8 wz; exact ⟨z.toNat, by omega, by omega⟩
  by_cases hs : s.size ≤ 100
  · have hok := geo16_ok A B E
    have hg := fun W => geo16_any A B E hA hB hE W
    obtain ⟨c, hc⟩ : ∃ c, geo16c A = c := ⟨_, rfl⟩
    obtain ⟨k, hk⟩ : ∃ k, geo16k B = k := ⟨_, rfl⟩
    obtain ⟨r, hr⟩ : ∃ r, geo16r E = r := ⟨_, rfl⟩
    rw [hc, hk, hr] at hok
    rw [hc, hk, hr] at hg
    exact walk_small A B E X Y Z c k r hok hg hX hY hZ s fl hs w
  · exact walk_big A B E X Y Z s fl hs w

theorem own : ownKnob Tryz.prog.godebug = none := by kernel_rfl
set_option linter.unusedVariables false in
set_option maxRecDepth 100000 in
theorem lifted (os : Os) (started : os.Started) (H : Type) (enc : TypeId × Value → H) :
    ReturnsInHanded {} Tryz.checked os 5 .any (Rows.rowWritesSpec.pre6 enc Tryz.prog Tryz.f5 Rows.rowWritesRow.domain false) (Rows.rowWritesSpec.post enc Tryz.prog Tryz.f5 false true false false) := by
  refine returnsInHanded_of_change (C := Tryz.checked) own started (by kernel_rfl) Tryz.func5
    (ChangeSpec.witness6 (enc := enc) (C := Tryz.checked) false ⟨#[], #[.int .u8 0, .int .u8 0, .int .u8 0, .int .u8 0, .int .u8 0, .int .u8 0, .string ByteArray.empty, .bool false], []⟩ 8 (by kernel_rfl) (by kernel_rfl) (by kernel_rfl) (by kernel_rfl)) ?_
  intro W base args ds gs before hval0 hW hcnd _
  have hval : ∀ (j : Nat) t v, Tryz.f5.params[j]? = some t → args[j]? = some v → Value.okWide Tryz.prog W .any base t v := hval0
  have hW' := hW
  obtain ⟨p, q, hA0, hV, rfl, hfz, hnd⟩ := hW
  have hA : DataW.TrodAll enc Tryz.prog W 0 (fun _ => true) true Tryz.f5.params.toList args.toList ds p := hA0
  rw [Tryz.params5] at hA hval
  obtain ⟨v0, vs0, d0, ds0, p0, q0, hargs, rfl, rfl, h0, r0⟩ := trodAll_cons hA
  obtain ⟨v1, vs1, d1, ds1, p1, q1, rfl, rfl, rfl, h1, r1⟩ := trodAll_cons r0
  obtain ⟨v2, vs2, d2, ds2, p2, q2, rfl, rfl, rfl, h2, r2⟩ := trodAll_cons r1
  obtain ⟨v3, vs3, d3, ds3, p3, q3, rfl, rfl, rfl, h3, r3⟩ := trodAll_cons r2
  obtain ⟨v4, vs4, d4, ds4, p4, q4, rfl, rfl, rfl, h4, r4⟩ := trodAll_cons r3
  obtain ⟨v5, vs5, d5, ds5, p5, q5, rfl, rfl, rfl, h5, r5⟩ := trodAll_cons r4
  obtain ⟨v6, vs6, d6, ds6, p6, q6, rfl, rfl, rfl, h6, r6⟩ := trodAll_cons r5
  obtain ⟨v7, vs7, d7, ds7, p7, q7, rfl, rfl, rfl, h7, r7⟩ := trodAll_cons r6
  obtain ⟨rfl, rfl, rfl⟩ := trodAll_nil r7
  obtain rfl : args = #[v0, v1, v2, v3, v4, v5, v6, v7] := by cases args; simp_all
  obtain ⟨rfl, rfl⟩ := trodVars_none hV
  obtain ⟨a0, rfl, rfl, rfl, w0⟩ := open_int Tryz.underlying5 (hval 0 5 v0 rfl rfl) h0
  obtain ⟨a1, rfl, rfl, rfl, w1⟩ := open_int Tryz.underlying5 (hval 1 5 v1 rfl rfl) h1
  obtain ⟨a2, rfl, rfl, rfl, w2⟩ := open_int Tryz.underlying5 (hval 2 5 v2 rfl rfl) h2
  obtain ⟨a3, rfl, rfl, rfl, w3⟩ := open_int Tryz.underlying5 (hval 3 5 v3 rfl rfl) h3
  obtain ⟨a4, rfl, rfl, rfl, w4⟩ := open_int Tryz.underlying5 (hval 4 5 v4 rfl rfl) h4
  obtain ⟨a5, rfl, rfl, rfl, w5⟩ := open_int Tryz.underlying5 (hval 5 5 v5 rfl rfl) h5
  obtain ⟨a6, rfl, rfl, rfl, w6⟩ := open_string Tryz.underlying9 (hval 6 9 v6 rfl rfl) h6
  obtain ⟨a7, rfl, rfl, rfl⟩ := open_bool Tryz.underlying4 (hval 7 4 v7 rfl rfl) h7
  clear hA0 hval0
  simp only [List.append_nil] at hW'
  refine (walk a0 w0 a1 w1 a2 w2 a3 w3 a4 w4 a5 w5 a6 w6 a7 W).mono fun e W' ⟨he, hg⟩ => ?_
  subst he
  exact ⟨_, rfl, _, _, _, [], [], [], hW', trodAll_mk1 (shut_bool Tryz.underlying4 _), (trodAll_cons_mk (shut_int Tryz.underlying5 w0) (trodAll_cons_mk (shut_int Tryz.underlying5 w1) (trodAll_cons_mk (shut_int Tryz.underlying5 w2) (trodAll_cons_mk (shut_int Tryz.underlying5 w3) (trodAll_cons_mk (shut_int Tryz.underlying5 w4) (trodAll_cons_mk (shut_int Tryz.underlying5 w5) (trodAll_cons_mk (shut_string Tryz.underlying9 w6) (trodAll_cons_mk (shut_bool Tryz.underlying4 a7) trodAll_mk0)))))))), rfl, hg.frame _, fun h => by cases h⟩
/-- For every input the law returns true, and each argument reads as it did. -/
theorem proved : Rows.RowWritesSaid :=
  OpenClaim.holds_of_wide 5 Tryz.f5 rfl rfl rfl rfl rfl rfl rfl ⟨rfl, rfl, rfl, rfl, rfl⟩ rfl rfl rfl rfl rfl (by kernel_rfl) Tryz.func5 (by kernel_rfl)
    (of_decide_eq_true (by kernel_rfl)) (by unfold Func.isWrapper; first | (rw [if_pos (by decide +kernel)]; kernel_rfl) | (rw [if_neg (by decide +kernel)]; exact ⟨rfl, rfl⟩))
    (fun os started H enc _ => lifted os started H enc)
end Go.Proofs.YtdgkhjgnjfgnlaaGreat.rowWrites
