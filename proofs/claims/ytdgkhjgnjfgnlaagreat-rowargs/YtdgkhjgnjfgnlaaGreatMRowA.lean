/- Several texts in one. The law on rows' arguments, of a place that is one, and a role below nought, or a data column's. The law on rows' arguments, of a place that is one, and a role of P or Q, or past them. -/
import Derived.Test.YtdgkhjgnjfgnlaaGreatMRoG
namespace Go.Proofs.YtdgkhjgnjfgnlaaGreat.rowArgs
open Go.RowKit
attribute [local go_sem] Oper.semAt_some

set_option maxRecDepth 100000 in
set_option maxHeartbeats 16000000 in
theorem walk_in1 (a b d c k r : Nat) (hok : Lay.ok (c : Int) (k : Int) (r : Int)) (hg : ∀ W, Calls Tryz.prog 10 #[.int .u8 (a : Int), .int .u8 (b : Int), .int .u8 (d : Int)] W fun e w' => e = .returned (.agg #[.int .i64 (c : Int), .int .i64 (k : Int), .int .i64 (r : Int)]) ∧ Below W.heap.size W w') (row off role : Int) (h1 : 0 ≤ row) (h2 : row < (r : Int)) (h3 : 0 ≤ off) (h4 : off < (k : Int)) (h5 : ¬ 0 ≤ role) (hcase : Case c k r row off role true 0 70 70) (w : World) :
    Calls Tryz.prog 6 #[.int .u8 (a : Int), .int .u8 (b : Int), .int .u8 (d : Int), .int .i64 row, .int .i64 off, .int .i64 role] w fun e w' => e = .returned (.bool true) ∧ Below w.heap.size w w' := by
  have a1 : decide ((0 : Int) ≤ row) = true := decide_eq_true h1
  have a2 : decide (row < (r : Int)) = true := decide_eq_true h2
  have a3 : decide ((0 : Int) ≤ off) = true := decide_eq_true h3
  have a4 : decide (off < (k : Int)) = true := decide_eq_true h4
  have r1 : decide ((0 : Int) ≤ role) = false := decide_eq_false h5
  have HG : Hid (∀ W, Calls Tryz.prog 10 #[.int .u8 (a : Int), .int .u8 (b : Int), .int .u8 (d : Int)] W fun e w' => e = .returned (.agg #[.int .i64 (c : Int), .int .i64 (k : Int), .int .i64 (r : Int)]) ∧ Below W.heap.size W w') := hg
  have HPA : Hid (∀ W, Calls Tryz.prog 9 #[.agg #[.int .i64 (c : Int), .int .i64 (k : Int), .int .i64 (r : Int)], .bool false] W (PairSt W c k r (4 + r * k))) := fun W => pair16_st c k r hok false (4 + r * k) rfl W
  obtain ⟨X, hX⟩ : ∃ X, Ro.fillB ⟨#[97]⟩ = X := ⟨_, rfl⟩
  have hX64 : X.size = 64 := by rw [← hX]; exact Ro.fillB_size _
  have HFU : Hid (∀ W, Calls Tryz.prog 24 #[.string ⟨#[97]⟩] W fun e w' => e = .returned (.string X) ∧ w' = W) := fun W => by rw [← hX]; exact full16_any _ (by decide) W
  obtain ⟨Y, hY⟩ : ∃ Y, Ro.fillB ⟨#[]⟩ = Y := ⟨_, rfl⟩
  have HFE : Hid (∀ W, Calls Tryz.prog 24 #[.string ⟨#[]⟩] W fun e w' => e = .returned (.string Y) ∧ w' = W) := fun W => by rw [← hY]; exact full16_any _ (by decide) W
  have hc4 : 4 ≤ c := by have := hok.1; omega
  have hc10 : c ≤ 10 := by have := hok.1; omega
  have hk4 : k ≤ 4 := by have := hok.2.1; omega
  have hr4 : r ≤ 256 := by have := hok.2.2; omega
  have hc0 : 0 < c := by omega
  have hc0i : (0 : Int) < (c : Int) := by omega
  have HCASE : Hid (Case c k r row off role true 0 70 70) := hcase
  clear hX hY hg hcase
  go_enter Tryz.func6, Tryz.ntmps6
  go_wp2_with fail
  refine (HG.out _).mono ?_
  rintro e w0 ⟨rfl, hb0⟩
  have B0 : Hid (Below w.heap.size w w0) := hb0
  clear hb0
  go_wp2_with fail
  refine (HPA.out _).mono ?_
  rintro e w1 ⟨aP, cP, aQ, cQ, aR, cR, aS, cS, C, D, rfl, hC, _, hF, _, _, hS, hb1⟩
  rw [World.size_alloc] at hS hb1
  have G1 := (ShpAt.new w0 (c : Int) (k : Int) (r : Int) 26).below hb1 (Nat.lt_succ_self _)
  have HGEO : Hid (ShpAt w1 w0.heap.size (c : Int) (k : Int) (r : Int)) := G1
  have B1 : Hid (Below w.heap.size w w1) := (B0.out.alloc B0.out.size _).trans (hb1.mono (by have := B0.out.size; omega))
  have HBB : Hid (w.heap.size ≤ w0.heap.size + 1 + 5) := by have := B0.out.size; show _ ≤ _; omega
  have HF : Hid (Few16 C 0) := hF
  have hH := Ro.Have.new hC
  have hbx : St16 ((w1.alloc (.cells #[.int .i64 (c : Int), .int .i64 (k : Int), .int .i64 (r : Int), .slice (some ⟨aP, 0, none⟩) c cP, .slice (some ⟨aQ, 0, none⟩) c cQ] 30)).alloc (.cells #[.int .i64 (c : Int), .int .i64 (k : Int), .int .i64 (r : Int), .slice (some ⟨aR, 0, none⟩) c cR, .slice (some ⟨aS, 0, none⟩) c cS] 33)) (w0.heap.size + 1 + 5) c (.slice (some ⟨aP, 0, none⟩) c cP) (.slice (some ⟨aQ, 0, none⟩) c cQ) (.slice (some ⟨aR, 0, none⟩) c cR) (.slice (some ⟨aS, 0, none⟩) c cS) C D (fun _ => (r : Int)) (fun _ => (r : Int)) ([blkT w1.heap.size 30 #[.int .i64 (c : Int), .int .i64 (k : Int), .int .i64 (r : Int), .slice (some ⟨aP, 0, none⟩) c cP, .slice (some ⟨aQ, 0, none⟩) c cQ], blkT (w1.heap.size + 1) 33 #[.int .i64 (c : Int), .int .i64 (k : Int), .int .i64 (r : Int), .slice (some ⟨aR, 0, none⟩) c cR, .slice (some ⟨aS, 0, none⟩) c cS]]) := by
    have h := (hS.box 30 #[.int .i64 (c : Int), .int .i64 (k : Int), .int .i64 (r : Int), .slice (some ⟨aP, 0, none⟩) c cP, .slice (some ⟨aQ, 0, none⟩) c cQ]).box 33 #[.int .i64 (c : Int), .int .i64 (k : Int), .int .i64 (r : Int), .slice (some ⟨aR, 0, none⟩) c cR, .slice (some ⟨aS, 0, none⟩) c cS]
    rw [World.size_alloc] at h
    exact h
  have HS2 : Hid (St16 ((w1.alloc (.cells #[.int .i64 (c : Int), .int .i64 (k : Int), .int .i64 (r : Int), .slice (some ⟨aP, 0, none⟩) c cP, .slice (some ⟨aQ, 0, none⟩) c cQ] 30)).alloc (.cells #[.int .i64 (c : Int), .int .i64 (k : Int), .int .i64 (r : Int), .slice (some ⟨aR, 0, none⟩) c cR, .slice (some ⟨aS, 0, none⟩) c cS] 33)) (w0.heap.size + 1 + 5) c (.slice (some ⟨aP, 0, none⟩) c cP) (.slice (some ⟨aQ, 0, none⟩) c cQ) (.slice (some ⟨aR, 0, none⟩) c cR) (.slice (some ⟨aS, 0, none⟩) c cS) C D (fun _ => (r : Int)) (fun _ => (r : Int)) ([blkT w1.heap.size 30 #[.int .i64 (c : Int), .int .i64 (k : Int), .int .i64 (r : Int), .slice (some ⟨aP, 0, none⟩) c cP, .slice (some ⟨aQ, 0, none⟩) c cQ], blkT (w1.heap.size + 1) 33 #[.int .i64 (c : Int), .int .i64 (k : Int), .int .i64 (r : Int), .slice (some ⟨aR, 0, none⟩) c cR, .slice (some ⟨aS, 0, none⟩) c cS]])) := hbx
  have hl1 : w1.heap.size < ((w1.alloc (.cells #[.int .i64 (c : Int), .int .i64 (k : Int), .int .i64 (r : Int), .slice (some ⟨aP, 0, none⟩) c cP, .slice (some ⟨aQ, 0, none⟩) c cQ] 30)).alloc (.cells #[.int .i64 (c : Int), .int .i64 (k : Int), .int .i64 (r : Int), .slice (some ⟨aR, 0, none⟩) c cR, .slice (some ⟨aS, 0, none⟩) c cS] 33)).heap.size := hbx.lt (i := 0) rfl
  obtain ⟨p, hp⟩ := hC 0 (by omega)
  have hcp := hbx.cellP (j := 0) (by omega)
  rw [hp] at hcp
  simp only [Ro.ptr] at hcp
  have hlp := World.block_lt_of_cell? _ _ hcp
  have hcap := hbx.capP
  have k0 := hbx.cell (i := 0) rfl 0
  have k1 := hbx.cell (i := 0) rfl 1
  have k2 := hbx.cell (i := 0) rfl 2
  have k3 := hbx.cell (i := 0) rfl 3
  have k4 := hbx.cell (i := 0) rfl 4
  have hmay := hH.may (k := k) (r := r) (Nat.le_refl _)
  have hread := read_ok hC (Nat.le_refl _) hc0 HCASE.out
  have hsec := sec_ok hC (Nat.le_refl _) HCASE.out
  have hwr := wr_ok hC (Nat.le_refl _) HCASE.out hX64
  have HMY : Hid (∀ W, St16 W (w0.heap.size + 1 + 5) c (.slice (some ⟨aP, 0, none⟩) c cP) (.slice (some ⟨aQ, 0, none⟩) c cQ) (.slice (some ⟨aR, 0, none⟩) c cR) (.slice (some ⟨aS, 0, none⟩) c cS) C D (fun _ => (r : Int)) (fun _ => (r : Int)) ([blkT w1.heap.size 30 #[.int .i64 (c : Int), .int .i64 (k : Int), .int .i64 (r : Int), .slice (some ⟨aP, 0, none⟩) c cP, .slice (some ⟨aQ, 0, none⟩) c cQ], blkT (w1.heap.size + 1) 33 #[.int .i64 (c : Int), .int .i64 (k : Int), .int .i64 (r : Int), .slice (some ⟨aR, 0, none⟩) c cR, .slice (some ⟨aS, 0, none⟩) c cS]]) → Calls Tryz.prog 22 #[.agg #[.int .i64 (c : Int), .int .i64 (k : Int), .int .i64 (r : Int), .slice (some ⟨aP, 0, none⟩) c cP, .slice (some ⟨aQ, 0, none⟩) c cQ]] W fun e w' => e = .returned (.bool true) ∧ Below W.heap.size W w') := fun W hW => by
    have h := may16_any (dcap := cP) (bcap := cQ) hok (by omega) W hW.pr.set
    rw [hmay] at h
    exact h
  have HRD : Hid (∀ W, St16 W (w0.heap.size + 1 + 5) c (.slice (some ⟨aP, 0, none⟩) c cP) (.slice (some ⟨aQ, 0, none⟩) c cQ) (.slice (some ⟨aR, 0, none⟩) c cR) (.slice (some ⟨aS, 0, none⟩) c cS) C D (fun _ => (r : Int)) (fun _ => (r : Int)) ([blkT w1.heap.size 30 #[.int .i64 (c : Int), .int .i64 (k : Int), .int .i64 (r : Int), .slice (some ⟨aP, 0, none⟩) c cP, .slice (some ⟨aQ, 0, none⟩) c cQ], blkT (w1.heap.size + 1) 33 #[.int .i64 (c : Int), .int .i64 (k : Int), .int .i64 (r : Int), .slice (some ⟨aR, 0, none⟩) c cR, .slice (some ⟨aS, 0, none⟩) c cS]]) → Calls Tryz.prog 12 #[.agg #[.int .i64 (c : Int), .int .i64 (k : Int), .int .i64 (r : Int), .slice (some ⟨aP, 0, none⟩) c cP, .slice (some ⟨aQ, 0, none⟩) c cQ], .int .i64 row, .int .i64 off] W fun e w' => (∃ x0 x1 x2 x3 x4 x5, e = .returned (.tuple #[.slice x0 x1 x2, .slice x3 x4 x5, .int .i64 0])) ∧ Below W.heap.size W w') := fun W hW => by
    have h := pRead16_any (dcap := cP) (bcap := cQ) hok (by omega) row off W hW.pr.set
    rw [hread] at h
    refine h.mono ?_
    rintro e w' ⟨⟨al, cl, ai, ci, rfl, _⟩, hb⟩
    exact ⟨⟨_, _, _, _, _, _, rfl⟩, hb⟩
  have HSE : Hid (∀ W, St16 W (w0.heap.size + 1 + 5) c (.slice (some ⟨aP, 0, none⟩) c cP) (.slice (some ⟨aQ, 0, none⟩) c cQ) (.slice (some ⟨aR, 0, none⟩) c cR) (.slice (some ⟨aS, 0, none⟩) c cS) C D (fun _ => (r : Int)) (fun _ => (r : Int)) ([blkT w1.heap.size 30 #[.int .i64 (c : Int), .int .i64 (k : Int), .int .i64 (r : Int), .slice (some ⟨aP, 0, none⟩) c cP, .slice (some ⟨aQ, 0, none⟩) c cQ], blkT (w1.heap.size + 1) 33 #[.int .i64 (c : Int), .int .i64 (k : Int), .int .i64 (r : Int), .slice (some ⟨aR, 0, none⟩) c cR, .slice (some ⟨aS, 0, none⟩) c cS]]) → Calls Tryz.prog 16 #[.agg #[.int .i64 (c : Int), .int .i64 (k : Int), .int .i64 (r : Int), .slice (some ⟨aP, 0, none⟩) c cP, .slice (some ⟨aQ, 0, none⟩) c cQ], .int .i64 row, .int .i64 off, .int .i64 role] W fun e w' => (∃ x0, e = .returned (.tuple #[.string x0, .int .i64 70])) ∧ Below W.heap.size W w') := fun W hW => by
    have h := pSector16_any (dcap := cP) (bcap := cQ) hok (by omega) row off role W hW.pr.set
    rw [hsec] at h
    refine h.mono ?_
    rintro e w' ⟨rfl, hb⟩
    exact ⟨⟨_, rfl⟩, hb⟩
  obtain ⟨C2, hC2⟩ : ∃ C2, Ro.wrC c k r c c C row off role X = C2 := ⟨_, rfl⟩
  have HWR : Hid (∀ W, St16 W (w0.heap.size + 1 + 5) c (.slice (some ⟨aP, 0, none⟩) c cP) (.slice (some ⟨aQ, 0, none⟩) c cQ) (.slice (some ⟨aR, 0, none⟩) c cR) (.slice (some ⟨aS, 0, none⟩) c cS) C D (fun _ => (r : Int)) (fun _ => (r : Int)) ([blkT w1.heap.size 30 #[.int .i64 (c : Int), .int .i64 (k : Int), .int .i64 (r : Int), .slice (some ⟨aP, 0, none⟩) c cP, .slice (some ⟨aQ, 0, none⟩) c cQ], blkT (w1.heap.size + 1) 33 #[.int .i64 (c : Int), .int .i64 (k : Int), .int .i64 (r : Int), .slice (some ⟨aR, 0, none⟩) c cR, .slice (some ⟨aS, 0, none⟩) c cS]]) → Calls Tryz.prog 27 #[.agg #[.int .i64 (c : Int), .int .i64 (k : Int), .int .i64 (r : Int), .slice (some ⟨aP, 0, none⟩) c cP, .slice (some ⟨aQ, 0, none⟩) c cQ], .int .i64 row, .int .i64 off, .int .i64 role, .string X] W fun e w' => e = .returned (.int .i64 70) ∧ St16 w' (w0.heap.size + 1 + 5) c (.slice (some ⟨aP, 0, none⟩) c cP) (.slice (some ⟨aQ, 0, none⟩) c cQ) (.slice (some ⟨aR, 0, none⟩) c cR) (.slice (some ⟨aS, 0, none⟩) c cS) C2 D (fun _ => (r : Int)) (fun _ => (r : Int)) ([blkT w1.heap.size 30 #[.int .i64 (c : Int), .int .i64 (k : Int), .int .i64 (r : Int), .slice (some ⟨aP, 0, none⟩) c cP, .slice (some ⟨aQ, 0, none⟩) c cQ], blkT (w1.heap.size + 1) 33 #[.int .i64 (c : Int), .int .i64 (k : Int), .int .i64 (r : Int), .slice (some ⟨aR, 0, none⟩) c cR, .slice (some ⟨aS, 0, none⟩) c cS]]) ∧ Below (w0.heap.size + 1 + 5) W w') := fun W hW => by
    have h := hW.prWrite hok HF.out (by omega) row off role X
    rw [hwr, hC2] at h
    exact h
  have HS5 : Hid (∀ W E, St16 W (w0.heap.size + 1 + 5) c (.slice (some ⟨aP, 0, none⟩) c cP) (.slice (some ⟨aQ, 0, none⟩) c cQ) (.slice (some ⟨aR, 0, none⟩) c cR) (.slice (some ⟨aS, 0, none⟩) c cS) E D (fun _ => (r : Int)) (fun _ => (r : Int)) ([blkT w1.heap.size 30 #[.int .i64 (c : Int), .int .i64 (k : Int), .int .i64 (r : Int), .slice (some ⟨aP, 0, none⟩) c cP, .slice (some ⟨aQ, 0, none⟩) c cQ], blkT (w1.heap.size + 1) 33 #[.int .i64 (c : Int), .int .i64 (k : Int), .int .i64 (r : Int), .slice (some ⟨aR, 0, none⟩) c cR, .slice (some ⟨aS, 0, none⟩) c cS]]) → W.cell? ⟨w1.heap.size, 0, none⟩ = some (.int .i64 (c : Int)) ∧ W.cell? ⟨w1.heap.size, 1, none⟩ = some (.int .i64 (k : Int)) ∧ W.cell? ⟨w1.heap.size, 2, none⟩ = some (.int .i64 (r : Int)) ∧ W.cell? ⟨w1.heap.size, 3, none⟩ = some (.slice (some ⟨aP, 0, none⟩) c cP) ∧ W.cell? ⟨w1.heap.size, 4, none⟩ = some (.slice (some ⟨aQ, 0, none⟩) c cQ)) := fun W E hW => ⟨hW.cell (i := 0) rfl 0, hW.cell (i := 0) rfl 1, hW.cell (i := 0) rfl 2, hW.cell (i := 0) rfl 3, hW.cell (i := 0) rfl 4⟩
  have hdc : c - 1 ≠ c := by omega
  have hm1 : Ro.mayB c k r (c - 1) c (fun i => C2 (i + 1)) = false := by unfold Ro.mayB; rw [decide_eq_false hdc]; rfl
  have hc1 : Ro.chk c k r (c - 1) c (fun i => C2 (i + 1)) 0 0 = 1 := by unfold Ro.chk; rw [hm1]; rfl
  have HN1 : Hid (∀ W, W.cell? ⟨w1.heap.size, 0, none⟩ = some (.int .i64 (c : Int)) ∧ W.cell? ⟨w1.heap.size, 1, none⟩ = some (.int .i64 (k : Int)) ∧ W.cell? ⟨w1.heap.size, 2, none⟩ = some (.int .i64 (r : Int)) ∧ W.cell? ⟨w1.heap.size, 3, none⟩ = some (.slice (some ⟨aP, 1, none⟩) (c - 1) (cP - 1)) ∧ W.cell? ⟨w1.heap.size, 4, none⟩ = some (.slice (some ⟨aQ, 0, none⟩) c cQ) ∧ St16 W (w0.heap.size + 1 + 5) c (.slice (some ⟨aP, 0, none⟩) c cP) (.slice (some ⟨aQ, 0, none⟩) c cQ) (.slice (some ⟨aR, 0, none⟩) c cR) (.slice (some ⟨aS, 0, none⟩) c cS) C2 D (fun _ => (r : Int)) (fun _ => (r : Int)) ([blkT w1.heap.size 30 #[.int .i64 (c : Int), .int .i64 (k : Int), .int .i64 (r : Int), .slice (some ⟨aP, 1, none⟩) (c - 1) (cP - 1), .slice (some ⟨aQ, 0, none⟩) c cQ], blkT (w1.heap.size + 1) 33 #[.int .i64 (c : Int), .int .i64 (k : Int), .int .i64 (r : Int), .slice (some ⟨aR, 0, none⟩) c cR, .slice (some ⟨aS, 0, none⟩) c cS]]) ∧ Below w.heap.size w W → Calls Tryz.prog 12 #[.agg #[.int .i64 (c : Int), .int .i64 (k : Int), .int .i64 (r : Int), .slice (some ⟨aP, 1, none⟩) (c - 1) (cP - 1), .slice (some ⟨aQ, 0, none⟩) c cQ], .int .i64 0, .int .i64 0] W fun e w' => e = .returned (.tuple #[.slice none 0 0, .slice none 0 0, .int .i64 1]) ∧ Below W.heap.size W w') := fun W hW => by
    have h := read16_no (dcap := cP - 1) (bcap := cQ) hok (by omega) 0 0 W hW.2.2.2.2.2.1.tail (by rw [hc1]; decide)
    rw [hc1] at h
    exact h
  have HN2 : Hid (∀ W, W.cell? ⟨w1.heap.size, 0, none⟩ = some (.int .i64 (c : Int)) ∧ W.cell? ⟨w1.heap.size, 1, none⟩ = some (.int .i64 (k : Int)) ∧ W.cell? ⟨w1.heap.size, 2, none⟩ = some (.int .i64 (r : Int)) ∧ W.cell? ⟨w1.heap.size, 3, none⟩ = some (.slice (some ⟨aP, 1, none⟩) (c - 1) (cP - 1)) ∧ W.cell? ⟨w1.heap.size, 4, none⟩ = some (.slice (some ⟨aQ, 0, none⟩) c cQ) ∧ St16 W (w0.heap.size + 1 + 5) c (.slice (some ⟨aP, 0, none⟩) c cP) (.slice (some ⟨aQ, 0, none⟩) c cQ) (.slice (some ⟨aR, 0, none⟩) c cR) (.slice (some ⟨aS, 0, none⟩) c cS) C2 D (fun _ => (r : Int)) (fun _ => (r : Int)) ([blkT w1.heap.size 30 #[.int .i64 (c : Int), .int .i64 (k : Int), .int .i64 (r : Int), .slice (some ⟨aP, 1, none⟩) (c - 1) (cP - 1), .slice (some ⟨aQ, 0, none⟩) c cQ], blkT (w1.heap.size + 1) 33 #[.int .i64 (c : Int), .int .i64 (k : Int), .int .i64 (r : Int), .slice (some ⟨aR, 0, none⟩) c cR, .slice (some ⟨aS, 0, none⟩) c cS]]) ∧ Below w.heap.size w W → Calls Tryz.prog 18 #[.agg #[.int .i64 (c : Int), .int .i64 (k : Int), .int .i64 (r : Int), .slice (some ⟨aP, 1, none⟩) (c - 1) (cP - 1), .slice (some ⟨aQ, 0, none⟩) c cQ], .int .i64 0] W fun e w' => e = .returned (.tuple #[.slice none 0 0, .int .i64 1]) ∧ Below W.heap.size W w') := fun W hW => by
    have h := lost16_no (dcap := cP - 1) (bcap := cQ) hok (by omega) 0 W hW.2.2.2.2.2.1.tail (by rw [hc1]; decide)
    rw [hc1] at h
    exact h
  have HN3 : Hid (∀ W, W.cell? ⟨w1.heap.size, 0, none⟩ = some (.int .i64 (c : Int)) ∧ W.cell? ⟨w1.heap.size, 1, none⟩ = some (.int .i64 (k : Int)) ∧ W.cell? ⟨w1.heap.size, 2, none⟩ = some (.int .i64 (r : Int)) ∧ W.cell? ⟨w1.heap.size, 3, none⟩ = some (.slice (some ⟨aP, 1, none⟩) (c - 1) (cP - 1)) ∧ W.cell? ⟨w1.heap.size, 4, none⟩ = some (.slice (some ⟨aQ, 0, none⟩) c cQ) ∧ St16 W (w0.heap.size + 1 + 5) c (.slice (some ⟨aP, 0, none⟩) c cP) (.slice (some ⟨aQ, 0, none⟩) c cQ) (.slice (some ⟨aR, 0, none⟩) c cR) (.slice (some ⟨aS, 0, none⟩) c cS) C2 D (fun _ => (r : Int)) (fun _ => (r : Int)) ([blkT w1.heap.size 30 #[.int .i64 (c : Int), .int .i64 (k : Int), .int .i64 (r : Int), .slice (some ⟨aP, 1, none⟩) (c - 1) (cP - 1), .slice (some ⟨aQ, 0, none⟩) c cQ], blkT (w1.heap.size + 1) 33 #[.int .i64 (c : Int), .int .i64 (k : Int), .int .i64 (r : Int), .slice (some ⟨aR, 0, none⟩) c cR, .slice (some ⟨aS, 0, none⟩) c cS]]) ∧ Below w.heap.size w W → Calls Tryz.prog 30 #[.agg #[.int .i64 (c : Int), .int .i64 (k : Int), .int .i64 (r : Int), .slice (some ⟨aP, 1, none⟩) (c - 1) (cP - 1), .slice (some ⟨aQ, 0, none⟩) c cQ]] W fun e w' => e = .returned (.int .i64 1) ∧ Below W.heap.size W w') := fun W hW => pFlush16_no (dcap := cP - 1) (bcap := cQ) hW.2.2.2.2.2.1.tail hok (by omega) hm1
  have HN4 : Hid (∀ W, W.cell? ⟨w1.heap.size, 0, none⟩ = some (.int .i64 (c : Int)) ∧ W.cell? ⟨w1.heap.size, 1, none⟩ = some (.int .i64 (k : Int)) ∧ W.cell? ⟨w1.heap.size, 2, none⟩ = some (.int .i64 (r : Int)) ∧ W.cell? ⟨w1.heap.size, 3, none⟩ = some (.slice (some ⟨aP, 1, none⟩) (c - 1) (cP - 1)) ∧ W.cell? ⟨w1.heap.size, 4, none⟩ = some (.slice (some ⟨aQ, 0, none⟩) c cQ) ∧ St16 W (w0.heap.size + 1 + 5) c (.slice (some ⟨aP, 0, none⟩) c cP) (.slice (some ⟨aQ, 0, none⟩) c cQ) (.slice (some ⟨aR, 0, none⟩) c cR) (.slice (some ⟨aS, 0, none⟩) c cS) C2 D (fun _ => (r : Int)) (fun _ => (r : Int)) ([blkT w1.heap.size 30 #[.int .i64 (c : Int), .int .i64 (k : Int), .int .i64 (r : Int), .slice (some ⟨aP, 1, none⟩) (c - 1) (cP - 1), .slice (some ⟨aQ, 0, none⟩) c cQ], blkT (w1.heap.size + 1) 33 #[.int .i64 (c : Int), .int .i64 (k : Int), .int .i64 (r : Int), .slice (some ⟨aR, 0, none⟩) c cR, .slice (some ⟨aS, 0, none⟩) c cS]]) ∧ Below w.heap.size w W → Calls Tryz.prog 27 #[.agg #[.int .i64 (c : Int), .int .i64 (k : Int), .int .i64 (r : Int), .slice (some ⟨aP, 1, none⟩) (c - 1) (cP - 1), .slice (some ⟨aQ, 0, none⟩) c cQ], .int .i64 0, .int .i64 0, .int .i64 0, .string Y] W fun e w' => e = .returned (.int .i64 1) ∧ Below W.heap.size W w') := fun W hW => by
    have h := pWrite16_no (dcap := cP - 1) (bcap := cQ) hW.2.2.2.2.2.1.tail hok (by omega) 0 0 0 Y (by rw [hc1]; decide)
    rw [hc1] at h
    exact h
  have HN5 : Hid (∀ W, W.cell? ⟨w1.heap.size, 0, none⟩ = some (.int .i64 (c : Int)) ∧ W.cell? ⟨w1.heap.size, 1, none⟩ = some (.int .i64 (k : Int)) ∧ W.cell? ⟨w1.heap.size, 2, none⟩ = some (.int .i64 (r : Int)) ∧ W.cell? ⟨w1.heap.size, 3, none⟩ = some (.slice (some ⟨aP, 1, none⟩) (c - 1) (cP - 1)) ∧ W.cell? ⟨w1.heap.size, 4, none⟩ = some (.slice (some ⟨aQ, 0, none⟩) c cQ) ∧ St16 W (w0.heap.size + 1 + 5) c (.slice (some ⟨aP, 0, none⟩) c cP) (.slice (some ⟨aQ, 0, none⟩) c cQ) (.slice (some ⟨aR, 0, none⟩) c cR) (.slice (some ⟨aS, 0, none⟩) c cS) C2 D (fun _ => (r : Int)) (fun _ => (r : Int)) ([blkT w1.heap.size 30 #[.int .i64 (c : Int), .int .i64 (k : Int), .int .i64 (r : Int), .slice (some ⟨aP, 1, none⟩) (c - 1) (cP - 1), .slice (some ⟨aQ, 0, none⟩) c cQ], blkT (w1.heap.size + 1) 33 #[.int .i64 (c : Int), .int .i64 (k : Int), .int .i64 (r : Int), .slice (some ⟨aR, 0, none⟩) c cR, .slice (some ⟨aS, 0, none⟩) c cS]]) ∧ Below w.heap.size w W → Calls Tryz.prog 22 #[.agg #[.int .i64 (c : Int), .int .i64 (k : Int), .int .i64 (r : Int), .slice (some ⟨aP, 1, none⟩) (c - 1) (cP - 1), .slice (some ⟨aQ, 0, none⟩) c cQ]] W fun e w' => e = .returned (.bool false) ∧ Below W.heap.size W w') := fun W hW => by
    have h := may16_any (dcap := cP - 1) (bcap := cQ) hok (by omega) W hW.2.2.2.2.2.1.tail
    rw [hm1] at h
    exact h
  have HSH : Hid (∀ W, Calls Tryz.prog 8 #[] W fun e w' => e = .returned (.bool true) ∧ Below W.heap.size W w') := fun W => shown16_any W
  have B2 : Hid (Below w.heap.size w ((w1.alloc (.cells #[.int .i64 (c : Int), .int .i64 (k : Int), .int .i64 (r : Int), .slice (some ⟨aP, 0, none⟩) c cP, .slice (some ⟨aQ, 0, none⟩) c cQ] 30)).alloc (.cells #[.int .i64 (c : Int), .int .i64 (k : Int), .int .i64 (r : Int), .slice (some ⟨aR, 0, none⟩) c cR, .slice (some ⟨aS, 0, none⟩) c cS] 33))) := (B1.out.alloc B1.out.size _).alloc (Nat.le_trans B1.out.size (by simp)) _
  obtain ⟨hg0, hg1, hg2⟩ := HGEO.out.below (((Below.refl _ _).alloc (Nat.le_refl _) (.cells #[.int .i64 (c : Int), .int .i64 (k : Int), .int .i64 (r : Int), .slice (some ⟨aP, 0, none⟩) c cP, .slice (some ⟨aQ, 0, none⟩) c cQ] 30)).alloc (by simp) (.cells #[.int .i64 (c : Int), .int .i64 (k : Int), .int .i64 (r : Int), .slice (some ⟨aR, 0, none⟩) c cR, .slice (some ⟨aS, 0, none⟩) c cS] 33)) HGEO.out.lt
  have hgl : w0.heap.size < ((w1.alloc (.cells #[.int .i64 (c : Int), .int .i64 (k : Int), .int .i64 (r : Int), .slice (some ⟨aP, 0, none⟩) c cP, .slice (some ⟨aQ, 0, none⟩) c cQ] 30)).alloc (.cells #[.int .i64 (c : Int), .int .i64 (k : Int), .int .i64 (r : Int), .slice (some ⟨aR, 0, none⟩) c cR, .slice (some ⟨aS, 0, none⟩) c cS] 33)).heap.size := World.block_lt_of_cell? _ _ hg0
  have HGE2 : Hid (ShpAt ((w1.alloc (.cells #[.int .i64 (c : Int), .int .i64 (k : Int), .int .i64 (r : Int), .slice (some ⟨aP, 0, none⟩) c cP, .slice (some ⟨aQ, 0, none⟩) c cQ] 30)).alloc (.cells #[.int .i64 (c : Int), .int .i64 (k : Int), .int .i64 (r : Int), .slice (some ⟨aR, 0, none⟩) c cR, .slice (some ⟨aS, 0, none⟩) c cS] 33)) w0.heap.size (c : Int) (k : Int) (r : Int)) := ⟨hg0, hg1, hg2⟩
  clear hC hF hS hb1 hH hbx hp hC2 hmay hread hsec hwr hm1 hc1 hdc G1
  go_upto_region 3 with fail
  generalize ((w1.alloc (.cells #[.int .i64 (c : Int), .int .i64 (k : Int), .int .i64 (r : Int), .slice (some ⟨aP, 0, none⟩) c cP, .slice (some ⟨aQ, 0, none⟩) c cQ] 30)).alloc (.cells #[.int .i64 (c : Int), .int .i64 (k : Int), .int .i64 (r : Int), .slice (some ⟨aR, 0, none⟩) c cR, .slice (some ⟨aS, 0, none⟩) c cS] 33)) = w2 at *
  go_wp2_with fail
  refine (HMY.out _ HS2.out).mono ?_
  rintro e w3 ⟨rfl, hb3⟩
  have T3 : Hid (St16 w3 (w0.heap.size + 1 + 5) c (.slice (some ⟨aP, 0, none⟩) c cP) (.slice (some ⟨aQ, 0, none⟩) c cQ) (.slice (some ⟨aR, 0, none⟩) c cR) (.slice (some ⟨aS, 0, none⟩) c cS) C D (fun _ => (r : Int)) (fun _ => (r : Int)) ([blkT w1.heap.size 30 #[.int .i64 (c : Int), .int .i64 (k : Int), .int .i64 (r : Int), .slice (some ⟨aP, 0, none⟩) c cP, .slice (some ⟨aQ, 0, none⟩) c cQ], blkT (w1.heap.size + 1) 33 #[.int .i64 (c : Int), .int .i64 (k : Int), .int .i64 (r : Int), .slice (some ⟨aR, 0, none⟩) c cR, .slice (some ⟨aS, 0, none⟩) c cS]])) := HS2.out.below hb3
  have B3 : Hid (Below w.heap.size w w3) := B2.out.trans (hb3.mono B2.out.size)
  have G3 : Hid (ShpAt w3 w0.heap.size (c : Int) (k : Int) (r : Int)) := HGE2.out.below hb3 HGE2.out.lt
  clear hb3 k0 k1 k2 k3 k4 hcp hg0 hg1 hg2 hgl hl1 hlp
  go_wp2_with fail
  refine (HSH.out _).mono ?_
  rintro e w4 ⟨rfl, hb4⟩
  have T4 : Hid (St16 w4 (w0.heap.size + 1 + 5) c (.slice (some ⟨aP, 0, none⟩) c cP) (.slice (some ⟨aQ, 0, none⟩) c cQ) (.slice (some ⟨aR, 0, none⟩) c cR) (.slice (some ⟨aS, 0, none⟩) c cS) C D (fun _ => (r : Int)) (fun _ => (r : Int)) ([blkT w1.heap.size 30 #[.int .i64 (c : Int), .int .i64 (k : Int), .int .i64 (r : Int), .slice (some ⟨aP, 0, none⟩) c cP, .slice (some ⟨aQ, 0, none⟩) c cQ], blkT (w1.heap.size + 1) 33 #[.int .i64 (c : Int), .int .i64 (k : Int), .int .i64 (r : Int), .slice (some ⟨aR, 0, none⟩) c cR, .slice (some ⟨aS, 0, none⟩) c cS]])) := T3.out.below hb4
  have B4 : Hid (Below w.heap.size w w4) := B3.out.trans (hb4.mono B3.out.size)
  have G4 : Hid (ShpAt w4 w0.heap.size (c : Int) (k : Int) (r : Int)) := G3.out.below hb4 G3.out.lt
  obtain ⟨g0, g1, g2⟩ := G4.out
  have hgl4 : w0.heap.size < w4.heap.size := World.block_lt_of_cell? _ _ g0
  obtain ⟨j0, j1, j2, j3, j4⟩ := HS5.out _ _ T4.out
  have hl4 : w1.heap.size < w4.heap.size := World.block_lt_of_cell? _ _ j0
  clear hb4
  go_wp2_with fail
  refine (HRD.out _ T4.out).mono ?_
  rintro e w5 ⟨⟨y0, y1, y2, y3, y4, y5, rfl⟩, hb5⟩
  have T5 : Hid (St16 w5 (w0.heap.size + 1 + 5) c (.slice (some ⟨aP, 0, none⟩) c cP) (.slice (some ⟨aQ, 0, none⟩) c cQ) (.slice (some ⟨aR, 0, none⟩) c cR) (.slice (some ⟨aS, 0, none⟩) c cS) C D (fun _ => (r : Int)) (fun _ => (r : Int)) ([blkT w1.heap.size 30 #[.int .i64 (c : Int), .int .i64 (k : Int), .int .i64 (r : Int), .slice (some ⟨aP, 0, none⟩) c cP, .slice (some ⟨aQ, 0, none⟩) c cQ], blkT (w1.heap.size + 1) 33 #[.int .i64 (c : Int), .int .i64 (k : Int), .int .i64 (r : Int), .slice (some ⟨aR, 0, none⟩) c cR, .slice (some ⟨aS, 0, none⟩) c cS]])) := T4.out.below hb5
  have B5 : Hid (Below w.heap.size w w5) := B4.out.trans (hb5.mono B4.out.size)
  have G5 : Hid (ShpAt w5 w0.heap.size (c : Int) (k : Int) (r : Int)) := G4.out.below hb5 G4.out.lt
  clear hb5 j0 j1 j2 j3 j4 hl4 g0 g1 g2 hgl4
  obtain ⟨j0, j1, j2, j3, j4⟩ := HS5.out _ _ T5.out
  have hl5 : w1.heap.size < w5.heap.size := World.block_lt_of_cell? _ _ j0
  go_wp2_with fail
  refine (HSE.out _ T5.out).mono ?_
  rintro e w6 ⟨⟨y6, rfl⟩, hb6⟩
  have T6 : Hid (St16 w6 (w0.heap.size + 1 + 5) c (.slice (some ⟨aP, 0, none⟩) c cP) (.slice (some ⟨aQ, 0, none⟩) c cQ) (.slice (some ⟨aR, 0, none⟩) c cR) (.slice (some ⟨aS, 0, none⟩) c cS) C D (fun _ => (r : Int)) (fun _ => (r : Int)) ([blkT w1.heap.size 30 #[.int .i64 (c : Int), .int .i64 (k : Int), .int .i64 (r : Int), .slice (some ⟨aP, 0, none⟩) c cP, .slice (some ⟨aQ, 0, none⟩) c cQ], blkT (w1.heap.size + 1) 33 #[.int .i64 (c : Int), .int .i64 (k : Int), .int .i64 (r : Int), .slice (some ⟨aR, 0, none⟩) c cR, .slice (some ⟨aS, 0, none⟩) c cS]])) := T5.out.below hb6
  have B6 : Hid (Below w.heap.size w w6) := B5.out.trans (hb6.mono B5.out.size)
  have G6 : Hid (ShpAt w6 w0.heap.size (c : Int) (k : Int) (r : Int)) := G5.out.below hb6 G5.out.lt
  clear hb6 j0 j1 j2 j3 j4 hl5
  obtain ⟨j0, j1, j2, j3, j4⟩ := HS5.out _ _ T6.out
  have hl6 : w1.heap.size < w6.heap.size := World.block_lt_of_cell? _ _ j0
  go_wp2_with fail
  have hS0 : w6.drew.cell? ⟨w1.heap.size, 0, none⟩ = some (.int .i64 (c : Int)) ∧ w6.drew.cell? ⟨w1.heap.size, 1, none⟩ = some (.int .i64 (k : Int)) ∧ w6.drew.cell? ⟨w1.heap.size, 2, none⟩ = some (.int .i64 (r : Int)) ∧ w6.drew.cell? ⟨w1.heap.size, 3, none⟩ = some (.slice (some ⟨aP, 0, none⟩) c cP) ∧ w6.drew.cell? ⟨w1.heap.size, 4, none⟩ = some (.slice (some ⟨aQ, 0, none⟩) c cQ) := ⟨j0, j1, j2, j3, j4⟩
  have T6d : Hid (St16 w6.drew (w0.heap.size + 1 + 5) c (.slice (some ⟨aP, 0, none⟩) c cP) (.slice (some ⟨aQ, 0, none⟩) c cQ) (.slice (some ⟨aR, 0, none⟩) c cR) (.slice (some ⟨aS, 0, none⟩) c cS) C D (fun _ => (r : Int)) (fun _ => (r : Int)) ([blkT w1.heap.size 30 #[.int .i64 (c : Int), .int .i64 (k : Int), .int .i64 (r : Int), .slice (some ⟨aP, 0, none⟩) c cP, .slice (some ⟨aQ, 0, none⟩) c cQ], blkT (w1.heap.size + 1) 33 #[.int .i64 (c : Int), .int .i64 (k : Int), .int .i64 (r : Int), .slice (some ⟨aR, 0, none⟩) c cR, .slice (some ⟨aS, 0, none⟩) c cS]])) := T6.out.below ((Below.refl _ _).drew)
  go_region_held3 (fun W => W.cell? ⟨w1.heap.size, 0, none⟩ = some (.int .i64 (c : Int)) ∧ W.cell? ⟨w1.heap.size, 1, none⟩ = some (.int .i64 (k : Int)) ∧ W.cell? ⟨w1.heap.size, 2, none⟩ = some (.int .i64 (r : Int)) ∧ W.cell? ⟨w1.heap.size, 3, none⟩ = some (.slice (some ⟨aP, 0, none⟩) c cP) ∧ W.cell? ⟨w1.heap.size, 4, none⟩ = some (.slice (some ⟨aQ, 0, none⟩) c cQ)) (first | exact hS0 | assumption) (first | (go_at_call 24; refine (HFU.out _).mono ?_; rintro e w7 ⟨rfl, h7⟩; have h7' := h7.symm; subst h7'; clear h7) | (go_at_call 27; refine (HWR.out _ T6d.out).mono ?_; rintro e w8 ⟨rfl, ht8, hb8⟩; have T8 : Hid (St16 w8 (w0.heap.size + 1 + 5) c (.slice (some ⟨aP, 0, none⟩) c cP) (.slice (some ⟨aQ, 0, none⟩) c cQ) (.slice (some ⟨aR, 0, none⟩) c cR) (.slice (some ⟨aS, 0, none⟩) c cS) C2 D (fun _ => (r : Int)) (fun _ => (r : Int)) ([blkT w1.heap.size 30 #[.int .i64 (c : Int), .int .i64 (k : Int), .int .i64 (r : Int), .slice (some ⟨aP, 0, none⟩) c cP, .slice (some ⟨aQ, 0, none⟩) c cQ], blkT (w1.heap.size + 1) 33 #[.int .i64 (c : Int), .int .i64 (k : Int), .int .i64 (r : Int), .slice (some ⟨aR, 0, none⟩) c cR, .slice (some ⟨aS, 0, none⟩) c cS]])) := ht8; have hs8 := HS5.out _ _ ht8; have B8 : Hid (Below (w0.heap.size + 1 + 5) w6 w8) := (Below.refl _ w6).drew.trans hb8; clear ht8 hb8))
  all_goals
    have BW8 : Hid (Below w.heap.size w w8) := B6.out.trans (B8.out.mono HBB.out)
    have G8 : Hid (ShpAt w8 w0.heap.size (c : Int) (k : Int) (r : Int)) := G6.out.below B8.out (by omega)
    obtain ⟨n0, n1, n2, n3, n4⟩ := hs8
    obtain ⟨g0, g1, g2⟩ := G8.out
    have hl8 : w1.heap.size < w8.heap.size := World.block_lt_of_cell? _ _ n0
    have hg8 : w0.heap.size < w8.heap.size := World.block_lt_of_cell? _ _ g0
    clear j0 j1 j2 j3 j4 hl6 hS0
    go_upto_region 11 with fail
    have hsl := fun W => slice_tail (aP := aP) (by omega) hcap W
    have z3 := frozen_of_row w8 w1.heap.size 3 _ _ (T8.out.block (i := 0) rfl)
    clear g0 g1 g2 hg8
    go_upto_region 12 with fail
    obtain ⟨t9, o9⟩ := T8.out.setBox (i := 0) rfl 3 (.slice (some ⟨aP, 1, none⟩) (c - 1) (cP - 1))
    have B9 : Below w.heap.size w (w8.setCell ⟨w1.heap.size, 3, none⟩ (.slice (some ⟨aP, 1, none⟩) (c - 1) (cP - 1))) := BW8.out.trans ((o9.below (B := w0.heap.size + 1 + 5) (fun _ hk => hk.1) T8.out.size).mono HBB.out)
    have t9' : St16 (w8.setCell ⟨w1.heap.size, 3, none⟩ (.slice (some ⟨aP, 1, none⟩) (c - 1) (cP - 1))) (w0.heap.size + 1 + 5) c (.slice (some ⟨aP, 0, none⟩) c cP) (.slice (some ⟨aQ, 0, none⟩) c cQ) (.slice (some ⟨aR, 0, none⟩) c cR) (.slice (some ⟨aS, 0, none⟩) c cS) C2 D (fun _ => (r : Int)) (fun _ => (r : Int)) ([blkT w1.heap.size 30 #[.int .i64 (c : Int), .int .i64 (k : Int), .int .i64 (r : Int), .slice (some ⟨aP, 1, none⟩) (c - 1) (cP - 1), .slice (some ⟨aQ, 0, none⟩) c cQ], blkT (w1.heap.size + 1) 33 #[.int .i64 (c : Int), .int .i64 (k : Int), .int .i64 (r : Int), .slice (some ⟨aR, 0, none⟩) c cR, .slice (some ⟨aS, 0, none⟩) c cS]]) := t9
    generalize w8.setCell ⟨w1.heap.size, 3, none⟩ (.slice (some ⟨aP, 1, none⟩) (c - 1) (cP - 1)) = w9 at t9 t9' o9 B9 ⊢
    have S9 : w9.cell? ⟨w1.heap.size, 0, none⟩ = some (.int .i64 (c : Int)) ∧ w9.cell? ⟨w1.heap.size, 1, none⟩ = some (.int .i64 (k : Int)) ∧ w9.cell? ⟨w1.heap.size, 2, none⟩ = some (.int .i64 (r : Int)) ∧ w9.cell? ⟨w1.heap.size, 3, none⟩ = some (.slice (some ⟨aP, 1, none⟩) (c - 1) (cP - 1)) ∧ w9.cell? ⟨w1.heap.size, 4, none⟩ = some (.slice (some ⟨aQ, 0, none⟩) c cQ) ∧ St16 w9 (w0.heap.size + 1 + 5) c (.slice (some ⟨aP, 0, none⟩) c cP) (.slice (some ⟨aQ, 0, none⟩) c cQ) (.slice (some ⟨aR, 0, none⟩) c cR) (.slice (some ⟨aS, 0, none⟩) c cS) C2 D (fun _ => (r : Int)) (fun _ => (r : Int)) ([blkT w1.heap.size 30 #[.int .i64 (c : Int), .int .i64 (k : Int), .int .i64 (r : Int), .slice (some ⟨aP, 1, none⟩) (c - 1) (cP - 1), .slice (some ⟨aQ, 0, none⟩) c cQ], blkT (w1.heap.size + 1) 33 #[.int .i64 (c : Int), .int .i64 (k : Int), .int .i64 (r : Int), .slice (some ⟨aR, 0, none⟩) c cR, .slice (some ⟨aS, 0, none⟩) c cS]]) ∧ Below w.heap.size w w9 := ⟨t9'.cell (i := 0) rfl 0, t9'.cell (i := 0) rfl 1, t9'.cell (i := 0) rfl 2, t9'.cell (i := 0) rfl 3, t9'.cell (i := 0) rfl 4, t9', B9⟩
    have HS9 : Hid (w9.cell? ⟨w1.heap.size, 0, none⟩ = some (.int .i64 (c : Int)) ∧ w9.cell? ⟨w1.heap.size, 1, none⟩ = some (.int .i64 (k : Int)) ∧ w9.cell? ⟨w1.heap.size, 2, none⟩ = some (.int .i64 (r : Int)) ∧ w9.cell? ⟨w1.heap.size, 3, none⟩ = some (.slice (some ⟨aP, 1, none⟩) (c - 1) (cP - 1)) ∧ w9.cell? ⟨w1.heap.size, 4, none⟩ = some (.slice (some ⟨aQ, 0, none⟩) c cQ) ∧ St16 w9 (w0.heap.size + 1 + 5) c (.slice (some ⟨aP, 0, none⟩) c cP) (.slice (some ⟨aQ, 0, none⟩) c cQ) (.slice (some ⟨aR, 0, none⟩) c cR) (.slice (some ⟨aS, 0, none⟩) c cS) C2 D (fun _ => (r : Int)) (fun _ => (r : Int)) ([blkT w1.heap.size 30 #[.int .i64 (c : Int), .int .i64 (k : Int), .int .i64 (r : Int), .slice (some ⟨aP, 1, none⟩) (c - 1) (cP - 1), .slice (some ⟨aQ, 0, none⟩) c cQ], blkT (w1.heap.size + 1) 33 #[.int .i64 (c : Int), .int .i64 (k : Int), .int .i64 (r : Int), .slice (some ⟨aR, 0, none⟩) c cR, .slice (some ⟨aS, 0, none⟩) c cS]]) ∧ Below w.heap.size w w9) := S9
    obtain ⟨m0, m1, m2, m3, m4, _, _⟩ := S9
    have hl9 : w1.heap.size < w9.heap.size := World.block_lt_of_cell? _ _ m0
    clear t9 t9' o9 B9 n0 n1 n2 n3 n4 hl8 z3 hsl
    go_wp2_with fail
    refine (HN1.out _ HS9.out).mono ?_
    rintro e w10 ⟨rfl, hb10⟩
    have S10 : w10.cell? ⟨w1.heap.size, 0, none⟩ = some (.int .i64 (c : Int)) ∧ w10.cell? ⟨w1.heap.size, 1, none⟩ = some (.int .i64 (k : Int)) ∧ w10.cell? ⟨w1.heap.size, 2, none⟩ = some (.int .i64 (r : Int)) ∧ w10.cell? ⟨w1.heap.size, 3, none⟩ = some (.slice (some ⟨aP, 1, none⟩) (c - 1) (cP - 1)) ∧ w10.cell? ⟨w1.heap.size, 4, none⟩ = some (.slice (some ⟨aQ, 0, none⟩) c cQ) ∧ St16 w10 (w0.heap.size + 1 + 5) c (.slice (some ⟨aP, 0, none⟩) c cP) (.slice (some ⟨aQ, 0, none⟩) c cQ) (.slice (some ⟨aR, 0, none⟩) c cR) (.slice (some ⟨aS, 0, none⟩) c cS) C2 D (fun _ => (r : Int)) (fun _ => (r : Int)) ([blkT w1.heap.size 30 #[.int .i64 (c : Int), .int .i64 (k : Int), .int .i64 (r : Int), .slice (some ⟨aP, 1, none⟩) (c - 1) (cP - 1), .slice (some ⟨aQ, 0, none⟩) c cQ], blkT (w1.heap.size + 1) 33 #[.int .i64 (c : Int), .int .i64 (k : Int), .int .i64 (r : Int), .slice (some ⟨aR, 0, none⟩) c cR, .slice (some ⟨aS, 0, none⟩) c cS]]) ∧ Below w.heap.size w w10 := keep51 HS9.out hb10
    have HS10 : Hid (w10.cell? ⟨w1.heap.size, 0, none⟩ = some (.int .i64 (c : Int)) ∧ w10.cell? ⟨w1.heap.size, 1, none⟩ = some (.int .i64 (k : Int)) ∧ w10.cell? ⟨w1.heap.size, 2, none⟩ = some (.int .i64 (r : Int)) ∧ w10.cell? ⟨w1.heap.size, 3, none⟩ = some (.slice (some ⟨aP, 1, none⟩) (c - 1) (cP - 1)) ∧ w10.cell? ⟨w1.heap.size, 4, none⟩ = some (.slice (some ⟨aQ, 0, none⟩) c cQ) ∧ St16 w10 (w0.heap.size + 1 + 5) c (.slice (some ⟨aP, 0, none⟩) c cP) (.slice (some ⟨aQ, 0, none⟩) c cQ) (.slice (some ⟨aR, 0, none⟩) c cR) (.slice (some ⟨aS, 0, none⟩) c cS) C2 D (fun _ => (r : Int)) (fun _ => (r : Int)) ([blkT w1.heap.size 30 #[.int .i64 (c : Int), .int .i64 (k : Int), .int .i64 (r : Int), .slice (some ⟨aP, 1, none⟩) (c - 1) (cP - 1), .slice (some ⟨aQ, 0, none⟩) c cQ], blkT (w1.heap.size + 1) 33 #[.int .i64 (c : Int), .int .i64 (k : Int), .int .i64 (r : Int), .slice (some ⟨aR, 0, none⟩) c cR, .slice (some ⟨aS, 0, none⟩) c cS]]) ∧ Below w.heap.size w w10) := S10
    clear hb10 m0 m1 m2 m3 m4 hl9
    obtain ⟨m0, m1, m2, m3, m4, _, _⟩ := S10
    have hl10 : w1.heap.size < w10.heap.size := World.block_lt_of_cell? _ _ m0
    go_wp2_with fail
    refine (HN2.out _ HS10.out).mono ?_
    rintro e w11 ⟨rfl, hb11⟩
    have S11 : w11.cell? ⟨w1.heap.size, 0, none⟩ = some (.int .i64 (c : Int)) ∧ w11.cell? ⟨w1.heap.size, 1, none⟩ = some (.int .i64 (k : Int)) ∧ w11.cell? ⟨w1.heap.size, 2, none⟩ = some (.int .i64 (r : Int)) ∧ w11.cell? ⟨w1.heap.size, 3, none⟩ = some (.slice (some ⟨aP, 1, none⟩) (c - 1) (cP - 1)) ∧ w11.cell? ⟨w1.heap.size, 4, none⟩ = some (.slice (some ⟨aQ, 0, none⟩) c cQ) ∧ St16 w11 (w0.heap.size + 1 + 5) c (.slice (some ⟨aP, 0, none⟩) c cP) (.slice (some ⟨aQ, 0, none⟩) c cQ) (.slice (some ⟨aR, 0, none⟩) c cR) (.slice (some ⟨aS, 0, none⟩) c cS) C2 D (fun _ => (r : Int)) (fun _ => (r : Int)) ([blkT w1.heap.size 30 #[.int .i64 (c : Int), .int .i64 (k : Int), .int .i64 (r : Int), .slice (some ⟨aP, 1, none⟩) (c - 1) (cP - 1), .slice (some ⟨aQ, 0, none⟩) c cQ], blkT (w1.heap.size + 1) 33 #[.int .i64 (c : Int), .int .i64 (k : Int), .int .i64 (r : Int), .slice (some ⟨aR, 0, none⟩) c cR, .slice (some ⟨aS, 0, none⟩) c cS]]) ∧ Below w.heap.size w w11 := keep51 HS10.out hb11
    have HS11 : Hid (w11.cell? ⟨w1.heap.size, 0, none⟩ = some (.int .i64 (c : Int)) ∧ w11.cell? ⟨w1.heap.size, 1, none⟩ = some (.int .i64 (k : Int)) ∧ w11.cell? ⟨w1.heap.size, 2, none⟩ = some (.int .i64 (r : Int)) ∧ w11.cell? ⟨w1.heap.size, 3, none⟩ = some (.slice (some ⟨aP, 1, none⟩) (c - 1) (cP - 1)) ∧ w11.cell? ⟨w1.heap.size, 4, none⟩ = some (.slice (some ⟨aQ, 0, none⟩) c cQ) ∧ St16 w11 (w0.heap.size + 1 + 5) c (.slice (some ⟨aP, 0, none⟩) c cP) (.slice (some ⟨aQ, 0, none⟩) c cQ) (.slice (some ⟨aR, 0, none⟩) c cR) (.slice (some ⟨aS, 0, none⟩) c cS) C2 D (fun _ => (r : Int)) (fun _ => (r : Int)) ([blkT w1.heap.size 30 #[.int .i64 (c : Int), .int .i64 (k : Int), .int .i64 (r : Int), .slice (some ⟨aP, 1, none⟩) (c - 1) (cP - 1), .slice (some ⟨aQ, 0, none⟩) c cQ], blkT (w1.heap.size + 1) 33 #[.int .i64 (c : Int), .int .i64 (k : Int), .int .i64 (r : Int), .slice (some ⟨aR, 0, none⟩) c cR, .slice (some ⟨aS, 0, none⟩) c cS]]) ∧ Below w.heap.size w w11) := S11
    clear hb11 m0 m1 m2 m3 m4 hl10
    obtain ⟨m0, m1, m2, m3, m4, _, _⟩ := S11
    have hl11 : w1.heap.size < w11.heap.size := World.block_lt_of_cell? _ _ m0
    go_wp2_with fail
    have S11d : w11.drew.cell? ⟨w1.heap.size, 0, none⟩ = some (.int .i64 (c : Int)) ∧ w11.drew.cell? ⟨w1.heap.size, 1, none⟩ = some (.int .i64 (k : Int)) ∧ w11.drew.cell? ⟨w1.heap.size, 2, none⟩ = some (.int .i64 (r : Int)) ∧ w11.drew.cell? ⟨w1.heap.size, 3, none⟩ = some (.slice (some ⟨aP, 1, none⟩) (c - 1) (cP - 1)) ∧ w11.drew.cell? ⟨w1.heap.size, 4, none⟩ = some (.slice (some ⟨aQ, 0, none⟩) c cQ) ∧ St16 w11.drew (w0.heap.size + 1 + 5) c (.slice (some ⟨aP, 0, none⟩) c cP) (.slice (some ⟨aQ, 0, none⟩) c cQ) (.slice (some ⟨aR, 0, none⟩) c cR) (.slice (some ⟨aS, 0, none⟩) c cS) C2 D (fun _ => (r : Int)) (fun _ => (r : Int)) ([blkT w1.heap.size 30 #[.int .i64 (c : Int), .int .i64 (k : Int), .int .i64 (r : Int), .slice (some ⟨aP, 1, none⟩) (c - 1) (cP - 1), .slice (some ⟨aQ, 0, none⟩) c cQ], blkT (w1.heap.size + 1) 33 #[.int .i64 (c : Int), .int .i64 (k : Int), .int .i64 (r : Int), .slice (some ⟨aR, 0, none⟩) c cR, .slice (some ⟨aS, 0, none⟩) c cS]]) ∧ Below w.heap.size w w11.drew := keep51 HS11.out ((Below.refl _ _).drew)
    go_region_held3 (fun W => W.cell? ⟨w1.heap.size, 0, none⟩ = some (.int .i64 (c : Int)) ∧ W.cell? ⟨w1.heap.size, 1, none⟩ = some (.int .i64 (k : Int)) ∧ W.cell? ⟨w1.heap.size, 2, none⟩ = some (.int .i64 (r : Int)) ∧ W.cell? ⟨w1.heap.size, 3, none⟩ = some (.slice (some ⟨aP, 1, none⟩) (c - 1) (cP - 1)) ∧ W.cell? ⟨w1.heap.size, 4, none⟩ = some (.slice (some ⟨aQ, 0, none⟩) c cQ) ∧ St16 W (w0.heap.size + 1 + 5) c (.slice (some ⟨aP, 0, none⟩) c cP) (.slice (some ⟨aQ, 0, none⟩) c cQ) (.slice (some ⟨aR, 0, none⟩) c cR) (.slice (some ⟨aS, 0, none⟩) c cS) C2 D (fun _ => (r : Int)) (fun _ => (r : Int)) ([blkT w1.heap.size 30 #[.int .i64 (c : Int), .int .i64 (k : Int), .int .i64 (r : Int), .slice (some ⟨aP, 1, none⟩) (c - 1) (cP - 1), .slice (some ⟨aQ, 0, none⟩) c cQ], blkT (w1.heap.size + 1) 33 #[.int .i64 (c : Int), .int .i64 (k : Int), .int .i64 (r : Int), .slice (some ⟨aR, 0, none⟩) c cR, .slice (some ⟨aS, 0, none⟩) c cS]]) ∧ Below w.heap.size w W) (first | exact S11d | assumption) (first | (go_at_call 24; refine (HFE.out _).mono ?_; rintro e w12 ⟨rfl, h12⟩; have h12' := h12.symm; subst h12'; clear h12) | (go_at_call 30; refine (HN3.out _ (by assumption)).mono ?_; rintro e w13 ⟨rfl, hb13⟩; have S13 := keep51 (by assumption) hb13; clear hb13) | (go_at_call 27; refine (HN4.out _ (by assumption)).mono ?_; rintro e w14 ⟨rfl, hb14⟩; have S14 := keep51 (by assumption) hb14; clear hb14) | (go_at_call 22; refine (HN5.out _ (by assumption)).mono ?_; rintro e w15 ⟨rfl, hb15⟩; have S15 := keep51 (by assumption) hb15; have HB15 : Hid (Below w.heap.size w w15) := S15.2.2.2.2.2.2; clear hb15))
    all_goals
      go_wp2
      go_ret
      exact ⟨rfl, HB15.out⟩
set_option maxRecDepth 100000 in
set_option maxHeartbeats 16000000 in
theorem walk_in2 (a b d c k r : Nat) (hok : Lay.ok (c : Int) (k : Int) (r : Int)) (hg : ∀ W, Calls Tryz.prog 10 #[.int .u8 (a : Int), .int .u8 (b : Int), .int .u8 (d : Int)] W fun e w' => e = .returned (.agg #[.int .i64 (c : Int), .int .i64 (k : Int), .int .i64 (r : Int)]) ∧ Below W.heap.size W w') (row off role : Int) (h1 : 0 ≤ row) (h2 : row < (r : Int)) (h3 : 0 ≤ off) (h4 : off < (k : Int)) (h5 : 0 ≤ role) (h6 : role < (c : Int) - 2) (h7 : role < (c : Int)) (hcase : Case c k r row off role true 0 0 0) (w : World) :
    Calls Tryz.prog 6 #[.int .u8 (a : Int), .int .u8 (b : Int), .int .u8 (d : Int), .int .i64 row, .int .i64 off, .int .i64 role] w fun e w' => e = .returned (.bool true) ∧ Below w.heap.size w w' := by
  have a1 : decide ((0 : Int) ≤ row) = true := decide_eq_true h1
  have a2 : decide (row < (r : Int)) = true := decide_eq_true h2
  have a3 : decide ((0 : Int) ≤ off) = true := decide_eq_true h3
  have a4 : decide (off < (k : Int)) = true := decide_eq_true h4
  have r1 : decide ((0 : Int) ≤ role) = true := decide_eq_true h5
  have r2 : decide (role < (c : Int) - 2) = true := decide_eq_true h6
  have r3 : decide (role < (c : Int)) = true := decide_eq_true h7
  have HG : Hid (∀ W, Calls Tryz.prog 10 #[.int .u8 (a : Int), .int .u8 (b : Int), .int .u8 (d : Int)] W fun e w' => e = .returned (.agg #[.int .i64 (c : Int), .int .i64 (k : Int), .int .i64 (r : Int)]) ∧ Below W.heap.size W w') := hg
  have HPA : Hid (∀ W, Calls Tryz.prog 9 #[.agg #[.int .i64 (c : Int), .int .i64 (k : Int), .int .i64 (r : Int)], .bool false] W (PairSt W c k r (4 + r * k))) := fun W => pair16_st c k r hok false (4 + r * k) rfl W
  obtain ⟨X, hX⟩ : ∃ X, Ro.fillB ⟨#[97]⟩ = X := ⟨_, rfl⟩
  have hX64 : X.size = 64 := by rw [← hX]; exact Ro.fillB_size _
  have HFU : Hid (∀ W, Calls Tryz.prog 24 #[.string ⟨#[97]⟩] W fun e w' => e = .returned (.string X) ∧ w' = W) := fun W => by rw [← hX]; exact full16_any _ (by decide) W
  obtain ⟨Y, hY⟩ : ∃ Y, Ro.fillB ⟨#[]⟩ = Y := ⟨_, rfl⟩
  have HFE : Hid (∀ W, Calls Tryz.prog 24 #[.string ⟨#[]⟩] W fun e w' => e = .returned (.string Y) ∧ w' = W) := fun W => by rw [← hY]; exact full16_any _ (by decide) W
  have hc4 : 4 ≤ c := by have := hok.1; omega
  have hc10 : c ≤ 10 := by have := hok.1; omega
  have hk4 : k ≤ 4 := by have := hok.2.1; omega
  have hr4 : r ≤ 256 := by have := hok.2.2; omega
  have hc0 : 0 < c := by omega
  have hc0i : (0 : Int) < (c : Int) := by omega
  have HCASE : Hid (Case c k r row off role true 0 0 0) := hcase
  clear hX hY hg hcase
  go_enter Tryz.func6, Tryz.ntmps6
  go_wp2_with fail
  refine (HG.out _).mono ?_
  rintro e w0 ⟨rfl, hb0⟩
  have B0 : Hid (Below w.heap.size w w0) := hb0
  clear hb0
  go_wp2_with fail
  refine (HPA.out _).mono ?_
  rintro e w1 ⟨aP, cP, aQ, cQ, aR, cR, aS, cS, C, D, rfl, hC, _, hF, _, _, hS, hb1⟩
  rw [World.size_alloc] at hS hb1
  have G1 := (ShpAt.new w0 (c : Int) (k : Int) (r : Int) 26).below hb1 (Nat.lt_succ_self _)
  have HGEO : Hid (ShpAt w1 w0.heap.size (c : Int) (k : Int) (r : Int)) := G1
  have B1 : Hid (Below w.heap.size w w1) := (B0.out.alloc B0.out.size _).trans (hb1.mono (by have := B0.out.size; omega))
  have HBB : Hid (w.heap.size ≤ w0.heap.size + 1 + 5) := by have := B0.out.size; show _ ≤ _; omega
  have HF : Hid (Few16 C 0) := hF
  have hH := Ro.Have.new hC
  have hbx : St16 ((w1.alloc (.cells #[.int .i64 (c : Int), .int .i64 (k : Int), .int .i64 (r : Int), .slice (some ⟨aP, 0, none⟩) c cP, .slice (some ⟨aQ, 0, none⟩) c cQ] 30)).alloc (.cells #[.int .i64 (c : Int), .int .i64 (k : Int), .int .i64 (r : Int), .slice (some ⟨aR, 0, none⟩) c cR, .slice (some ⟨aS, 0, none⟩) c cS] 33)) (w0.heap.size + 1 + 5) c (.slice (some ⟨aP, 0, none⟩) c cP) (.slice (some ⟨aQ, 0, none⟩) c cQ) (.slice (some ⟨aR, 0, none⟩) c cR) (.slice (some ⟨aS, 0, none⟩) c cS) C D (fun _ => (r : Int)) (fun _ => (r : Int)) ([blkT w1.heap.size 30 #[.int .i64 (c : Int), .int .i64 (k : Int), .int .i64 (r : Int), .slice (some ⟨aP, 0, none⟩) c cP, .slice (some ⟨aQ, 0, none⟩) c cQ], blkT (w1.heap.size + 1) 33 #[.int .i64 (c : Int), .int .i64 (k : Int), .int .i64 (r : Int), .slice (some ⟨aR, 0, none⟩) c cR, .slice (some ⟨aS, 0, none⟩) c cS]]) := by
    have h := (hS.box 30 #[.int .i64 (c : Int), .int .i64 (k : Int), .int .i64 (r : Int), .slice (some ⟨aP, 0, none⟩) c cP, .slice (some ⟨aQ, 0, none⟩) c cQ]).box 33 #[.int .i64 (c : Int), .int .i64 (k : Int), .int .i64 (r : Int), .slice (some ⟨aR, 0, none⟩) c cR, .slice (some ⟨aS, 0, none⟩) c cS]
    rw [World.size_alloc] at h
    exact h
  have HS2 : Hid (St16 ((w1.alloc (.cells #[.int .i64 (c : Int), .int .i64 (k : Int), .int .i64 (r : Int), .slice (some ⟨aP, 0, none⟩) c cP, .slice (some ⟨aQ, 0, none⟩) c cQ] 30)).alloc (.cells #[.int .i64 (c : Int), .int .i64 (k : Int), .int .i64 (r : Int), .slice (some ⟨aR, 0, none⟩) c cR, .slice (some ⟨aS, 0, none⟩) c cS] 33)) (w0.heap.size + 1 + 5) c (.slice (some ⟨aP, 0, none⟩) c cP) (.slice (some ⟨aQ, 0, none⟩) c cQ) (.slice (some ⟨aR, 0, none⟩) c cR) (.slice (some ⟨aS, 0, none⟩) c cS) C D (fun _ => (r : Int)) (fun _ => (r : Int)) ([blkT w1.heap.size 30 #[.int .i64 (c : Int), .int .i64 (k : Int), .int .i64 (r : Int), .slice (some ⟨aP, 0, none⟩) c cP, .slice (some ⟨aQ, 0, none⟩) c cQ], blkT (w1.heap.size + 1) 33 #[.int .i64 (c : Int), .int .i64 (k : Int), .int .i64 (r : Int), .slice (some ⟨aR, 0, none⟩) c cR, .slice (some ⟨aS, 0, none⟩) c cS]])) := hbx
  have hl1 : w1.heap.size < ((w1.alloc (.cells #[.int .i64 (c : Int), .int .i64 (k : Int), .int .i64 (r : Int), .slice (some ⟨aP, 0, none⟩) c cP, .slice (some ⟨aQ, 0, none⟩) c cQ] 30)).alloc (.cells #[.int .i64 (c : Int), .int .i64 (k : Int), .int .i64 (r : Int), .slice (some ⟨aR, 0, none⟩) c cR, .slice (some ⟨aS, 0, none⟩) c cS] 33)).heap.size := hbx.lt (i := 0) rfl
  obtain ⟨p, hp⟩ := hC 0 (by omega)
  have hcp := hbx.cellP (j := 0) (by omega)
  rw [hp] at hcp
  simp only [Ro.ptr] at hcp
  have hlp := World.block_lt_of_cell? _ _ hcp
  have hcap := hbx.capP
  have k0 := hbx.cell (i := 0) rfl 0
  have k1 := hbx.cell (i := 0) rfl 1
  have k2 := hbx.cell (i := 0) rfl 2
  have k3 := hbx.cell (i := 0) rfl 3
  have k4 := hbx.cell (i := 0) rfl 4
  have hmay := hH.may (k := k) (r := r) (Nat.le_refl _)
  have hread := read_ok hC (Nat.le_refl _) hc0 HCASE.out
  have hsec := sec_ok hC (Nat.le_refl _) HCASE.out
  have hwr := wr_ok hC (Nat.le_refl _) HCASE.out hX64
  have HMY : Hid (∀ W, St16 W (w0.heap.size + 1 + 5) c (.slice (some ⟨aP, 0, none⟩) c cP) (.slice (some ⟨aQ, 0, none⟩) c cQ) (.slice (some ⟨aR, 0, none⟩) c cR) (.slice (some ⟨aS, 0, none⟩) c cS) C D (fun _ => (r : Int)) (fun _ => (r : Int)) ([blkT w1.heap.size 30 #[.int .i64 (c : Int), .int .i64 (k : Int), .int .i64 (r : Int), .slice (some ⟨aP, 0, none⟩) c cP, .slice (some ⟨aQ, 0, none⟩) c cQ], blkT (w1.heap.size + 1) 33 #[.int .i64 (c : Int), .int .i64 (k : Int), .int .i64 (r : Int), .slice (some ⟨aR, 0, none⟩) c cR, .slice (some ⟨aS, 0, none⟩) c cS]]) → Calls Tryz.prog 22 #[.agg #[.int .i64 (c : Int), .int .i64 (k : Int), .int .i64 (r : Int), .slice (some ⟨aP, 0, none⟩) c cP, .slice (some ⟨aQ, 0, none⟩) c cQ]] W fun e w' => e = .returned (.bool true) ∧ Below W.heap.size W w') := fun W hW => by
    have h := may16_any (dcap := cP) (bcap := cQ) hok (by omega) W hW.pr.set
    rw [hmay] at h
    exact h
  have HRD : Hid (∀ W, St16 W (w0.heap.size + 1 + 5) c (.slice (some ⟨aP, 0, none⟩) c cP) (.slice (some ⟨aQ, 0, none⟩) c cQ) (.slice (some ⟨aR, 0, none⟩) c cR) (.slice (some ⟨aS, 0, none⟩) c cS) C D (fun _ => (r : Int)) (fun _ => (r : Int)) ([blkT w1.heap.size 30 #[.int .i64 (c : Int), .int .i64 (k : Int), .int .i64 (r : Int), .slice (some ⟨aP, 0, none⟩) c cP, .slice (some ⟨aQ, 0, none⟩) c cQ], blkT (w1.heap.size + 1) 33 #[.int .i64 (c : Int), .int .i64 (k : Int), .int .i64 (r : Int), .slice (some ⟨aR, 0, none⟩) c cR, .slice (some ⟨aS, 0, none⟩) c cS]]) → Calls Tryz.prog 12 #[.agg #[.int .i64 (c : Int), .int .i64 (k : Int), .int .i64 (r : Int), .slice (some ⟨aP, 0, none⟩) c cP, .slice (some ⟨aQ, 0, none⟩) c cQ], .int .i64 row, .int .i64 off] W fun e w' => (∃ x0 x1 x2 x3 x4 x5, e = .returned (.tuple #[.slice x0 x1 x2, .slice x3 x4 x5, .int .i64 0])) ∧ Below W.heap.size W w') := fun W hW => by
    have h := pRead16_any (dcap := cP) (bcap := cQ) hok (by omega) row off W hW.pr.set
    rw [hread] at h
    refine h.mono ?_
    rintro e w' ⟨⟨al, cl, ai, ci, rfl, _⟩, hb⟩
    exact ⟨⟨_, _, _, _, _, _, rfl⟩, hb⟩
  have HSE : Hid (∀ W, St16 W (w0.heap.size + 1 + 5) c (.slice (some ⟨aP, 0, none⟩) c cP) (.slice (some ⟨aQ, 0, none⟩) c cQ) (.slice (some ⟨aR, 0, none⟩) c cR) (.slice (some ⟨aS, 0, none⟩) c cS) C D (fun _ => (r : Int)) (fun _ => (r : Int)) ([blkT w1.heap.size 30 #[.int .i64 (c : Int), .int .i64 (k : Int), .int .i64 (r : Int), .slice (some ⟨aP, 0, none⟩) c cP, .slice (some ⟨aQ, 0, none⟩) c cQ], blkT (w1.heap.size + 1) 33 #[.int .i64 (c : Int), .int .i64 (k : Int), .int .i64 (r : Int), .slice (some ⟨aR, 0, none⟩) c cR, .slice (some ⟨aS, 0, none⟩) c cS]]) → Calls Tryz.prog 16 #[.agg #[.int .i64 (c : Int), .int .i64 (k : Int), .int .i64 (r : Int), .slice (some ⟨aP, 0, none⟩) c cP, .slice (some ⟨aQ, 0, none⟩) c cQ], .int .i64 row, .int .i64 off, .int .i64 role] W fun e w' => (∃ x0, e = .returned (.tuple #[.string x0, .int .i64 0])) ∧ Below W.heap.size W w') := fun W hW => by
    have h := pSector16_any (dcap := cP) (bcap := cQ) hok (by omega) row off role W hW.pr.set
    rw [hsec] at h
    refine h.mono ?_
    rintro e w' ⟨rfl, hb⟩
    exact ⟨⟨_, rfl⟩, hb⟩
  obtain ⟨C2, hC2⟩ : ∃ C2, Ro.wrC c k r c c C row off role X = C2 := ⟨_, rfl⟩
  have HWR : Hid (∀ W, St16 W (w0.heap.size + 1 + 5) c (.slice (some ⟨aP, 0, none⟩) c cP) (.slice (some ⟨aQ, 0, none⟩) c cQ) (.slice (some ⟨aR, 0, none⟩) c cR) (.slice (some ⟨aS, 0, none⟩) c cS) C D (fun _ => (r : Int)) (fun _ => (r : Int)) ([blkT w1.heap.size 30 #[.int .i64 (c : Int), .int .i64 (k : Int), .int .i64 (r : Int), .slice (some ⟨aP, 0, none⟩) c cP, .slice (some ⟨aQ, 0, none⟩) c cQ], blkT (w1.heap.size + 1) 33 #[.int .i64 (c : Int), .int .i64 (k : Int), .int .i64 (r : Int), .slice (some ⟨aR, 0, none⟩) c cR, .slice (some ⟨aS, 0, none⟩) c cS]]) → Calls Tryz.prog 27 #[.agg #[.int .i64 (c : Int), .int .i64 (k : Int), .int .i64 (r : Int), .slice (some ⟨aP, 0, none⟩) c cP, .slice (some ⟨aQ, 0, none⟩) c cQ], .int .i64 row, .int .i64 off, .int .i64 role, .string X] W fun e w' => e = .returned (.int .i64 0) ∧ St16 w' (w0.heap.size + 1 + 5) c (.slice (some ⟨aP, 0, none⟩) c cP) (.slice (some ⟨aQ, 0, none⟩) c cQ) (.slice (some ⟨aR, 0, none⟩) c cR) (.slice (some ⟨aS, 0, none⟩) c cS) C2 D (fun _ => (r : Int)) (fun _ => (r : Int)) ([blkT w1.heap.size 30 #[.int .i64 (c : Int), .int .i64 (k : Int), .int .i64 (r : Int), .slice (some ⟨aP, 0, none⟩) c cP, .slice (some ⟨aQ, 0, none⟩) c cQ], blkT (w1.heap.size + 1) 33 #[.int .i64 (c : Int), .int .i64 (k : Int), .int .i64 (r : Int), .slice (some ⟨aR, 0, none⟩) c cR, .slice (some ⟨aS, 0, none⟩) c cS]]) ∧ Below (w0.heap.size + 1 + 5) W w') := fun W hW => by
    have h := hW.prWrite hok HF.out (by omega) row off role X
    rw [hwr, hC2] at h
    exact h
  have HS5 : Hid (∀ W E, St16 W (w0.heap.size + 1 + 5) c (.slice (some ⟨aP, 0, none⟩) c cP) (.slice (some ⟨aQ, 0, none⟩) c cQ) (.slice (some ⟨aR, 0, none⟩) c cR) (.slice (some ⟨aS, 0, none⟩) c cS) E D (fun _ => (r : Int)) (fun _ => (r : Int)) ([blkT w1.heap.size 30 #[.int .i64 (c : Int), .int .i64 (k : Int), .int .i64 (r : Int), .slice (some ⟨aP, 0, none⟩) c cP, .slice (some ⟨aQ, 0, none⟩) c cQ], blkT (w1.heap.size + 1) 33 #[.int .i64 (c : Int), .int .i64 (k : Int), .int .i64 (r : Int), .slice (some ⟨aR, 0, none⟩) c cR, .slice (some ⟨aS, 0, none⟩) c cS]]) → W.cell? ⟨w1.heap.size, 0, none⟩ = some (.int .i64 (c : Int)) ∧ W.cell? ⟨w1.heap.size, 1, none⟩ = some (.int .i64 (k : Int)) ∧ W.cell? ⟨w1.heap.size, 2, none⟩ = some (.int .i64 (r : Int)) ∧ W.cell? ⟨w1.heap.size, 3, none⟩ = some (.slice (some ⟨aP, 0, none⟩) c cP) ∧ W.cell? ⟨w1.heap.size, 4, none⟩ = some (.slice (some ⟨aQ, 0, none⟩) c cQ)) := fun W E hW => ⟨hW.cell (i := 0) rfl 0, hW.cell (i := 0) rfl 1, hW.cell (i := 0) rfl 2, hW.cell (i := 0) rfl 3, hW.cell (i := 0) rfl 4⟩
  have hdc : c - 1 ≠ c := by omega
  have hm1 : Ro.mayB c k r (c - 1) c (fun i => C2 (i + 1)) = false := by unfold Ro.mayB; rw [decide_eq_false hdc]; rfl
  have hc1 : Ro.chk c k r (c - 1) c (fun i => C2 (i + 1)) 0 0 = 1 := by unfold Ro.chk; rw [hm1]; rfl
  have HN1 : Hid (∀ W, W.cell? ⟨w1.heap.size, 0, none⟩ = some (.int .i64 (c : Int)) ∧ W.cell? ⟨w1.heap.size, 1, none⟩ = some (.int .i64 (k : Int)) ∧ W.cell? ⟨w1.heap.size, 2, none⟩ = some (.int .i64 (r : Int)) ∧ W.cell? ⟨w1.heap.size, 3, none⟩ = some (.slice (some ⟨aP, 1, none⟩) (c - 1) (cP - 1)) ∧ W.cell? ⟨w1.heap.size, 4, none⟩ = some (.slice (some ⟨aQ, 0, none⟩) c cQ) ∧ St16 W (w0.heap.size + 1 + 5) c (.slice (some ⟨aP, 0, none⟩) c cP) (.slice (some ⟨aQ, 0, none⟩) c cQ) (.slice (some ⟨aR, 0, none⟩) c cR) (.slice (some ⟨aS, 0, none⟩) c cS) C2 D (fun _ => (r : Int)) (fun _ => (r : Int)) ([blkT w1.heap.size 30 #[.int .i64 (c : Int), .int .i64 (k : Int), .int .i64 (r : Int), .slice (some ⟨aP, 1, none⟩) (c - 1) (cP - 1), .slice (some ⟨aQ, 0, none⟩) c cQ], blkT (w1.heap.size + 1) 33 #[.int .i64 (c : Int), .int .i64 (k : Int), .int .i64 (r : Int), .slice (some ⟨aR, 0, none⟩) c cR, .slice (some ⟨aS, 0, none⟩) c cS]]) ∧ Below w.heap.size w W → Calls Tryz.prog 12 #[.agg #[.int .i64 (c : Int), .int .i64 (k : Int), .int .i64 (r : Int), .slice (some ⟨aP, 1, none⟩) (c - 1) (cP - 1), .slice (some ⟨aQ, 0, none⟩) c cQ], .int .i64 0, .int .i64 0] W fun e w' => e = .returned (.tuple #[.slice none 0 0, .slice none 0 0, .int .i64 1]) ∧ Below W.heap.size W w') := fun W hW => by
    have h := read16_no (dcap := cP - 1) (bcap := cQ) hok (by omega) 0 0 W hW.2.2.2.2.2.1.tail (by rw [hc1]; decide)
    rw [hc1] at h
    exact h
  have HN2 : Hid (∀ W, W.cell? ⟨w1.heap.size, 0, none⟩ = some (.int .i64 (c : Int)) ∧ W.cell? ⟨w1.heap.size, 1, none⟩ = some (.int .i64 (k : Int)) ∧ W.cell? ⟨w1.heap.size, 2, none⟩ = some (.int .i64 (r : Int)) ∧ W.cell? ⟨w1.heap.size, 3, none⟩ = some (.slice (some ⟨aP, 1, none⟩) (c - 1) (cP - 1)) ∧ W.cell? ⟨w1.heap.size, 4, none⟩ = some (.slice (some ⟨aQ, 0, none⟩) c cQ) ∧ St16 W (w0.heap.size + 1 + 5) c (.slice (some ⟨aP, 0, none⟩) c cP) (.slice (some ⟨aQ, 0, none⟩) c cQ) (.slice (some ⟨aR, 0, none⟩) c cR) (.slice (some ⟨aS, 0, none⟩) c cS) C2 D (fun _ => (r : Int)) (fun _ => (r : Int)) ([blkT w1.heap.size 30 #[.int .i64 (c : Int), .int .i64 (k : Int), .int .i64 (r : Int), .slice (some ⟨aP, 1, none⟩) (c - 1) (cP - 1), .slice (some ⟨aQ, 0, none⟩) c cQ], blkT (w1.heap.size + 1) 33 #[.int .i64 (c : Int), .int .i64 (k : Int), .int .i64 (r : Int), .slice (some ⟨aR, 0, none⟩) c cR, .slice (some ⟨aS, 0, none⟩) c cS]]) ∧ Below w.heap.size w W → Calls Tryz.prog 18 #[.agg #[.int .i64 (c : Int), .int .i64 (k : Int), .int .i64 (r : Int), .slice (some ⟨aP, 1, none⟩) (c - 1) (cP - 1), .slice (some ⟨aQ, 0, none⟩) c cQ], .int .i64 0] W fun e w' => e = .returned (.tuple #[.slice none 0 0, .int .i64 1]) ∧ Below W.heap.size W w') := fun W hW => by
    have h := lost16_no (dcap := cP - 1) (bcap := cQ) hok (by omega) 0 W hW.2.2.2.2.2.1.tail (by rw [hc1]; decide)
    rw [hc1] at h
    exact h
  have HN3 : Hid (∀ W, W.cell? ⟨w1.heap.size, 0, none⟩ = some (.int .i64 (c : Int)) ∧ W.cell? ⟨w1.heap.size, 1, none⟩ = some (.int .i64 (k : Int)) ∧ W.cell? ⟨w1.heap.size, 2, none⟩ = some (.int .i64 (r : Int)) ∧ W.cell? ⟨w1.heap.size, 3, none⟩ = some (.slice (some ⟨aP, 1, none⟩) (c - 1) (cP - 1)) ∧ W.cell? ⟨w1.heap.size, 4, none⟩ = some (.slice (some ⟨aQ, 0, none⟩) c cQ) ∧ St16 W (w0.heap.size + 1 + 5) c (.slice (some ⟨aP, 0, none⟩) c cP) (.slice (some ⟨aQ, 0, none⟩) c cQ) (.slice (some ⟨aR, 0, none⟩) c cR) (.slice (some ⟨aS, 0, none⟩) c cS) C2 D (fun _ => (r : Int)) (fun _ => (r : Int)) ([blkT w1.heap.size 30 #[.int .i64 (c : Int), .int .i64 (k : Int), .int .i64 (r : Int), .slice (some ⟨aP, 1, none⟩) (c - 1) (cP - 1), .slice (some ⟨aQ, 0, none⟩) c cQ], blkT (w1.heap.size + 1) 33 #[.int .i64 (c : Int), .int .i64 (k : Int), .int .i64 (r : Int), .slice (some ⟨aR, 0, none⟩) c cR, .slice (some ⟨aS, 0, none⟩) c cS]]) ∧ Below w.heap.size w W → Calls Tryz.prog 30 #[.agg #[.int .i64 (c : Int), .int .i64 (k : Int), .int .i64 (r : Int), .slice (some ⟨aP, 1, none⟩) (c - 1) (cP - 1), .slice (some ⟨aQ, 0, none⟩) c cQ]] W fun e w' => e = .returned (.int .i64 1) ∧ Below W.heap.size W w') := fun W hW => pFlush16_no (dcap := cP - 1) (bcap := cQ) hW.2.2.2.2.2.1.tail hok (by omega) hm1
  have HN4 : Hid (∀ W, W.cell? ⟨w1.heap.size, 0, none⟩ = some (.int .i64 (c : Int)) ∧ W.cell? ⟨w1.heap.size, 1, none⟩ = some (.int .i64 (k : Int)) ∧ W.cell? ⟨w1.heap.size, 2, none⟩ = some (.int .i64 (r : Int)) ∧ W.cell? ⟨w1.heap.size, 3, none⟩ = some (.slice (some ⟨aP, 1, none⟩) (c - 1) (cP - 1)) ∧ W.cell? ⟨w1.heap.size, 4, none⟩ = some (.slice (some ⟨aQ, 0, none⟩) c cQ) ∧ St16 W (w0.heap.size + 1 + 5) c (.slice (some ⟨aP, 0, none⟩) c cP) (.slice (some ⟨aQ, 0, none⟩) c cQ) (.slice (some ⟨aR, 0, none⟩) c cR) (.slice (some ⟨aS, 0, none⟩) c cS) C2 D (fun _ => (r : Int)) (fun _ => (r : Int)) ([blkT w1.heap.size 30 #[.int .i64 (c : Int), .int .i64 (k : Int), .int .i64 (r : Int), .slice (some ⟨aP, 1, none⟩) (c - 1) (cP - 1), .slice (some ⟨aQ, 0, none⟩) c cQ], blkT (w1.heap.size + 1) 33 #[.int .i64 (c : Int), .int .i64 (k : Int), .int .i64 (r : Int), .slice (some ⟨aR, 0, none⟩) c cR, .slice (some ⟨aS, 0, none⟩) c cS]]) ∧ Below w.heap.size w W → Calls Tryz.prog 27 #[.agg #[.int .i64 (c : Int), .int .i64 (k : Int), .int .i64 (r : Int), .slice (some ⟨aP, 1, none⟩) (c - 1) (cP - 1), .slice (some ⟨aQ, 0, none⟩) c cQ], .int .i64 0, .int .i64 0, .int .i64 0, .string Y] W fun e w' => e = .returned (.int .i64 1) ∧ Below W.heap.size W w') := fun W hW => by
    have h := pWrite16_no (dcap := cP - 1) (bcap := cQ) hW.2.2.2.2.2.1.tail hok (by omega) 0 0 0 Y (by rw [hc1]; decide)
    rw [hc1] at h
    exact h
  have HN5 : Hid (∀ W, W.cell? ⟨w1.heap.size, 0, none⟩ = some (.int .i64 (c : Int)) ∧ W.cell? ⟨w1.heap.size, 1, none⟩ = some (.int .i64 (k : Int)) ∧ W.cell? ⟨w1.heap.size, 2, none⟩ = some (.int .i64 (r : Int)) ∧ W.cell? ⟨w1.heap.size, 3, none⟩ = some (.slice (some ⟨aP, 1, none⟩) (c - 1) (cP - 1)) ∧ W.cell? ⟨w1.heap.size, 4, none⟩ = some (.slice (some ⟨aQ, 0, none⟩) c cQ) ∧ St16 W (w0.heap.size + 1 + 5) c (.slice (some ⟨aP, 0, none⟩) c cP) (.slice (some ⟨aQ, 0, none⟩) c cQ) (.slice (some ⟨aR, 0, none⟩) c cR) (.slice (some ⟨aS, 0, none⟩) c cS) C2 D (fun _ => (r : Int)) (fun _ => (r : Int)) ([blkT w1.heap.size 30 #[.int .i64 (c : Int), .int .i64 (k : Int), .int .i64 (r : Int), .slice (some ⟨aP, 1, none⟩) (c - 1) (cP - 1), .slice (some ⟨aQ, 0, none⟩) c cQ], blkT (w1.heap.size + 1) 33 #[.int .i64 (c : Int), .int .i64 (k : Int), .int .i64 (r : Int), .slice (some ⟨aR, 0, none⟩) c cR, .slice (some ⟨aS, 0, none⟩) c cS]]) ∧ Below w.heap.size w W → Calls Tryz.prog 22 #[.agg #[.int .i64 (c : Int), .int .i64 (k : Int), .int .i64 (r : Int), .slice (some ⟨aP, 1, none⟩) (c - 1) (cP - 1), .slice (some ⟨aQ, 0, none⟩) c cQ]] W fun e w' => e = .returned (.bool false) ∧ Below W.heap.size W w') := fun W hW => by
    have h := may16_any (dcap := cP - 1) (bcap := cQ) hok (by omega) W hW.2.2.2.2.2.1.tail
    rw [hm1] at h
    exact h
  have HSH : Hid (∀ W, Calls Tryz.prog 8 #[] W fun e w' => e = .returned (.bool true) ∧ Below W.heap.size W w') := fun W => shown16_any W
  have B2 : Hid (Below w.heap.size w ((w1.alloc (.cells #[.int .i64 (c : Int), .int .i64 (k : Int), .int .i64 (r : Int), .slice (some ⟨aP, 0, none⟩) c cP, .slice (some ⟨aQ, 0, none⟩) c cQ] 30)).alloc (.cells #[.int .i64 (c : Int), .int .i64 (k : Int), .int .i64 (r : Int), .slice (some ⟨aR, 0, none⟩) c cR, .slice (some ⟨aS, 0, none⟩) c cS] 33))) := (B1.out.alloc B1.out.size _).alloc (Nat.le_trans B1.out.size (by simp)) _
  obtain ⟨hg0, hg1, hg2⟩ := HGEO.out.below (((Below.refl _ _).alloc (Nat.le_refl _) (.cells #[.int .i64 (c : Int), .int .i64 (k : Int), .int .i64 (r : Int), .slice (some ⟨aP, 0, none⟩) c cP, .slice (some ⟨aQ, 0, none⟩) c cQ] 30)).alloc (by simp) (.cells #[.int .i64 (c : Int), .int .i64 (k : Int), .int .i64 (r : Int), .slice (some ⟨aR, 0, none⟩) c cR, .slice (some ⟨aS, 0, none⟩) c cS] 33)) HGEO.out.lt
  have hgl : w0.heap.size < ((w1.alloc (.cells #[.int .i64 (c : Int), .int .i64 (k : Int), .int .i64 (r : Int), .slice (some ⟨aP, 0, none⟩) c cP, .slice (some ⟨aQ, 0, none⟩) c cQ] 30)).alloc (.cells #[.int .i64 (c : Int), .int .i64 (k : Int), .int .i64 (r : Int), .slice (some ⟨aR, 0, none⟩) c cR, .slice (some ⟨aS, 0, none⟩) c cS] 33)).heap.size := World.block_lt_of_cell? _ _ hg0
  have HGE2 : Hid (ShpAt ((w1.alloc (.cells #[.int .i64 (c : Int), .int .i64 (k : Int), .int .i64 (r : Int), .slice (some ⟨aP, 0, none⟩) c cP, .slice (some ⟨aQ, 0, none⟩) c cQ] 30)).alloc (.cells #[.int .i64 (c : Int), .int .i64 (k : Int), .int .i64 (r : Int), .slice (some ⟨aR, 0, none⟩) c cR, .slice (some ⟨aS, 0, none⟩) c cS] 33)) w0.heap.size (c : Int) (k : Int) (r : Int)) := ⟨hg0, hg1, hg2⟩
  clear hC hF hS hb1 hH hbx hp hC2 hmay hread hsec hwr hm1 hc1 hdc G1
  go_upto_region 3 with fail
  generalize ((w1.alloc (.cells #[.int .i64 (c : Int), .int .i64 (k : Int), .int .i64 (r : Int), .slice (some ⟨aP, 0, none⟩) c cP, .slice (some ⟨aQ, 0, none⟩) c cQ] 30)).alloc (.cells #[.int .i64 (c : Int), .int .i64 (k : Int), .int .i64 (r : Int), .slice (some ⟨aR, 0, none⟩) c cR, .slice (some ⟨aS, 0, none⟩) c cS] 33)) = w2 at *
  go_wp2_with fail
  refine (HMY.out _ HS2.out).mono ?_
  rintro e w3 ⟨rfl, hb3⟩
  have T3 : Hid (St16 w3 (w0.heap.size + 1 + 5) c (.slice (some ⟨aP, 0, none⟩) c cP) (.slice (some ⟨aQ, 0, none⟩) c cQ) (.slice (some ⟨aR, 0, none⟩) c cR) (.slice (some ⟨aS, 0, none⟩) c cS) C D (fun _ => (r : Int)) (fun _ => (r : Int)) ([blkT w1.heap.size 30 #[.int .i64 (c : Int), .int .i64 (k : Int), .int .i64 (r : Int), .slice (some ⟨aP, 0, none⟩) c cP, .slice (some ⟨aQ, 0, none⟩) c cQ], blkT (w1.heap.size + 1) 33 #[.int .i64 (c : Int), .int .i64 (k : Int), .int .i64 (r : Int), .slice (some ⟨aR, 0, none⟩) c cR, .slice (some ⟨aS, 0, none⟩) c cS]])) := HS2.out.below hb3
  have B3 : Hid (Below w.heap.size w w3) := B2.out.trans (hb3.mono B2.out.size)
  have G3 : Hid (ShpAt w3 w0.heap.size (c : Int) (k : Int) (r : Int)) := HGE2.out.below hb3 HGE2.out.lt
  clear hb3 k0 k1 k2 k3 k4 hcp hg0 hg1 hg2 hgl hl1 hlp
  go_wp2_with fail
  refine (HSH.out _).mono ?_
  rintro e w4 ⟨rfl, hb4⟩
  have T4 : Hid (St16 w4 (w0.heap.size + 1 + 5) c (.slice (some ⟨aP, 0, none⟩) c cP) (.slice (some ⟨aQ, 0, none⟩) c cQ) (.slice (some ⟨aR, 0, none⟩) c cR) (.slice (some ⟨aS, 0, none⟩) c cS) C D (fun _ => (r : Int)) (fun _ => (r : Int)) ([blkT w1.heap.size 30 #[.int .i64 (c : Int), .int .i64 (k : Int), .int .i64 (r : Int), .slice (some ⟨aP, 0, none⟩) c cP, .slice (some ⟨aQ, 0, none⟩) c cQ], blkT (w1.heap.size + 1) 33 #[.int .i64 (c : Int), .int .i64 (k : Int), .int .i64 (r : Int), .slice (some ⟨aR, 0, none⟩) c cR, .slice (some ⟨aS, 0, none⟩) c cS]])) := T3.out.below hb4
  have B4 : Hid (Below w.heap.size w w4) := B3.out.trans (hb4.mono B3.out.size)
  have G4 : Hid (ShpAt w4 w0.heap.size (c : Int) (k : Int) (r : Int)) := G3.out.below hb4 G3.out.lt
  obtain ⟨g0, g1, g2⟩ := G4.out
  have hgl4 : w0.heap.size < w4.heap.size := World.block_lt_of_cell? _ _ g0
  obtain ⟨j0, j1, j2, j3, j4⟩ := HS5.out _ _ T4.out
  have hl4 : w1.heap.size < w4.heap.size := World.block_lt_of_cell? _ _ j0
  clear hb4
  go_wp2_with fail
  refine (HRD.out _ T4.out).mono ?_
  rintro e w5 ⟨⟨y0, y1, y2, y3, y4, y5, rfl⟩, hb5⟩
  have T5 : Hid (St16 w5 (w0.heap.size + 1 + 5) c (.slice (some ⟨aP, 0, none⟩) c cP) (.slice (some ⟨aQ, 0, none⟩) c cQ) (.slice (some ⟨aR, 0, none⟩) c cR) (.slice (some ⟨aS, 0, none⟩) c cS) C D (fun _ => (r : Int)) (fun _ => (r : Int)) ([blkT w1.heap.size 30 #[.int .i64 (c : Int), .int .i64 (k : Int), .int .i64 (r : Int), .slice (some ⟨aP, 0, none⟩) c cP, .slice (some ⟨aQ, 0, none⟩) c cQ], blkT (w1.heap.size + 1) 33 #[.int .i64 (c : Int), .int .i64 (k : Int), .int .i64 (r : Int), .slice (some ⟨aR, 0, none⟩) c cR, .slice (some ⟨aS, 0, none⟩) c cS]])) := T4.out.below hb5
  have B5 : Hid (Below w.heap.size w w5) := B4.out.trans (hb5.mono B4.out.size)
  have G5 : Hid (ShpAt w5 w0.heap.size (c : Int) (k : Int) (r : Int)) := G4.out.below hb5 G4.out.lt
  clear hb5 j0 j1 j2 j3 j4 hl4 g0 g1 g2 hgl4
  obtain ⟨j0, j1, j2, j3, j4⟩ := HS5.out _ _ T5.out
  have hl5 : w1.heap.size < w5.heap.size := World.block_lt_of_cell? _ _ j0
  go_wp2_with fail
  refine (HSE.out _ T5.out).mono ?_
  rintro e w6 ⟨⟨y6, rfl⟩, hb6⟩
  have T6 : Hid (St16 w6 (w0.heap.size + 1 + 5) c (.slice (some ⟨aP, 0, none⟩) c cP) (.slice (some ⟨aQ, 0, none⟩) c cQ) (.slice (some ⟨aR, 0, none⟩) c cR) (.slice (some ⟨aS, 0, none⟩) c cS) C D (fun _ => (r : Int)) (fun _ => (r : Int)) ([blkT w1.heap.size 30 #[.int .i64 (c : Int), .int .i64 (k : Int), .int .i64 (r : Int), .slice (some ⟨aP, 0, none⟩) c cP, .slice (some ⟨aQ, 0, none⟩) c cQ], blkT (w1.heap.size + 1) 33 #[.int .i64 (c : Int), .int .i64 (k : Int), .int .i64 (r : Int), .slice (some ⟨aR, 0, none⟩) c cR, .slice (some ⟨aS, 0, none⟩) c cS]])) := T5.out.below hb6
  have B6 : Hid (Below w.heap.size w w6) := B5.out.trans (hb6.mono B5.out.size)
  have G6 : Hid (ShpAt w6 w0.heap.size (c : Int) (k : Int) (r : Int)) := G5.out.below hb6 G5.out.lt
  clear hb6 j0 j1 j2 j3 j4 hl5
  obtain ⟨j0, j1, j2, j3, j4⟩ := HS5.out _ _ T6.out
  have hl6 : w1.heap.size < w6.heap.size := World.block_lt_of_cell? _ _ j0
  go_wp2_with fail
  have hS0 : w6.drew.cell? ⟨w1.heap.size, 0, none⟩ = some (.int .i64 (c : Int)) ∧ w6.drew.cell? ⟨w1.heap.size, 1, none⟩ = some (.int .i64 (k : Int)) ∧ w6.drew.cell? ⟨w1.heap.size, 2, none⟩ = some (.int .i64 (r : Int)) ∧ w6.drew.cell? ⟨w1.heap.size, 3, none⟩ = some (.slice (some ⟨aP, 0, none⟩) c cP) ∧ w6.drew.cell? ⟨w1.heap.size, 4, none⟩ = some (.slice (some ⟨aQ, 0, none⟩) c cQ) := ⟨j0, j1, j2, j3, j4⟩
  have T6d : Hid (St16 w6.drew (w0.heap.size + 1 + 5) c (.slice (some ⟨aP, 0, none⟩) c cP) (.slice (some ⟨aQ, 0, none⟩) c cQ) (.slice (some ⟨aR, 0, none⟩) c cR) (.slice (some ⟨aS, 0, none⟩) c cS) C D (fun _ => (r : Int)) (fun _ => (r : Int)) ([blkT w1.heap.size 30 #[.int .i64 (c : Int), .int .i64 (k : Int), .int .i64 (r : Int), .slice (some ⟨aP, 0, none⟩) c cP, .slice (some ⟨aQ, 0, none⟩) c cQ], blkT (w1.heap.size + 1) 33 #[.int .i64 (c : Int), .int .i64 (k : Int), .int .i64 (r : Int), .slice (some ⟨aR, 0, none⟩) c cR, .slice (some ⟨aS, 0, none⟩) c cS]])) := T6.out.below ((Below.refl _ _).drew)
  go_region_held3 (fun W => W.cell? ⟨w1.heap.size, 0, none⟩ = some (.int .i64 (c : Int)) ∧ W.cell? ⟨w1.heap.size, 1, none⟩ = some (.int .i64 (k : Int)) ∧ W.cell? ⟨w1.heap.size, 2, none⟩ = some (.int .i64 (r : Int)) ∧ W.cell? ⟨w1.heap.size, 3, none⟩ = some (.slice (some ⟨aP, 0, none⟩) c cP) ∧ W.cell? ⟨w1.heap.size, 4, none⟩ = some (.slice (some ⟨aQ, 0, none⟩) c cQ)) (first | exact hS0 | assumption) (first | (go_at_call 24; refine (HFU.out _).mono ?_; rintro e w7 ⟨rfl, h7⟩; have h7' := h7.symm; subst h7'; clear h7) | (go_at_call 27; refine (HWR.out _ T6d.out).mono ?_; rintro e w8 ⟨rfl, ht8, hb8⟩; have T8 : Hid (St16 w8 (w0.heap.size + 1 + 5) c (.slice (some ⟨aP, 0, none⟩) c cP) (.slice (some ⟨aQ, 0, none⟩) c cQ) (.slice (some ⟨aR, 0, none⟩) c cR) (.slice (some ⟨aS, 0, none⟩) c cS) C2 D (fun _ => (r : Int)) (fun _ => (r : Int)) ([blkT w1.heap.size 30 #[.int .i64 (c : Int), .int .i64 (k : Int), .int .i64 (r : Int), .slice (some ⟨aP, 0, none⟩) c cP, .slice (some ⟨aQ, 0, none⟩) c cQ], blkT (w1.heap.size + 1) 33 #[.int .i64 (c : Int), .int .i64 (k : Int), .int .i64 (r : Int), .slice (some ⟨aR, 0, none⟩) c cR, .slice (some ⟨aS, 0, none⟩) c cS]])) := ht8; have hs8 := HS5.out _ _ ht8; have B8 : Hid (Below (w0.heap.size + 1 + 5) w6 w8) := (Below.refl _ w6).drew.trans hb8; clear ht8 hb8))
  all_goals
    have BW8 : Hid (Below w.heap.size w w8) := B6.out.trans (B8.out.mono HBB.out)
    have G8 : Hid (ShpAt w8 w0.heap.size (c : Int) (k : Int) (r : Int)) := G6.out.below B8.out (by omega)
    obtain ⟨n0, n1, n2, n3, n4⟩ := hs8
    obtain ⟨g0, g1, g2⟩ := G8.out
    have hl8 : w1.heap.size < w8.heap.size := World.block_lt_of_cell? _ _ n0
    have hg8 : w0.heap.size < w8.heap.size := World.block_lt_of_cell? _ _ g0
    clear j0 j1 j2 j3 j4 hl6 hS0
    go_upto_region 11 with fail
    have hsl := fun W => slice_tail (aP := aP) (by omega) hcap W
    have z3 := frozen_of_row w8 w1.heap.size 3 _ _ (T8.out.block (i := 0) rfl)
    clear g0 g1 g2 hg8
    go_upto_region 12 with fail
    obtain ⟨t9, o9⟩ := T8.out.setBox (i := 0) rfl 3 (.slice (some ⟨aP, 1, none⟩) (c - 1) (cP - 1))
    have B9 : Below w.heap.size w (w8.setCell ⟨w1.heap.size, 3, none⟩ (.slice (some ⟨aP, 1, none⟩) (c - 1) (cP - 1))) := BW8.out.trans ((o9.below (B := w0.heap.size + 1 + 5) (fun _ hk => hk.1) T8.out.size).mono HBB.out)
    have t9' : St16 (w8.setCell ⟨w1.heap.size, 3, none⟩ (.slice (some ⟨aP, 1, none⟩) (c - 1) (cP - 1))) (w0.heap.size + 1 + 5) c (.slice (some ⟨aP, 0, none⟩) c cP) (.slice (some ⟨aQ, 0, none⟩) c cQ) (.slice (some ⟨aR, 0, none⟩) c cR) (.slice (some ⟨aS, 0, none⟩) c cS) C2 D (fun _ => (r : Int)) (fun _ => (r : Int)) ([blkT w1.heap.size 30 #[.int .i64 (c : Int), .int .i64 (k : Int), .int .i64 (r : Int), .slice (some ⟨aP, 1, none⟩) (c - 1) (cP - 1), .slice (some ⟨aQ, 0, none⟩) c cQ], blkT (w1.heap.size + 1) 33 #[.int .i64 (c : Int), .int .i64 (k : Int), .int .i64 (r : Int), .slice (some ⟨aR, 0, none⟩) c cR, .slice (some ⟨aS, 0, none⟩) c cS]]) := t9
    generalize w8.setCell ⟨w1.heap.size, 3, none⟩ (.slice (some ⟨aP, 1, none⟩) (c - 1) (cP - 1)) = w9 at t9 t9' o9 B9 ⊢
    have S9 : w9.cell? ⟨w1.heap.size, 0, none⟩ = some (.int .i64 (c : Int)) ∧ w9.cell? ⟨w1.heap.size, 1, none⟩ = some (.int .i64 (k : Int)) ∧ w9.cell? ⟨w1.heap.size, 2, none⟩ = some (.int .i64 (r : Int)) ∧ w9.cell? ⟨w1.heap.size, 3, none⟩ = some (.slice (some ⟨aP, 1, none⟩) (c - 1) (cP - 1)) ∧ w9.cell? ⟨w1.heap.size, 4, none⟩ = some (.slice (some ⟨aQ, 0, none⟩) c cQ) ∧ St16 w9 (w0.heap.size + 1 + 5) c (.slice (some ⟨aP, 0, none⟩) c cP) (.slice (some ⟨aQ, 0, none⟩) c cQ) (.slice (some ⟨aR, 0, none⟩) c cR) (.slice (some ⟨aS, 0, none⟩) c cS) C2 D (fun _ => (r : Int)) (fun _ => (r : Int)) ([blkT w1.heap.size 30 #[.int .i64 (c : Int), .int .i64 (k : Int), .int .i64 (r : Int), .slice (some ⟨aP, 1, none⟩) (c - 1) (cP - 1), .slice (some ⟨aQ, 0, none⟩) c cQ], blkT (w1.heap.size + 1) 33 #[.int .i64 (c : Int), .int .i64 (k : Int), .int .i64 (r : Int), .slice (some ⟨aR, 0, none⟩) c cR, .slice (some ⟨aS, 0, none⟩) c cS]]) ∧ Below w.heap.size w w9 := ⟨t9'.cell (i := 0) rfl 0, t9'.cell (i := 0) rfl 1, t9'.cell (i := 0) rfl 2, t9'.cell (i := 0) rfl 3, t9'.cell (i := 0) rfl 4, t9', B9⟩
    have HS9 : Hid (w9.cell? ⟨w1.heap.size, 0, none⟩ = some (.int .i64 (c : Int)) ∧ w9.cell? ⟨w1.heap.size, 1, none⟩ = some (.int .i64 (k : Int)) ∧ w9.cell? ⟨w1.heap.size, 2, none⟩ = some (.int .i64 (r : Int)) ∧ w9.cell? ⟨w1.heap.size, 3, none⟩ = some (.slice (some ⟨aP, 1, none⟩) (c - 1) (cP - 1)) ∧ w9.cell? ⟨w1.heap.size, 4, none⟩ = some (.slice (some ⟨aQ, 0, none⟩) c cQ) ∧ St16 w9 (w0.heap.size + 1 + 5) c (.slice (some ⟨aP, 0, none⟩) c cP) (.slice (some ⟨aQ, 0, none⟩) c cQ) (.slice (some ⟨aR, 0, none⟩) c cR) (.slice (some ⟨aS, 0, none⟩) c cS) C2 D (fun _ => (r : Int)) (fun _ => (r : Int)) ([blkT w1.heap.size 30 #[.int .i64 (c : Int), .int .i64 (k : Int), .int .i64 (r : Int), .slice (some ⟨aP, 1, none⟩) (c - 1) (cP - 1), .slice (some ⟨aQ, 0, none⟩) c cQ], blkT (w1.heap.size + 1) 33 #[.int .i64 (c : Int), .int .i64 (k : Int), .int .i64 (r : Int), .slice (some ⟨aR, 0, none⟩) c cR, .slice (some ⟨aS, 0, none⟩) c cS]]) ∧ Below w.heap.size w w9) := S9
    obtain ⟨m0, m1, m2, m3, m4, _, _⟩ := S9
    have hl9 : w1.heap.size < w9.heap.size := World.block_lt_of_cell? _ _ m0
    clear t9 t9' o9 B9 n0 n1 n2 n3 n4 hl8 z3 hsl
    go_wp2_with fail
    refine (HN1.out _ HS9.out).mono ?_
    rintro e w10 ⟨rfl, hb10⟩
    have S10 : w10.cell? ⟨w1.heap.size, 0, none⟩ = some (.int .i64 (c : Int)) ∧ w10.cell? ⟨w1.heap.size, 1, none⟩ = some (.int .i64 (k : Int)) ∧ w10.cell? ⟨w1.heap.size, 2, none⟩ = some (.int .i64 (r : Int)) ∧ w10.cell? ⟨w1.heap.size, 3, none⟩ = some (.slice (some ⟨aP, 1, none⟩) (c - 1) (cP - 1)) ∧ w10.cell? ⟨w1.heap.size, 4, none⟩ = some (.slice (some ⟨aQ, 0, none⟩) c cQ) ∧ St16 w10 (w0.heap.size + 1 + 5) c (.slice (some ⟨aP, 0, none⟩) c cP) (.slice (some ⟨aQ, 0, none⟩) c cQ) (.slice (some ⟨aR, 0, none⟩) c cR) (.slice (some ⟨aS, 0, none⟩) c cS) C2 D (fun _ => (r : Int)) (fun _ => (r : Int)) ([blkT w1.heap.size 30 #[.int .i64 (c : Int), .int .i64 (k : Int), .int .i64 (r : Int), .slice (some ⟨aP, 1, none⟩) (c - 1) (cP - 1), .slice (some ⟨aQ, 0, none⟩) c cQ], blkT (w1.heap.size + 1) 33 #[.int .i64 (c : Int), .int .i64 (k : Int), .int .i64 (r : Int), .slice (some ⟨aR, 0, none⟩) c cR, .slice (some ⟨aS, 0, none⟩) c cS]]) ∧ Below w.heap.size w w10 := keep51 HS9.out hb10
    have HS10 : Hid (w10.cell? ⟨w1.heap.size, 0, none⟩ = some (.int .i64 (c : Int)) ∧ w10.cell? ⟨w1.heap.size, 1, none⟩ = some (.int .i64 (k : Int)) ∧ w10.cell? ⟨w1.heap.size, 2, none⟩ = some (.int .i64 (r : Int)) ∧ w10.cell? ⟨w1.heap.size, 3, none⟩ = some (.slice (some ⟨aP, 1, none⟩) (c - 1) (cP - 1)) ∧ w10.cell? ⟨w1.heap.size, 4, none⟩ = some (.slice (some ⟨aQ, 0, none⟩) c cQ) ∧ St16 w10 (w0.heap.size + 1 + 5) c (.slice (some ⟨aP, 0, none⟩) c cP) (.slice (some ⟨aQ, 0, none⟩) c cQ) (.slice (some ⟨aR, 0, none⟩) c cR) (.slice (some ⟨aS, 0, none⟩) c cS) C2 D (fun _ => (r : Int)) (fun _ => (r : Int)) ([blkT w1.heap.size 30 #[.int .i64 (c : Int), .int .i64 (k : Int), .int .i64 (r : Int), .slice (some ⟨aP, 1, none⟩) (c - 1) (cP - 1), .slice (some ⟨aQ, 0, none⟩) c cQ], blkT (w1.heap.size + 1) 33 #[.int .i64 (c : Int), .int .i64 (k : Int), .int .i64 (r : Int), .slice (some ⟨aR, 0, none⟩) c cR, .slice (some ⟨aS, 0, none⟩) c cS]]) ∧ Below w.heap.size w w10) := S10
    clear hb10 m0 m1 m2 m3 m4 hl9
    obtain ⟨m0, m1, m2, m3, m4, _, _⟩ := S10
    have hl10 : w1.heap.size < w10.heap.size := World.block_lt_of_cell? _ _ m0
    go_wp2_with fail
    refine (HN2.out _ HS10.out).mono ?_
    rintro e w11 ⟨rfl, hb11⟩
    have S11 : w11.cell? ⟨w1.heap.size, 0, none⟩ = some (.int .i64 (c : Int)) ∧ w11.cell? ⟨w1.heap.size, 1, none⟩ = some (.int .i64 (k : Int)) ∧ w11.cell? ⟨w1.heap.size, 2, none⟩ = some (.int .i64 (r : Int)) ∧ w11.cell? ⟨w1.heap.size, 3, none⟩ = some (.slice (some ⟨aP, 1, none⟩) (c - 1) (cP - 1)) ∧ w11.cell? ⟨w1.heap.size, 4, none⟩ = some (.slice (some ⟨aQ, 0, none⟩) c cQ) ∧ St16 w11 (w0.heap.size + 1 + 5) c (.slice (some ⟨aP, 0, none⟩) c cP) (.slice (some ⟨aQ, 0, none⟩) c cQ) (.slice (some ⟨aR, 0, none⟩) c cR) (.slice (some ⟨aS, 0, none⟩) c cS) C2 D (fun _ => (r : Int)) (fun _ => (r : Int)) ([blkT w1.heap.size 30 #[.int .i64 (c : Int), .int .i64 (k : Int), .int .i64 (r : Int), .slice (some ⟨aP, 1, none⟩) (c - 1) (cP - 1), .slice (some ⟨aQ, 0, none⟩) c cQ], blkT (w1.heap.size + 1) 33 #[.int .i64 (c : Int), .int .i64 (k : Int), .int .i64 (r : Int), .slice (some ⟨aR, 0, none⟩) c cR, .slice (some ⟨aS, 0, none⟩) c cS]]) ∧ Below w.heap.size w w11 := keep51 HS10.out hb11
    have HS11 : Hid (w11.cell? ⟨w1.heap.size, 0, none⟩ = some (.int .i64 (c : Int)) ∧ w11.cell? ⟨w1.heap.size, 1, none⟩ = some (.int .i64 (k : Int)) ∧ w11.cell? ⟨w1.heap.size, 2, none⟩ = some (.int .i64 (r : Int)) ∧ w11.cell? ⟨w1.heap.size, 3, none⟩ = some (.slice (some ⟨aP, 1, none⟩) (c - 1) (cP - 1)) ∧ w11.cell? ⟨w1.heap.size, 4, none⟩ = some (.slice (some ⟨aQ, 0, none⟩) c cQ) ∧ St16 w11 (w0.heap.size + 1 + 5) c (.slice (some ⟨aP, 0, none⟩) c cP) (.slice (some ⟨aQ, 0, none⟩) c cQ) (.slice (some ⟨aR, 0, none⟩) c cR) (.slice (some ⟨aS, 0, none⟩) c cS) C2 D (fun _ => (r : Int)) (fun _ => (r : Int)) ([blkT w1.heap.size 30 #[.int .i64 (c : Int), .int .i64 (k : Int), .int .i64 (r : Int), .slice (some ⟨aP, 1, none⟩) (c - 1) (cP - 1), .slice (some ⟨aQ, 0, none⟩) c cQ], blkT (w1.heap.size + 1) 33 #[.int .i64 (c : Int), .int .i64 (k : Int), .int .i64 (r : Int), .slice (some ⟨aR, 0, none⟩) c cR, .slice (some ⟨aS, 0, none⟩) c cS]]) ∧ Below w.heap.size w w11) := S11
    clear hb11 m0 m1 m2 m3 m4 hl10
    obtain ⟨m0, m1, m2, m3, m4, _, _⟩ := S11
    have hl11 : w1.heap.size < w11.heap.size := World.block_lt_of_cell? _ _ m0
    go_wp2_with fail
    have S11d : w11.drew.cell? ⟨w1.heap.size, 0, none⟩ = some (.int .i64 (c : Int)) ∧ w11.drew.cell? ⟨w1.heap.size, 1, none⟩ = some (.int .i64 (k : Int)) ∧ w11.drew.cell? ⟨w1.heap.size, 2, none⟩ = some (.int .i64 (r : Int)) ∧ w11.drew.cell? ⟨w1.heap.size, 3, none⟩ = some (.slice (some ⟨aP, 1, none⟩) (c - 1) (cP - 1)) ∧ w11.drew.cell? ⟨w1.heap.size, 4, none⟩ = some (.slice (some ⟨aQ, 0, none⟩) c cQ) ∧ St16 w11.drew (w0.heap.size + 1 + 5) c (.slice (some ⟨aP, 0, none⟩) c cP) (.slice (some ⟨aQ, 0, none⟩) c cQ) (.slice (some ⟨aR, 0, none⟩) c cR) (.slice (some ⟨aS, 0, none⟩) c cS) C2 D (fun _ => (r : Int)) (fun _ => (r : Int)) ([blkT w1.heap.size 30 #[.int .i64 (c : Int), .int .i64 (k : Int), .int .i64 (r : Int), .slice (some ⟨aP, 1, none⟩) (c - 1) (cP - 1), .slice (some ⟨aQ, 0, none⟩) c cQ], blkT (w1.heap.size + 1) 33 #[.int .i64 (c : Int), .int .i64 (k : Int), .int .i64 (r : Int), .slice (some ⟨aR, 0, none⟩) c cR, .slice (some ⟨aS, 0, none⟩) c cS]]) ∧ Below w.heap.size w w11.drew := keep51 HS11.out ((Below.refl _ _).drew)
    go_region_held3 (fun W => W.cell? ⟨w1.heap.size, 0, none⟩ = some (.int .i64 (c : Int)) ∧ W.cell? ⟨w1.heap.size, 1, none⟩ = some (.int .i64 (k : Int)) ∧ W.cell? ⟨w1.heap.size, 2, none⟩ = some (.int .i64 (r : Int)) ∧ W.cell? ⟨w1.heap.size, 3, none⟩ = some (.slice (some ⟨aP, 1, none⟩) (c - 1) (cP - 1)) ∧ W.cell? ⟨w1.heap.size, 4, none⟩ = some (.slice (some ⟨aQ, 0, none⟩) c cQ) ∧ St16 W (w0.heap.size + 1 + 5) c (.slice (some ⟨aP, 0, none⟩) c cP) (.slice (some ⟨aQ, 0, none⟩) c cQ) (.slice (some ⟨aR, 0, none⟩) c cR) (.slice (some ⟨aS, 0, none⟩) c cS) C2 D (fun _ => (r : Int)) (fun _ => (r : Int)) ([blkT w1.heap.size 30 #[.int .i64 (c : Int), .int .i64 (k : Int), .int .i64 (r : Int), .slice (some ⟨aP, 1, none⟩) (c - 1) (cP - 1), .slice (some ⟨aQ, 0, none⟩) c cQ], blkT (w1.heap.size + 1) 33 #[.int .i64 (c : Int), .int .i64 (k : Int), .int .i64 (r : Int), .slice (some ⟨aR, 0, none⟩) c cR, .slice (some ⟨aS, 0, none⟩) c cS]]) ∧ Below w.heap.size w W) (first | exact S11d | assumption) (first | (go_at_call 24; refine (HFE.out _).mono ?_; rintro e w12 ⟨rfl, h12⟩; have h12' := h12.symm; subst h12'; clear h12) | (go_at_call 30; refine (HN3.out _ (by assumption)).mono ?_; rintro e w13 ⟨rfl, hb13⟩; have S13 := keep51 (by assumption) hb13; clear hb13) | (go_at_call 27; refine (HN4.out _ (by assumption)).mono ?_; rintro e w14 ⟨rfl, hb14⟩; have S14 := keep51 (by assumption) hb14; clear hb14) | (go_at_call 22; refine (HN5.out _ (by assumption)).mono ?_; rintro e w15 ⟨rfl, hb15⟩; have S15 := keep51 (by assumption) hb15; have HB15 : Hid (Below w.heap.size w w15) := S15.2.2.2.2.2.2; clear hb15))
    all_goals
      go_wp2
      go_ret
      exact ⟨rfl, HB15.out⟩
end Go.Proofs.YtdgkhjgnjfgnlaaGreat.rowArgs

namespace Go.Proofs.YtdgkhjgnjfgnlaaGreat.rowArgs
open Go.RowKit
attribute [local go_sem] Oper.semAt_some

set_option maxRecDepth 100000 in
set_option maxHeartbeats 16000000 in
theorem walk_in3 (a b d c k r : Nat) (hok : Lay.ok (c : Int) (k : Int) (r : Int)) (hg : ∀ W, Calls Tryz.prog 10 #[.int .u8 (a : Int), .int .u8 (b : Int), .int .u8 (d : Int)] W fun e w' => e = .returned (.agg #[.int .i64 (c : Int), .int .i64 (k : Int), .int .i64 (r : Int)]) ∧ Below W.heap.size W w') (row off role : Int) (h1 : 0 ≤ row) (h2 : row < (r : Int)) (h3 : 0 ≤ off) (h4 : off < (k : Int)) (h5 : 0 ≤ role) (h6 : ¬ role < (c : Int) - 2) (h7 : role < (c : Int)) (hcase : Case c k r row off role true 0 70 0) (w : World) :
    Calls Tryz.prog 6 #[.int .u8 (a : Int), .int .u8 (b : Int), .int .u8 (d : Int), .int .i64 row, .int .i64 off, .int .i64 role] w fun e w' => e = .returned (.bool true) ∧ Below w.heap.size w w' := by
  have a1 : decide ((0 : Int) ≤ row) = true := decide_eq_true h1
  have a2 : decide (row < (r : Int)) = true := decide_eq_true h2
  have a3 : decide ((0 : Int) ≤ off) = true := decide_eq_true h3
  have a4 : decide (off < (k : Int)) = true := decide_eq_true h4
  have r1 : decide ((0 : Int) ≤ role) = true := decide_eq_true h5
  have r2 : decide (role < (c : Int) - 2) = false := decide_eq_false h6
  have r3 : decide (role < (c : Int)) = true := decide_eq_true h7
  have HG : Hid (∀ W, Calls Tryz.prog 10 #[.int .u8 (a : Int), .int .u8 (b : Int), .int .u8 (d : Int)] W fun e w' => e = .returned (.agg #[.int .i64 (c : Int), .int .i64 (k : Int), .int .i64 (r : Int)]) ∧ Below W.heap.size W w') := hg
  have HPA : Hid (∀ W, Calls Tryz.prog 9 #[.agg #[.int .i64 (c : Int), .int .i64 (k : Int), .int .i64 (r : Int)], .bool false] W (PairSt W c k r (4 + r * k))) := fun W => pair16_st c k r hok false (4 + r * k) rfl W
  obtain ⟨X, hX⟩ : ∃ X, Ro.fillB ⟨#[97]⟩ = X := ⟨_, rfl⟩
  have hX64 : X.size = 64 := by rw [← hX]; exact Ro.fillB_size _
  have HFU : Hid (∀ W, Calls Tryz.prog 24 #[.string ⟨#[97]⟩] W fun e w' => e = .returned (.string X) ∧ w' = W) := fun W => by rw [← hX]; exact full16_any _ (by decide) W
  obtain ⟨Y, hY⟩ : ∃ Y, Ro.fillB ⟨#[]⟩ = Y := ⟨_, rfl⟩
  have HFE : Hid (∀ W, Calls Tryz.prog 24 #[.string ⟨#[]⟩] W fun e w' => e = .returned (.string Y) ∧ w' = W) := fun W => by rw [← hY]; exact full16_any _ (by decide) W
  have hc4 : 4 ≤ c := by have := hok.1; omega
  have hc10 : c ≤ 10 := by have := hok.1; omega
  have hk4 : k ≤ 4 := by have := hok.2.1; omega
  have hr4 : r ≤ 256 := by have := hok.2.2; omega
  have hc0 : 0 < c := by omega
  have hc0i : (0 : Int) < (c : Int) := by omega
  have HCASE : Hid (Case c k r row off role true 0 70 0) := hcase
  clear hX hY hg hcase
  go_enter Tryz.func6, Tryz.ntmps6
  go_wp2_with fail
  refine (HG.out _).mono ?_
  rintro e w0 ⟨rfl, hb0⟩
  have B0 : Hid (Below w.heap.size w w0) := hb0
  clear hb0
  go_wp2_with fail
  refine (HPA.out _).mono ?_
  rintro e w1 ⟨aP, cP, aQ, cQ, aR, cR, aS, cS, C, D, rfl, hC, _, hF, _, _, hS, hb1⟩
  rw [World.size_alloc] at hS hb1
  have G1 := (ShpAt.new w0 (c : Int) (k : Int) (r : Int) 26).below hb1 (Nat.lt_succ_self _)
  have HGEO : Hid (ShpAt w1 w0.heap.size (c : Int) (k : Int) (r : Int)) := G1
  have B1 : Hid (Below w.heap.size w w1) := (B0.out.alloc B0.out.size _).trans (hb1.mono (by have := B0.out.size; omega))
  have HBB : Hid (w.heap.size ≤ w0.heap.size + 1 + 5) := by have := B0.out.size; show _ ≤ _; omega
  have HF : Hid (Few16 C 0) := hF
  have hH := Ro.Have.new hC
  have hbx : St16 ((w1.alloc (.cells #[.int .i64 (c : Int), .int .i64 (k : Int), .int .i64 (r : Int), .slice (some ⟨aP, 0, none⟩) c cP, .slice (some ⟨aQ, 0, none⟩) c cQ] 30)).alloc (.cells #[.int .i64 (c : Int), .int .i64 (k : Int), .int .i64 (r : Int), .slice (some ⟨aR, 0, none⟩) c cR, .slice (some ⟨aS, 0, none⟩) c cS] 33)) (w0.heap.size + 1 + 5) c (.slice (some ⟨aP, 0, none⟩) c cP) (.slice (some ⟨aQ, 0, none⟩) c cQ) (.slice (some ⟨aR, 0, none⟩) c cR) (.slice (some ⟨aS, 0, none⟩) c cS) C D (fun _ => (r : Int)) (fun _ => (r : Int)) ([blkT w1.heap.size 30 #[.int .i64 (c : Int), .int .i64 (k : Int), .int .i64 (r : Int), .slice (some ⟨aP, 0, none⟩) c cP, .slice (some ⟨aQ, 0, none⟩) c cQ], blkT (w1.heap.size + 1) 33 #[.int .i64 (c : Int), .int .i64 (k : Int), .int .i64 (r : Int), .slice (some ⟨aR, 0, none⟩) c cR, .slice (some ⟨aS, 0, none⟩) c cS]]) := by
    have h := (hS.box 30 #[.int .i64 (c : Int), .int .i64 (k : Int), .int .i64 (r : Int), .slice (some ⟨aP, 0, none⟩) c cP, .slice (some ⟨aQ, 0, none⟩) c cQ]).box 33 #[.int .i64 (c : Int), .int .i64 (k : Int), .int .i64 (r : Int), .slice (some ⟨aR, 0, none⟩) c cR, .slice (some ⟨aS, 0, none⟩) c cS]
    rw [World.size_alloc] at h
    exact h
  have HS2 : Hid (St16 ((w1.alloc (.cells #[.int .i64 (c : Int), .int .i64 (k : Int), .int .i64 (r : Int), .slice (some ⟨aP, 0, none⟩) c cP, .slice (some ⟨aQ, 0, none⟩) c cQ] 30)).alloc (.cells #[.int .i64 (c : Int), .int .i64 (k : Int), .int .i64 (r : Int), .slice (some ⟨aR, 0, none⟩) c cR, .slice (some ⟨aS, 0, none⟩) c cS] 33)) (w0.heap.size + 1 + 5) c (.slice (some ⟨aP, 0, none⟩) c cP) (.slice (some ⟨aQ, 0, none⟩) c cQ) (.slice (some ⟨aR, 0, none⟩) c cR) (.slice (some ⟨aS, 0, none⟩) c cS) C D (fun _ => (r : Int)) (fun _ => (r : Int)) ([blkT w1.heap.size 30 #[.int .i64 (c : Int), .int .i64 (k : Int), .int .i64 (r : Int), .slice (some ⟨aP, 0, none⟩) c cP, .slice (some ⟨aQ, 0, none⟩) c cQ], blkT (w1.heap.size + 1) 33 #[.int .i64 (c : Int), .int .i64 (k : Int), .int .i64 (r : Int), .slice (some ⟨aR, 0, none⟩) c cR, .slice (some ⟨aS, 0, none⟩) c cS]])) := hbx
  have hl1 : w1.heap.size < ((w1.alloc (.cells #[.int .i64 (c : Int), .int .i64 (k : Int), .int .i64 (r : Int), .slice (some ⟨aP, 0, none⟩) c cP, .slice (some ⟨aQ, 0, none⟩) c cQ] 30)).alloc (.cells #[.int .i64 (c : Int), .int .i64 (k : Int), .int .i64 (r : Int), .slice (some ⟨aR, 0, none⟩) c cR, .slice (some ⟨aS, 0, none⟩) c cS] 33)).heap.size := hbx.lt (i := 0) rfl
  obtain ⟨p, hp⟩ := hC 0 (by omega)
  have hcp := hbx.cellP (j := 0) (by omega)
  rw [hp] at hcp
  simp only [Ro.ptr] at hcp
  have hlp := World.block_lt_of_cell? _ _ hcp
  have hcap := hbx.capP
  have k0 := hbx.cell (i := 0) rfl 0
  have k1 := hbx.cell (i := 0) rfl 1
  have k2 := hbx.cell (i := 0) rfl 2
  have k3 := hbx.cell (i := 0) rfl 3
  have k4 := hbx.cell (i := 0) rfl 4
  have hmay := hH.may (k := k) (r := r) (Nat.le_refl _)
  have hread := read_ok hC (Nat.le_refl _) hc0 HCASE.out
  have hsec := sec_ok hC (Nat.le_refl _) HCASE.out
  have hwr := wr_ok hC (Nat.le_refl _) HCASE.out hX64
  have HMY : Hid (∀ W, St16 W (w0.heap.size + 1 + 5) c (.slice (some ⟨aP, 0, none⟩) c cP) (.slice (some ⟨aQ, 0, none⟩) c cQ) (.slice (some ⟨aR, 0, none⟩) c cR) (.slice (some ⟨aS, 0, none⟩) c cS) C D (fun _ => (r : Int)) (fun _ => (r : Int)) ([blkT w1.heap.size 30 #[.int .i64 (c : Int), .int .i64 (k : Int), .int .i64 (r : Int), .slice (some ⟨aP, 0, none⟩) c cP, .slice (some ⟨aQ, 0, none⟩) c cQ], blkT (w1.heap.size + 1) 33 #[.int .i64 (c : Int), .int .i64 (k : Int), .int .i64 (r : Int), .slice (some ⟨aR, 0, none⟩) c cR, .slice (some ⟨aS, 0, none⟩) c cS]]) → Calls Tryz.prog 22 #[.agg #[.int .i64 (c : Int), .int .i64 (k : Int), .int .i64 (r : Int), .slice (some ⟨aP, 0, none⟩) c cP, .slice (some ⟨aQ, 0, none⟩) c cQ]] W fun e w' => e = .returned (.bool true) ∧ Below W.heap.size W w') := fun W hW => by
    have h := may16_any (dcap := cP) (bcap := cQ) hok (by omega) W hW.pr.set
    rw [hmay] at h
    exact h
  have HRD : Hid (∀ W, St16 W (w0.heap.size + 1 + 5) c (.slice (some ⟨aP, 0, none⟩) c cP) (.slice (some ⟨aQ, 0, none⟩) c cQ) (.slice (some ⟨aR, 0, none⟩) c cR) (.slice (some ⟨aS, 0, none⟩) c cS) C D (fun _ => (r : Int)) (fun _ => (r : Int)) ([blkT w1.heap.size 30 #[.int .i64 (c : Int), .int .i64 (k : Int), .int .i64 (r : Int), .slice (some ⟨aP, 0, none⟩) c cP, .slice (some ⟨aQ, 0, none⟩) c cQ], blkT (w1.heap.size + 1) 33 #[.int .i64 (c : Int), .int .i64 (k : Int), .int .i64 (r : Int), .slice (some ⟨aR, 0, none⟩) c cR, .slice (some ⟨aS, 0, none⟩) c cS]]) → Calls Tryz.prog 12 #[.agg #[.int .i64 (c : Int), .int .i64 (k : Int), .int .i64 (r : Int), .slice (some ⟨aP, 0, none⟩) c cP, .slice (some ⟨aQ, 0, none⟩) c cQ], .int .i64 row, .int .i64 off] W fun e w' => (∃ x0 x1 x2 x3 x4 x5, e = .returned (.tuple #[.slice x0 x1 x2, .slice x3 x4 x5, .int .i64 0])) ∧ Below W.heap.size W w') := fun W hW => by
    have h := pRead16_any (dcap := cP) (bcap := cQ) hok (by omega) row off W hW.pr.set
    rw [hread] at h
    refine h.mono ?_
    rintro e w' ⟨⟨al, cl, ai, ci, rfl, _⟩, hb⟩
    exact ⟨⟨_, _, _, _, _, _, rfl⟩, hb⟩
  have HSE : Hid (∀ W, St16 W (w0.heap.size + 1 + 5) c (.slice (some ⟨aP, 0, none⟩) c cP) (.slice (some ⟨aQ, 0, none⟩) c cQ) (.slice (some ⟨aR, 0, none⟩) c cR) (.slice (some ⟨aS, 0, none⟩) c cS) C D (fun _ => (r : Int)) (fun _ => (r : Int)) ([blkT w1.heap.size 30 #[.int .i64 (c : Int), .int .i64 (k : Int), .int .i64 (r : Int), .slice (some ⟨aP, 0, none⟩) c cP, .slice (some ⟨aQ, 0, none⟩) c cQ], blkT (w1.heap.size + 1) 33 #[.int .i64 (c : Int), .int .i64 (k : Int), .int .i64 (r : Int), .slice (some ⟨aR, 0, none⟩) c cR, .slice (some ⟨aS, 0, none⟩) c cS]]) → Calls Tryz.prog 16 #[.agg #[.int .i64 (c : Int), .int .i64 (k : Int), .int .i64 (r : Int), .slice (some ⟨aP, 0, none⟩) c cP, .slice (some ⟨aQ, 0, none⟩) c cQ], .int .i64 row, .int .i64 off, .int .i64 role] W fun e w' => (∃ x0, e = .returned (.tuple #[.string x0, .int .i64 70])) ∧ Below W.heap.size W w') := fun W hW => by
    have h := pSector16_any (dcap := cP) (bcap := cQ) hok (by omega) row off role W hW.pr.set
    rw [hsec] at h
    refine h.mono ?_
    rintro e w' ⟨rfl, hb⟩
    exact ⟨⟨_, rfl⟩, hb⟩
  obtain ⟨C2, hC2⟩ : ∃ C2, Ro.wrC c k r c c C row off role X = C2 := ⟨_, rfl⟩
  have HWR : Hid (∀ W, St16 W (w0.heap.size + 1 + 5) c (.slice (some ⟨aP, 0, none⟩) c cP) (.slice (some ⟨aQ, 0, none⟩) c cQ) (.slice (some ⟨aR, 0, none⟩) c cR) (.slice (some ⟨aS, 0, none⟩) c cS) C D (fun _ => (r : Int)) (fun _ => (r : Int)) ([blkT w1.heap.size 30 #[.int .i64 (c : Int), .int .i64 (k : Int), .int .i64 (r : Int), .slice (some ⟨aP, 0, none⟩) c cP, .slice (some ⟨aQ, 0, none⟩) c cQ], blkT (w1.heap.size + 1) 33 #[.int .i64 (c : Int), .int .i64 (k : Int), .int .i64 (r : Int), .slice (some ⟨aR, 0, none⟩) c cR, .slice (some ⟨aS, 0, none⟩) c cS]]) → Calls Tryz.prog 27 #[.agg #[.int .i64 (c : Int), .int .i64 (k : Int), .int .i64 (r : Int), .slice (some ⟨aP, 0, none⟩) c cP, .slice (some ⟨aQ, 0, none⟩) c cQ], .int .i64 row, .int .i64 off, .int .i64 role, .string X] W fun e w' => e = .returned (.int .i64 0) ∧ St16 w' (w0.heap.size + 1 + 5) c (.slice (some ⟨aP, 0, none⟩) c cP) (.slice (some ⟨aQ, 0, none⟩) c cQ) (.slice (some ⟨aR, 0, none⟩) c cR) (.slice (some ⟨aS, 0, none⟩) c cS) C2 D (fun _ => (r : Int)) (fun _ => (r : Int)) ([blkT w1.heap.size 30 #[.int .i64 (c : Int), .int .i64 (k : Int), .int .i64 (r : Int), .slice (some ⟨aP, 0, none⟩) c cP, .slice (some ⟨aQ, 0, none⟩) c cQ], blkT (w1.heap.size + 1) 33 #[.int .i64 (c : Int), .int .i64 (k : Int), .int .i64 (r : Int), .slice (some ⟨aR, 0, none⟩) c cR, .slice (some ⟨aS, 0, none⟩) c cS]]) ∧ Below (w0.heap.size + 1 + 5) W w') := fun W hW => by
    have h := hW.prWrite hok HF.out (by omega) row off role X
    rw [hwr, hC2] at h
    exact h
  have HS5 : Hid (∀ W E, St16 W (w0.heap.size + 1 + 5) c (.slice (some ⟨aP, 0, none⟩) c cP) (.slice (some ⟨aQ, 0, none⟩) c cQ) (.slice (some ⟨aR, 0, none⟩) c cR) (.slice (some ⟨aS, 0, none⟩) c cS) E D (fun _ => (r : Int)) (fun _ => (r : Int)) ([blkT w1.heap.size 30 #[.int .i64 (c : Int), .int .i64 (k : Int), .int .i64 (r : Int), .slice (some ⟨aP, 0, none⟩) c cP, .slice (some ⟨aQ, 0, none⟩) c cQ], blkT (w1.heap.size + 1) 33 #[.int .i64 (c : Int), .int .i64 (k : Int), .int .i64 (r : Int), .slice (some ⟨aR, 0, none⟩) c cR, .slice (some ⟨aS, 0, none⟩) c cS]]) → W.cell? ⟨w1.heap.size, 0, none⟩ = some (.int .i64 (c : Int)) ∧ W.cell? ⟨w1.heap.size, 1, none⟩ = some (.int .i64 (k : Int)) ∧ W.cell? ⟨w1.heap.size, 2, none⟩ = some (.int .i64 (r : Int)) ∧ W.cell? ⟨w1.heap.size, 3, none⟩ = some (.slice (some ⟨aP, 0, none⟩) c cP) ∧ W.cell? ⟨w1.heap.size, 4, none⟩ = some (.slice (some ⟨aQ, 0, none⟩) c cQ)) := fun W E hW => ⟨hW.cell (i := 0) rfl 0, hW.cell (i := 0) rfl 1, hW.cell (i := 0) rfl 2, hW.cell (i := 0) rfl 3, hW.cell (i := 0) rfl 4⟩
  have hdc : c - 1 ≠ c := by omega
  have hm1 : Ro.mayB c k r (c - 1) c (fun i => C2 (i + 1)) = false := by unfold Ro.mayB; rw [decide_eq_false hdc]; rfl
  have hc1 : Ro.chk c k r (c - 1) c (fun i => C2 (i + 1)) 0 0 = 1 := by unfold Ro.chk; rw [hm1]; rfl
  have HN1 : Hid (∀ W, W.cell? ⟨w1.heap.size, 0, none⟩ = some (.int .i64 (c : Int)) ∧ W.cell? ⟨w1.heap.size, 1, none⟩ = some (.int .i64 (k : Int)) ∧ W.cell? ⟨w1.heap.size, 2, none⟩ = some (.int .i64 (r : Int)) ∧ W.cell? ⟨w1.heap.size, 3, none⟩ = some (.slice (some ⟨aP, 1, none⟩) (c - 1) (cP - 1)) ∧ W.cell? ⟨w1.heap.size, 4, none⟩ = some (.slice (some ⟨aQ, 0, none⟩) c cQ) ∧ St16 W (w0.heap.size + 1 + 5) c (.slice (some ⟨aP, 0, none⟩) c cP) (.slice (some ⟨aQ, 0, none⟩) c cQ) (.slice (some ⟨aR, 0, none⟩) c cR) (.slice (some ⟨aS, 0, none⟩) c cS) C2 D (fun _ => (r : Int)) (fun _ => (r : Int)) ([blkT w1.heap.size 30 #[.int .i64 (c : Int), .int .i64 (k : Int), .int .i64 (r : Int), .slice (some ⟨aP, 1, none⟩) (c - 1) (cP - 1), .slice (some ⟨aQ, 0, none⟩) c cQ], blkT (w1.heap.size + 1) 33 #[.int .i64 (c : Int), .int .i64 (k : Int), .int .i64 (r : Int), .slice (some ⟨aR, 0, none⟩) c cR, .slice (some ⟨aS, 0, none⟩) c cS]]) ∧ Below w.heap.size w W → Calls Tryz.prog 12 #[.agg #[.int .i64 (c : Int), .int .i64 (k : Int), .int .i64 (r : Int), .slice (some ⟨aP, 1, none⟩) (c - 1) (cP - 1), .slice (some ⟨aQ, 0, none⟩) c cQ], .int .i64 0, .int .i64 0] W fun e w' => e = .returned (.tuple #[.slice none 0 0, .slice none 0 0, .int .i64 1]) ∧ Below W.heap.size W w') := fun W hW => by
    have h := read16_no (dcap := cP - 1) (bcap := cQ) hok (by omega) 0 0 W hW.2.2.2.2.2.1.tail (by rw [hc1]; decide)
    rw [hc1] at h
    exact h
  have HN2 : Hid (∀ W, W.cell? ⟨w1.heap.size, 0, none⟩ = some (.int .i64 (c : Int)) ∧ W.cell? ⟨w1.heap.size, 1, none⟩ = some (.int .i64 (k : Int)) ∧ W.cell? ⟨w1.heap.size, 2, none⟩ = some (.int .i64 (r : Int)) ∧ W.cell? ⟨w1.heap.size, 3, none⟩ = some (.slice (some ⟨aP, 1, none⟩) (c - 1) (cP - 1)) ∧ W.cell? ⟨w1.heap.size, 4, none⟩ = some (.slice (some ⟨aQ, 0, none⟩) c cQ) ∧ St16 W (w0.heap.size + 1 + 5) c (.slice (some ⟨aP, 0, none⟩) c cP) (.slice (some ⟨aQ, 0, none⟩) c cQ) (.slice (some ⟨aR, 0, none⟩) c cR) (.slice (some ⟨aS, 0, none⟩) c cS) C2 D (fun _ => (r : Int)) (fun _ => (r : Int)) ([blkT w1.heap.size 30 #[.int .i64 (c : Int), .int .i64 (k : Int), .int .i64 (r : Int), .slice (some ⟨aP, 1, none⟩) (c - 1) (cP - 1), .slice (some ⟨aQ, 0, none⟩) c cQ], blkT (w1.heap.size + 1) 33 #[.int .i64 (c : Int), .int .i64 (k : Int), .int .i64 (r : Int), .slice (some ⟨aR, 0, none⟩) c cR, .slice (some ⟨aS, 0, none⟩) c cS]]) ∧ Below w.heap.size w W → Calls Tryz.prog 18 #[.agg #[.int .i64 (c : Int), .int .i64 (k : Int), .int .i64 (r : Int), .slice (some ⟨aP, 1, none⟩) (c - 1) (cP - 1), .slice (some ⟨aQ, 0, none⟩) c cQ], .int .i64 0] W fun e w' => e = .returned (.tuple #[.slice none 0 0, .int .i64 1]) ∧ Below W.heap.size W w') := fun W hW => by
    have h := lost16_no (dcap := cP - 1) (bcap := cQ) hok (by omega) 0 W hW.2.2.2.2.2.1.tail (by rw [hc1]; decide)
    rw [hc1] at h
    exact h
  have HN3 : Hid (∀ W, W.cell? ⟨w1.heap.size, 0, none⟩ = some (.int .i64 (c : Int)) ∧ W.cell? ⟨w1.heap.size, 1, none⟩ = some (.int .i64 (k : Int)) ∧ W.cell? ⟨w1.heap.size, 2, none⟩ = some (.int .i64 (r : Int)) ∧ W.cell? ⟨w1.heap.size, 3, none⟩ = some (.slice (some ⟨aP, 1, none⟩) (c - 1) (cP - 1)) ∧ W.cell? ⟨w1.heap.size, 4, none⟩ = some (.slice (some ⟨aQ, 0, none⟩) c cQ) ∧ St16 W (w0.heap.size + 1 + 5) c (.slice (some ⟨aP, 0, none⟩) c cP) (.slice (some ⟨aQ, 0, none⟩) c cQ) (.slice (some ⟨aR, 0, none⟩) c cR) (.slice (some ⟨aS, 0, none⟩) c cS) C2 D (fun _ => (r : Int)) (fun _ => (r : Int)) ([blkT w1.heap.size 30 #[.int .i64 (c : Int), .int .i64 (k : Int), .int .i64 (r : Int), .slice (some ⟨aP, 1, none⟩) (c - 1) (cP - 1), .slice (some ⟨aQ, 0, none⟩) c cQ], blkT (w1.heap.size + 1) 33 #[.int .i64 (c : Int), .int .i64 (k : Int), .int .i64 (r : Int), .slice (some ⟨aR, 0, none⟩) c cR, .slice (some ⟨aS, 0, none⟩) c cS]]) ∧ Below w.heap.size w W → Calls Tryz.prog 30 #[.agg #[.int .i64 (c : Int), .int .i64 (k : Int), .int .i64 (r : Int), .slice (some ⟨aP, 1, none⟩) (c - 1) (cP - 1), .slice (some ⟨aQ, 0, none⟩) c cQ]] W fun e w' => e = .returned (.int .i64 1) ∧ Below W.heap.size W w') := fun W hW => pFlush16_no (dcap := cP - 1) (bcap := cQ) hW.2.2.2.2.2.1.tail hok (by omega) hm1
  have HN4 : Hid (∀ W, W.cell? ⟨w1.heap.size, 0, none⟩ = some (.int .i64 (c : Int)) ∧ W.cell? ⟨w1.heap.size, 1, none⟩ = some (.int .i64 (k : Int)) ∧ W.cell? ⟨w1.heap.size, 2, none⟩ = some (.int .i64 (r : Int)) ∧ W.cell? ⟨w1.heap.size, 3, none⟩ = some (.slice (some ⟨aP, 1, none⟩) (c - 1) (cP - 1)) ∧ W.cell? ⟨w1.heap.size, 4, none⟩ = some (.slice (some ⟨aQ, 0, none⟩) c cQ) ∧ St16 W (w0.heap.size + 1 + 5) c (.slice (some ⟨aP, 0, none⟩) c cP) (.slice (some ⟨aQ, 0, none⟩) c cQ) (.slice (some ⟨aR, 0, none⟩) c cR) (.slice (some ⟨aS, 0, none⟩) c cS) C2 D (fun _ => (r : Int)) (fun _ => (r : Int)) ([blkT w1.heap.size 30 #[.int .i64 (c : Int), .int .i64 (k : Int), .int .i64 (r : Int), .slice (some ⟨aP, 1, none⟩) (c - 1) (cP - 1), .slice (some ⟨aQ, 0, none⟩) c cQ], blkT (w1.heap.size + 1) 33 #[.int .i64 (c : Int), .int .i64 (k : Int), .int .i64 (r : Int), .slice (some ⟨aR, 0, none⟩) c cR, .slice (some ⟨aS, 0, none⟩) c cS]]) ∧ Below w.heap.size w W → Calls Tryz.prog 27 #[.agg #[.int .i64 (c : Int), .int .i64 (k : Int), .int .i64 (r : Int), .slice (some ⟨aP, 1, none⟩) (c - 1) (cP - 1), .slice (some ⟨aQ, 0, none⟩) c cQ], .int .i64 0, .int .i64 0, .int .i64 0, .string Y] W fun e w' => e = .returned (.int .i64 1) ∧ Below W.heap.size W w') := fun W hW => by
    have h := pWrite16_no (dcap := cP - 1) (bcap := cQ) hW.2.2.2.2.2.1.tail hok (by omega) 0 0 0 Y (by rw [hc1]; decide)
    rw [hc1] at h
    exact h
  have HN5 : Hid (∀ W, W.cell? ⟨w1.heap.size, 0, none⟩ = some (.int .i64 (c : Int)) ∧ W.cell? ⟨w1.heap.size, 1, none⟩ = some (.int .i64 (k : Int)) ∧ W.cell? ⟨w1.heap.size, 2, none⟩ = some (.int .i64 (r : Int)) ∧ W.cell? ⟨w1.heap.size, 3, none⟩ = some (.slice (some ⟨aP, 1, none⟩) (c - 1) (cP - 1)) ∧ W.cell? ⟨w1.heap.size, 4, none⟩ = some (.slice (some ⟨aQ, 0, none⟩) c cQ) ∧ St16 W (w0.heap.size + 1 + 5) c (.slice (some ⟨aP, 0, none⟩) c cP) (.slice (some ⟨aQ, 0, none⟩) c cQ) (.slice (some ⟨aR, 0, none⟩) c cR) (.slice (some ⟨aS, 0, none⟩) c cS) C2 D (fun _ => (r : Int)) (fun _ => (r : Int)) ([blkT w1.heap.size 30 #[.int .i64 (c : Int), .int .i64 (k : Int), .int .i64 (r : Int), .slice (some ⟨aP, 1, none⟩) (c - 1) (cP - 1), .slice (some ⟨aQ, 0, none⟩) c cQ], blkT (w1.heap.size + 1) 33 #[.int .i64 (c : Int), .int .i64 (k : Int), .int .i64 (r : Int), .slice (some ⟨aR, 0, none⟩) c cR, .slice (some ⟨aS, 0, none⟩) c cS]]) ∧ Below w.heap.size w W → Calls Tryz.prog 22 #[.agg #[.int .i64 (c : Int), .int .i64 (k : Int), .int .i64 (r : Int), .slice (some ⟨aP, 1, none⟩) (c - 1) (cP - 1), .slice (some ⟨aQ, 0, none⟩) c cQ]] W fun e w' => e = .returned (.bool false) ∧ Below W.heap.size W w') := fun W hW => by
    have h := may16_any (dcap := cP - 1) (bcap := cQ) hok (by omega) W hW.2.2.2.2.2.1.tail
    rw [hm1] at h
    exact h
  have HSH : Hid (∀ W, Calls Tryz.prog 8 #[] W fun e w' => e = .returned (.bool true) ∧ Below W.heap.size W w') := fun W => shown16_any W
  have B2 : Hid (Below w.heap.size w ((w1.alloc (.cells #[.int .i64 (c : Int), .int .i64 (k : Int), .int .i64 (r : Int), .slice (some ⟨aP, 0, none⟩) c cP, .slice (some ⟨aQ, 0, none⟩) c cQ] 30)).alloc (.cells #[.int .i64 (c : Int), .int .i64 (k : Int), .int .i64 (r : Int), .slice (some ⟨aR, 0, none⟩) c cR, .slice (some ⟨aS, 0, none⟩) c cS] 33))) := (B1.out.alloc B1.out.size _).alloc (Nat.le_trans B1.out.size (by simp)) _
  obtain ⟨hg0, hg1, hg2⟩ := HGEO.out.below (((Below.refl _ _).alloc (Nat.le_refl _) (.cells #[.int .i64 (c : Int), .int .i64 (k : Int), .int .i64 (r : Int), .slice (some ⟨aP, 0, none⟩) c cP, .slice (some ⟨aQ, 0, none⟩) c cQ] 30)).alloc (by simp) (.cells #[.int .i64 (c : Int), .int .i64 (k : Int), .int .i64 (r : Int), .slice (some ⟨aR, 0, none⟩) c cR, .slice (some ⟨aS, 0, none⟩) c cS] 33)) HGEO.out.lt
  have hgl : w0.heap.size < ((w1.alloc (.cells #[.int .i64 (c : Int), .int .i64 (k : Int), .int .i64 (r : Int), .slice (some ⟨aP, 0, none⟩) c cP, .slice (some ⟨aQ, 0, none⟩) c cQ] 30)).alloc (.cells #[.int .i64 (c : Int), .int .i64 (k : Int), .int .i64 (r : Int), .slice (some ⟨aR, 0, none⟩) c cR, .slice (some ⟨aS, 0, none⟩) c cS] 33)).heap.size := World.block_lt_of_cell? _ _ hg0
  have HGE2 : Hid (ShpAt ((w1.alloc (.cells #[.int .i64 (c : Int), .int .i64 (k : Int), .int .i64 (r : Int), .slice (some ⟨aP, 0, none⟩) c cP, .slice (some ⟨aQ, 0, none⟩) c cQ] 30)).alloc (.cells #[.int .i64 (c : Int), .int .i64 (k : Int), .int .i64 (r : Int), .slice (some ⟨aR, 0, none⟩) c cR, .slice (some ⟨aS, 0, none⟩) c cS] 33)) w0.heap.size (c : Int) (k : Int) (r : Int)) := ⟨hg0, hg1, hg2⟩
  clear hC hF hS hb1 hH hbx hp hC2 hmay hread hsec hwr hm1 hc1 hdc G1
  go_upto_region 3 with fail
  generalize ((w1.alloc (.cells #[.int .i64 (c : Int), .int .i64 (k : Int), .int .i64 (r : Int), .slice (some ⟨aP, 0, none⟩) c cP, .slice (some ⟨aQ, 0, none⟩) c cQ] 30)).alloc (.cells #[.int .i64 (c : Int), .int .i64 (k : Int), .int .i64 (r : Int), .slice (some ⟨aR, 0, none⟩) c cR, .slice (some ⟨aS, 0, none⟩) c cS] 33)) = w2 at *
  go_wp2_with fail
  refine (HMY.out _ HS2.out).mono ?_
  rintro e w3 ⟨rfl, hb3⟩
  have T3 : Hid (St16 w3 (w0.heap.size + 1 + 5) c (.slice (some ⟨aP, 0, none⟩) c cP) (.slice (some ⟨aQ, 0, none⟩) c cQ) (.slice (some ⟨aR, 0, none⟩) c cR) (.slice (some ⟨aS, 0, none⟩) c cS) C D (fun _ => (r : Int)) (fun _ => (r : Int)) ([blkT w1.heap.size 30 #[.int .i64 (c : Int), .int .i64 (k : Int), .int .i64 (r : Int), .slice (some ⟨aP, 0, none⟩) c cP, .slice (some ⟨aQ, 0, none⟩) c cQ], blkT (w1.heap.size + 1) 33 #[.int .i64 (c : Int), .int .i64 (k : Int), .int .i64 (r : Int), .slice (some ⟨aR, 0, none⟩) c cR, .slice (some ⟨aS, 0, none⟩) c cS]])) := HS2.out.below hb3
  have B3 : Hid (Below w.heap.size w w3) := B2.out.trans (hb3.mono B2.out.size)
  have G3 : Hid (ShpAt w3 w0.heap.size (c : Int) (k : Int) (r : Int)) := HGE2.out.below hb3 HGE2.out.lt
  clear hb3 k0 k1 k2 k3 k4 hcp hg0 hg1 hg2 hgl hl1 hlp
  go_wp2_with fail
  refine (HSH.out _).mono ?_
  rintro e w4 ⟨rfl, hb4⟩
  have T4 : Hid (St16 w4 (w0.heap.size + 1 + 5) c (.slice (some ⟨aP, 0, none⟩) c cP) (.slice (some ⟨aQ, 0, none⟩) c cQ) (.slice (some ⟨aR, 0, none⟩) c cR) (.slice (some ⟨aS, 0, none⟩) c cS) C D (fun _ => (r : Int)) (fun _ => (r : Int)) ([blkT w1.heap.size 30 #[.int .i64 (c : Int), .int .i64 (k : Int), .int .i64 (r : Int), .slice (some ⟨aP, 0, none⟩) c cP, .slice (some ⟨aQ, 0, none⟩) c cQ], blkT (w1.heap.size + 1) 33 #[.int .i64 (c : Int), .int .i64 (k : Int), .int .i64 (r : Int), .slice (some ⟨aR, 0, none⟩) c cR, .slice (some ⟨aS, 0, none⟩) c cS]])) := T3.out.below hb4
  have B4 : Hid (Below w.heap.size w w4) := B3.out.trans (hb4.mono B3.out.size)
  have G4 : Hid (ShpAt w4 w0.heap.size (c : Int) (k : Int) (r : Int)) := G3.out.below hb4 G3.out.lt
  obtain ⟨g0, g1, g2⟩ := G4.out
  have hgl4 : w0.heap.size < w4.heap.size := World.block_lt_of_cell? _ _ g0
  obtain ⟨j0, j1, j2, j3, j4⟩ := HS5.out _ _ T4.out
  have hl4 : w1.heap.size < w4.heap.size := World.block_lt_of_cell? _ _ j0
  clear hb4
  go_wp2_with fail
  refine (HRD.out _ T4.out).mono ?_
  rintro e w5 ⟨⟨y0, y1, y2, y3, y4, y5, rfl⟩, hb5⟩
  have T5 : Hid (St16 w5 (w0.heap.size + 1 + 5) c (.slice (some ⟨aP, 0, none⟩) c cP) (.slice (some ⟨aQ, 0, none⟩) c cQ) (.slice (some ⟨aR, 0, none⟩) c cR) (.slice (some ⟨aS, 0, none⟩) c cS) C D (fun _ => (r : Int)) (fun _ => (r : Int)) ([blkT w1.heap.size 30 #[.int .i64 (c : Int), .int .i64 (k : Int), .int .i64 (r : Int), .slice (some ⟨aP, 0, none⟩) c cP, .slice (some ⟨aQ, 0, none⟩) c cQ], blkT (w1.heap.size + 1) 33 #[.int .i64 (c : Int), .int .i64 (k : Int), .int .i64 (r : Int), .slice (some ⟨aR, 0, none⟩) c cR, .slice (some ⟨aS, 0, none⟩) c cS]])) := T4.out.below hb5
  have B5 : Hid (Below w.heap.size w w5) := B4.out.trans (hb5.mono B4.out.size)
  have G5 : Hid (ShpAt w5 w0.heap.size (c : Int) (k : Int) (r : Int)) := G4.out.below hb5 G4.out.lt
  clear hb5 j0 j1 j2 j3 j4 hl4 g0 g1 g2 hgl4
  obtain ⟨j0, j1, j2, j3, j4⟩ := HS5.out _ _ T5.out
  have hl5 : w1.heap.size < w5.heap.size := World.block_lt_of_cell? _ _ j0
  go_wp2_with fail
  refine (HSE.out _ T5.out).mono ?_
  rintro e w6 ⟨⟨y6, rfl⟩, hb6⟩
  have T6 : Hid (St16 w6 (w0.heap.size + 1 + 5) c (.slice (some ⟨aP, 0, none⟩) c cP) (.slice (some ⟨aQ, 0, none⟩) c cQ) (.slice (some ⟨aR, 0, none⟩) c cR) (.slice (some ⟨aS, 0, none⟩) c cS) C D (fun _ => (r : Int)) (fun _ => (r : Int)) ([blkT w1.heap.size 30 #[.int .i64 (c : Int), .int .i64 (k : Int), .int .i64 (r : Int), .slice (some ⟨aP, 0, none⟩) c cP, .slice (some ⟨aQ, 0, none⟩) c cQ], blkT (w1.heap.size + 1) 33 #[.int .i64 (c : Int), .int .i64 (k : Int), .int .i64 (r : Int), .slice (some ⟨aR, 0, none⟩) c cR, .slice (some ⟨aS, 0, none⟩) c cS]])) := T5.out.below hb6
  have B6 : Hid (Below w.heap.size w w6) := B5.out.trans (hb6.mono B5.out.size)
  have G6 : Hid (ShpAt w6 w0.heap.size (c : Int) (k : Int) (r : Int)) := G5.out.below hb6 G5.out.lt
  clear hb6 j0 j1 j2 j3 j4 hl5
  obtain ⟨j0, j1, j2, j3, j4⟩ := HS5.out _ _ T6.out
  have hl6 : w1.heap.size < w6.heap.size := World.block_lt_of_cell? _ _ j0
  go_wp2_with fail
  have hS0 : w6.drew.cell? ⟨w1.heap.size, 0, none⟩ = some (.int .i64 (c : Int)) ∧ w6.drew.cell? ⟨w1.heap.size, 1, none⟩ = some (.int .i64 (k : Int)) ∧ w6.drew.cell? ⟨w1.heap.size, 2, none⟩ = some (.int .i64 (r : Int)) ∧ w6.drew.cell? ⟨w1.heap.size, 3, none⟩ = some (.slice (some ⟨aP, 0, none⟩) c cP) ∧ w6.drew.cell? ⟨w1.heap.size, 4, none⟩ = some (.slice (some ⟨aQ, 0, none⟩) c cQ) := ⟨j0, j1, j2, j3, j4⟩
  have T6d : Hid (St16 w6.drew (w0.heap.size + 1 + 5) c (.slice (some ⟨aP, 0, none⟩) c cP) (.slice (some ⟨aQ, 0, none⟩) c cQ) (.slice (some ⟨aR, 0, none⟩) c cR) (.slice (some ⟨aS, 0, none⟩) c cS) C D (fun _ => (r : Int)) (fun _ => (r : Int)) ([blkT w1.heap.size 30 #[.int .i64 (c : Int), .int .i64 (k : Int), .int .i64 (r : Int), .slice (some ⟨aP, 0, none⟩) c cP, .slice (some ⟨aQ, 0, none⟩) c cQ], blkT (w1.heap.size + 1) 33 #[.int .i64 (c : Int), .int .i64 (k : Int), .int .i64 (r : Int), .slice (some ⟨aR, 0, none⟩) c cR, .slice (some ⟨aS, 0, none⟩) c cS]])) := T6.out.below ((Below.refl _ _).drew)
  go_region_held3 (fun W => W.cell? ⟨w1.heap.size, 0, none⟩ = some (.int .i64 (c : Int)) ∧ W.cell? ⟨w1.heap.size, 1, none⟩ = some (.int .i64 (k : Int)) ∧ W.cell? ⟨w1.heap.size, 2, none⟩ = some (.int .i64 (r : Int)) ∧ W.cell? ⟨w1.heap.size, 3, none⟩ = some (.slice (some ⟨aP, 0, none⟩) c cP) ∧ W.cell? ⟨w1.heap.size, 4, none⟩ = some (.slice (some ⟨aQ, 0, none⟩) c cQ)) (first | exact hS0 | assumption) (first | (go_at_call 24; refine (HFU.out _).mono ?_; rintro e w7 ⟨rfl, h7⟩; have h7' := h7.symm; subst h7'; clear h7) | (go_at_call 27; refine (HWR.out _ T6d.out).mono ?_; rintro e w8 ⟨rfl, ht8, hb8⟩; have T8 : Hid (St16 w8 (w0.heap.size + 1 + 5) c (.slice (some ⟨aP, 0, none⟩) c cP) (.slice (some ⟨aQ, 0, none⟩) c cQ) (.slice (some ⟨aR, 0, none⟩) c cR) (.slice (some ⟨aS, 0, none⟩) c cS) C2 D (fun _ => (r : Int)) (fun _ => (r : Int)) ([blkT w1.heap.size 30 #[.int .i64 (c : Int), .int .i64 (k : Int), .int .i64 (r : Int), .slice (some ⟨aP, 0, none⟩) c cP, .slice (some ⟨aQ, 0, none⟩) c cQ], blkT (w1.heap.size + 1) 33 #[.int .i64 (c : Int), .int .i64 (k : Int), .int .i64 (r : Int), .slice (some ⟨aR, 0, none⟩) c cR, .slice (some ⟨aS, 0, none⟩) c cS]])) := ht8; have hs8 := HS5.out _ _ ht8; have B8 : Hid (Below (w0.heap.size + 1 + 5) w6 w8) := (Below.refl _ w6).drew.trans hb8; clear ht8 hb8))
  all_goals
    have BW8 : Hid (Below w.heap.size w w8) := B6.out.trans (B8.out.mono HBB.out)
    have G8 : Hid (ShpAt w8 w0.heap.size (c : Int) (k : Int) (r : Int)) := G6.out.below B8.out (by omega)
    obtain ⟨n0, n1, n2, n3, n4⟩ := hs8
    obtain ⟨g0, g1, g2⟩ := G8.out
    have hl8 : w1.heap.size < w8.heap.size := World.block_lt_of_cell? _ _ n0
    have hg8 : w0.heap.size < w8.heap.size := World.block_lt_of_cell? _ _ g0
    clear j0 j1 j2 j3 j4 hl6 hS0
    go_upto_region 11 with fail
    have hsl := fun W => slice_tail (aP := aP) (by omega) hcap W
    have z3 := frozen_of_row w8 w1.heap.size 3 _ _ (T8.out.block (i := 0) rfl)
    clear g0 g1 g2 hg8
    go_upto_region 12 with fail
    obtain ⟨t9, o9⟩ := T8.out.setBox (i := 0) rfl 3 (.slice (some ⟨aP, 1, none⟩) (c - 1) (cP - 1))
    have B9 : Below w.heap.size w (w8.setCell ⟨w1.heap.size, 3, none⟩ (.slice (some ⟨aP, 1, none⟩) (c - 1) (cP - 1))) := BW8.out.trans ((o9.below (B := w0.heap.size + 1 + 5) (fun _ hk => hk.1) T8.out.size).mono HBB.out)
    have t9' : St16 (w8.setCell ⟨w1.heap.size, 3, none⟩ (.slice (some ⟨aP, 1, none⟩) (c - 1) (cP - 1))) (w0.heap.size + 1 + 5) c (.slice (some ⟨aP, 0, none⟩) c cP) (.slice (some ⟨aQ, 0, none⟩) c cQ) (.slice (some ⟨aR, 0, none⟩) c cR) (.slice (some ⟨aS, 0, none⟩) c cS) C2 D (fun _ => (r : Int)) (fun _ => (r : Int)) ([blkT w1.heap.size 30 #[.int .i64 (c : Int), .int .i64 (k : Int), .int .i64 (r : Int), .slice (some ⟨aP, 1, none⟩) (c - 1) (cP - 1), .slice (some ⟨aQ, 0, none⟩) c cQ], blkT (w1.heap.size + 1) 33 #[.int .i64 (c : Int), .int .i64 (k : Int), .int .i64 (r : Int), .slice (some ⟨aR, 0, none⟩) c cR, .slice (some ⟨aS, 0, none⟩) c cS]]) := t9
    generalize w8.setCell ⟨w1.heap.size, 3, none⟩ (.slice (some ⟨aP, 1, none⟩) (c - 1) (cP - 1)) = w9 at t9 t9' o9 B9 ⊢
    have S9 : w9.cell? ⟨w1.heap.size, 0, none⟩ = some (.int .i64 (c : Int)) ∧ w9.cell? ⟨w1.heap.size, 1, none⟩ = some (.int .i64 (k : Int)) ∧ w9.cell? ⟨w1.heap.size, 2, none⟩ = some (.int .i64 (r : Int)) ∧ w9.cell? ⟨w1.heap.size, 3, none⟩ = some (.slice (some ⟨aP, 1, none⟩) (c - 1) (cP - 1)) ∧ w9.cell? ⟨w1.heap.size, 4, none⟩ = some (.slice (some ⟨aQ, 0, none⟩) c cQ) ∧ St16 w9 (w0.heap.size + 1 + 5) c (.slice (some ⟨aP, 0, none⟩) c cP) (.slice (some ⟨aQ, 0, none⟩) c cQ) (.slice (some ⟨aR, 0, none⟩) c cR) (.slice (some ⟨aS, 0, none⟩) c cS) C2 D (fun _ => (r : Int)) (fun _ => (r : Int)) ([blkT w1.heap.size 30 #[.int .i64 (c : Int), .int .i64 (k : Int), .int .i64 (r : Int), .slice (some ⟨aP, 1, none⟩) (c - 1) (cP - 1), .slice (some ⟨aQ, 0, none⟩) c cQ], blkT (w1.heap.size + 1) 33 #[.int .i64 (c : Int), .int .i64 (k : Int), .int .i64 (r : Int), .slice (some ⟨aR, 0, none⟩) c cR, .slice (some ⟨aS, 0, none⟩) c cS]]) ∧ Below w.heap.size w w9 := ⟨t9'.cell (i := 0) rfl 0, t9'.cell (i := 0) rfl 1, t9'.cell (i := 0) rfl 2, t9'.cell (i := 0) rfl 3, t9'.cell (i := 0) rfl 4, t9', B9⟩
    have HS9 : Hid (w9.cell? ⟨w1.heap.size, 0, none⟩ = some (.int .i64 (c : Int)) ∧ w9.cell? ⟨w1.heap.size, 1, none⟩ = some (.int .i64 (k : Int)) ∧ w9.cell? ⟨w1.heap.size, 2, none⟩ = some (.int .i64 (r : Int)) ∧ w9.cell? ⟨w1.heap.size, 3, none⟩ = some (.slice (some ⟨aP, 1, none⟩) (c - 1) (cP - 1)) ∧ w9.cell? ⟨w1.heap.size, 4, none⟩ = some (.slice (some ⟨aQ, 0, none⟩) c cQ) ∧ St16 w9 (w0.heap.size + 1 + 5) c (.slice (some ⟨aP, 0, none⟩) c cP) (.slice (some ⟨aQ, 0, none⟩) c cQ) (.slice (some ⟨aR, 0, none⟩) c cR) (.slice (some ⟨aS, 0, none⟩) c cS) C2 D (fun _ => (r : Int)) (fun _ => (r : Int)) ([blkT w1.heap.size 30 #[.int .i64 (c : Int), .int .i64 (k : Int), .int .i64 (r : Int), .slice (some ⟨aP, 1, none⟩) (c - 1) (cP - 1), .slice (some ⟨aQ, 0, none⟩) c cQ], blkT (w1.heap.size + 1) 33 #[.int .i64 (c : Int), .int .i64 (k : Int), .int .i64 (r : Int), .slice (some ⟨aR, 0, none⟩) c cR, .slice (some ⟨aS, 0, none⟩) c cS]]) ∧ Below w.heap.size w w9) := S9
    obtain ⟨m0, m1, m2, m3, m4, _, _⟩ := S9
    have hl9 : w1.heap.size < w9.heap.size := World.block_lt_of_cell? _ _ m0
    clear t9 t9' o9 B9 n0 n1 n2 n3 n4 hl8 z3 hsl
    go_wp2_with fail
    refine (HN1.out _ HS9.out).mono ?_
    rintro e w10 ⟨rfl, hb10⟩
    have S10 : w10.cell? ⟨w1.heap.size, 0, none⟩ = some (.int .i64 (c : Int)) ∧ w10.cell? ⟨w1.heap.size, 1, none⟩ = some (.int .i64 (k : Int)) ∧ w10.cell? ⟨w1.heap.size, 2, none⟩ = some (.int .i64 (r : Int)) ∧ w10.cell? ⟨w1.heap.size, 3, none⟩ = some (.slice (some ⟨aP, 1, none⟩) (c - 1) (cP - 1)) ∧ w10.cell? ⟨w1.heap.size, 4, none⟩ = some (.slice (some ⟨aQ, 0, none⟩) c cQ) ∧ St16 w10 (w0.heap.size + 1 + 5) c (.slice (some ⟨aP, 0, none⟩) c cP) (.slice (some ⟨aQ, 0, none⟩) c cQ) (.slice (some ⟨aR, 0, none⟩) c cR) (.slice (some ⟨aS, 0, none⟩) c cS) C2 D (fun _ => (r : Int)) (fun _ => (r : Int)) ([blkT w1.heap.size 30 #[.int .i64 (c : Int), .int .i64 (k : Int), .int .i64 (r : Int), .slice (some ⟨aP, 1, none⟩) (c - 1) (cP - 1), .slice (some ⟨aQ, 0, none⟩) c cQ], blkT (w1.heap.size + 1) 33 #[.int .i64 (c : Int), .int .i64 (k : Int), .int .i64 (r : Int), .slice (some ⟨aR, 0, none⟩) c cR, .slice (some ⟨aS, 0, none⟩) c cS]]) ∧ Below w.heap.size w w10 := keep51 HS9.out hb10
    have HS10 : Hid (w10.cell? ⟨w1.heap.size, 0, none⟩ = some (.int .i64 (c : Int)) ∧ w10.cell? ⟨w1.heap.size, 1, none⟩ = some (.int .i64 (k : Int)) ∧ w10.cell? ⟨w1.heap.size, 2, none⟩ = some (.int .i64 (r : Int)) ∧ w10.cell? ⟨w1.heap.size, 3, none⟩ = some (.slice (some ⟨aP, 1, none⟩) (c - 1) (cP - 1)) ∧ w10.cell? ⟨w1.heap.size, 4, none⟩ = some (.slice (some ⟨aQ, 0, none⟩) c cQ) ∧ St16 w10 (w0.heap.size + 1 + 5) c (.slice (some ⟨aP, 0, none⟩) c cP) (.slice (some ⟨aQ, 0, none⟩) c cQ) (.slice (some ⟨aR, 0, none⟩) c cR) (.slice (some ⟨aS, 0, none⟩) c cS) C2 D (fun _ => (r : Int)) (fun _ => (r : Int)) ([blkT w1.heap.size 30 #[.int .i64 (c : Int), .int .i64 (k : Int), .int .i64 (r : Int), .slice (some ⟨aP, 1, none⟩) (c - 1) (cP - 1), .slice (some ⟨aQ, 0, none⟩) c cQ], blkT (w1.heap.size + 1) 33 #[.int .i64 (c : Int), .int .i64 (k : Int), .int .i64 (r : Int), .slice (some ⟨aR, 0, none⟩) c cR, .slice (some ⟨aS, 0, none⟩) c cS]]) ∧ Below w.heap.size w w10) := S10
    clear hb10 m0 m1 m2 m3 m4 hl9
    obtain ⟨m0, m1, m2, m3, m4, _, _⟩ := S10
    have hl10 : w1.heap.size < w10.heap.size := World.block_lt_of_cell? _ _ m0
    go_wp2_with fail
    refine (HN2.out _ HS10.out).mono ?_
    rintro e w11 ⟨rfl, hb11⟩
    have S11 : w11.cell? ⟨w1.heap.size, 0, none⟩ = some (.int .i64 (c : Int)) ∧ w11.cell? ⟨w1.heap.size, 1, none⟩ = some (.int .i64 (k : Int)) ∧ w11.cell? ⟨w1.heap.size, 2, none⟩ = some (.int .i64 (r : Int)) ∧ w11.cell? ⟨w1.heap.size, 3, none⟩ = some (.slice (some ⟨aP, 1, none⟩) (c - 1) (cP - 1)) ∧ w11.cell? ⟨w1.heap.size, 4, none⟩ = some (.slice (some ⟨aQ, 0, none⟩) c cQ) ∧ St16 w11 (w0.heap.size + 1 + 5) c (.slice (some ⟨aP, 0, none⟩) c cP) (.slice (some ⟨aQ, 0, none⟩) c cQ) (.slice (some ⟨aR, 0, none⟩) c cR) (.slice (some ⟨aS, 0, none⟩) c cS) C2 D (fun _ => (r : Int)) (fun _ => (r : Int)) ([blkT w1.heap.size 30 #[.int .i64 (c : Int), .int .i64 (k : Int), .int .i64 (r : Int), .slice (some ⟨aP, 1, none⟩) (c - 1) (cP - 1), .slice (some ⟨aQ, 0, none⟩) c cQ], blkT (w1.heap.size + 1) 33 #[.int .i64 (c : Int), .int .i64 (k : Int), .int .i64 (r : Int), .slice (some ⟨aR, 0, none⟩) c cR, .slice (some ⟨aS, 0, none⟩) c cS]]) ∧ Below w.heap.size w w11 := keep51 HS10.out hb11
    have HS11 : Hid (w11.cell? ⟨w1.heap.size, 0, none⟩ = some (.int .i64 (c : Int)) ∧ w11.cell? ⟨w1.heap.size, 1, none⟩ = some (.int .i64 (k : Int)) ∧ w11.cell? ⟨w1.heap.size, 2, none⟩ = some (.int .i64 (r : Int)) ∧ w11.cell? ⟨w1.heap.size, 3, none⟩ = some (.slice (some ⟨aP, 1, none⟩) (c - 1) (cP - 1)) ∧ w11.cell? ⟨w1.heap.size, 4, none⟩ = some (.slice (some ⟨aQ, 0, none⟩) c cQ) ∧ St16 w11 (w0.heap.size + 1 + 5) c (.slice (some ⟨aP, 0, none⟩) c cP) (.slice (some ⟨aQ, 0, none⟩) c cQ) (.slice (some ⟨aR, 0, none⟩) c cR) (.slice (some ⟨aS, 0, none⟩) c cS) C2 D (fun _ => (r : Int)) (fun _ => (r : Int)) ([blkT w1.heap.size 30 #[.int .i64 (c : Int), .int .i64 (k : Int), .int .i64 (r : Int), .slice (some ⟨aP, 1, none⟩) (c - 1) (cP - 1), .slice (some ⟨aQ, 0, none⟩) c cQ], blkT (w1.heap.size + 1) 33 #[.int .i64 (c : Int), .int .i64 (k : Int), .int .i64 (r : Int), .slice (some ⟨aR, 0, none⟩) c cR, .slice (some ⟨aS, 0, none⟩) c cS]]) ∧ Below w.heap.size w w11) := S11
    clear hb11 m0 m1 m2 m3 m4 hl10
    obtain ⟨m0, m1, m2, m3, m4, _, _⟩ := S11
    have hl11 : w1.heap.size < w11.heap.size := World.block_lt_of_cell? _ _ m0
    go_wp2_with fail
    have S11d : w11.drew.cell? ⟨w1.heap.size, 0, none⟩ = some (.int .i64 (c : Int)) ∧ w11.drew.cell? ⟨w1.heap.size, 1, none⟩ = some (.int .i64 (k : Int)) ∧ w11.drew.cell? ⟨w1.heap.size, 2, none⟩ = some (.int .i64 (r : Int)) ∧ w11.drew.cell? ⟨w1.heap.size, 3, none⟩ = some (.slice (some ⟨aP, 1, none⟩) (c - 1) (cP - 1)) ∧ w11.drew.cell? ⟨w1.heap.size, 4, none⟩ = some (.slice (some ⟨aQ, 0, none⟩) c cQ) ∧ St16 w11.drew (w0.heap.size + 1 + 5) c (.slice (some ⟨aP, 0, none⟩) c cP) (.slice (some ⟨aQ, 0, none⟩) c cQ) (.slice (some ⟨aR, 0, none⟩) c cR) (.slice (some ⟨aS, 0, none⟩) c cS) C2 D (fun _ => (r : Int)) (fun _ => (r : Int)) ([blkT w1.heap.size 30 #[.int .i64 (c : Int), .int .i64 (k : Int), .int .i64 (r : Int), .slice (some ⟨aP, 1, none⟩) (c - 1) (cP - 1), .slice (some ⟨aQ, 0, none⟩) c cQ], blkT (w1.heap.size + 1) 33 #[.int .i64 (c : Int), .int .i64 (k : Int), .int .i64 (r : Int), .slice (some ⟨aR, 0, none⟩) c cR, .slice (some ⟨aS, 0, none⟩) c cS]]) ∧ Below w.heap.size w w11.drew := keep51 HS11.out ((Below.refl _ _).drew)
    go_region_held3 (fun W => W.cell? ⟨w1.heap.size, 0, none⟩ = some (.int .i64 (c : Int)) ∧ W.cell? ⟨w1.heap.size, 1, none⟩ = some (.int .i64 (k : Int)) ∧ W.cell? ⟨w1.heap.size, 2, none⟩ = some (.int .i64 (r : Int)) ∧ W.cell? ⟨w1.heap.size, 3, none⟩ = some (.slice (some ⟨aP, 1, none⟩) (c - 1) (cP - 1)) ∧ W.cell? ⟨w1.heap.size, 4, none⟩ = some (.slice (some ⟨aQ, 0, none⟩) c cQ) ∧ St16 W (w0.heap.size + 1 + 5) c (.slice (some ⟨aP, 0, none⟩) c cP) (.slice (some ⟨aQ, 0, none⟩) c cQ) (.slice (some ⟨aR, 0, none⟩) c cR) (.slice (some ⟨aS, 0, none⟩) c cS) C2 D (fun _ => (r : Int)) (fun _ => (r : Int)) ([blkT w1.heap.size 30 #[.int .i64 (c : Int), .int .i64 (k : Int), .int .i64 (r : Int), .slice (some ⟨aP, 1, none⟩) (c - 1) (cP - 1), .slice (some ⟨aQ, 0, none⟩) c cQ], blkT (w1.heap.size + 1) 33 #[.int .i64 (c : Int), .int .i64 (k : Int), .int .i64 (r : Int), .slice (some ⟨aR, 0, none⟩) c cR, .slice (some ⟨aS, 0, none⟩) c cS]]) ∧ Below w.heap.size w W) (first | exact S11d | assumption) (first | (go_at_call 24; refine (HFE.out _).mono ?_; rintro e w12 ⟨rfl, h12⟩; have h12' := h12.symm; subst h12'; clear h12) | (go_at_call 30; refine (HN3.out _ (by assumption)).mono ?_; rintro e w13 ⟨rfl, hb13⟩; have S13 := keep51 (by assumption) hb13; clear hb13) | (go_at_call 27; refine (HN4.out _ (by assumption)).mono ?_; rintro e w14 ⟨rfl, hb14⟩; have S14 := keep51 (by assumption) hb14; clear hb14) | (go_at_call 22; refine (HN5.out _ (by assumption)).mono ?_; rintro e w15 ⟨rfl, hb15⟩; have S15 := keep51 (by assumption) hb15; have HB15 : Hid (Below w.heap.size w w15) := S15.2.2.2.2.2.2; clear hb15))
    all_goals
      go_wp2
      go_ret
      exact ⟨rfl, HB15.out⟩
set_option maxRecDepth 100000 in
set_option maxHeartbeats 16000000 in
theorem walk_in4 (a b d c k r : Nat) (hok : Lay.ok (c : Int) (k : Int) (r : Int)) (hg : ∀ W, Calls Tryz.prog 10 #[.int .u8 (a : Int), .int .u8 (b : Int), .int .u8 (d : Int)] W fun e w' => e = .returned (.agg #[.int .i64 (c : Int), .int .i64 (k : Int), .int .i64 (r : Int)]) ∧ Below W.heap.size W w') (row off role : Int) (h1 : 0 ≤ row) (h2 : row < (r : Int)) (h3 : 0 ≤ off) (h4 : off < (k : Int)) (h5 : 0 ≤ role) (h6 : ¬ role < (c : Int) - 2) (h7 : ¬ role < (c : Int)) (hcase : Case c k r row off role true 0 70 70) (w : World) :
    Calls Tryz.prog 6 #[.int .u8 (a : Int), .int .u8 (b : Int), .int .u8 (d : Int), .int .i64 row, .int .i64 off, .int .i64 role] w fun e w' => e = .returned (.bool true) ∧ Below w.heap.size w w' := by
  have a1 : decide ((0 : Int) ≤ row) = true := decide_eq_true h1
  have a2 : decide (row < (r : Int)) = true := decide_eq_true h2
  have a3 : decide ((0 : Int) ≤ off) = true := decide_eq_true h3
  have a4 : decide (off < (k : Int)) = true := decide_eq_true h4
  have r1 : decide ((0 : Int) ≤ role) = true := decide_eq_true h5
  have r2 : decide (role < (c : Int) - 2) = false := decide_eq_false h6
  have r3 : decide (role < (c : Int)) = false := decide_eq_false h7
  have HG : Hid (∀ W, Calls Tryz.prog 10 #[.int .u8 (a : Int), .int .u8 (b : Int), .int .u8 (d : Int)] W fun e w' => e = .returned (.agg #[.int .i64 (c : Int), .int .i64 (k : Int), .int .i64 (r : Int)]) ∧ Below W.heap.size W w') := hg
  have HPA : Hid (∀ W, Calls Tryz.prog 9 #[.agg #[.int .i64 (c : Int), .int .i64 (k : Int), .int .i64 (r : Int)], .bool false] W (PairSt W c k r (4 + r * k))) := fun W => pair16_st c k r hok false (4 + r * k) rfl W
  obtain ⟨X, hX⟩ : ∃ X, Ro.fillB ⟨#[97]⟩ = X := ⟨_, rfl⟩
  have hX64 : X.size = 64 := by rw [← hX]; exact Ro.fillB_size _
  have HFU : Hid (∀ W, Calls Tryz.prog 24 #[.string ⟨#[97]⟩] W fun e w' => e = .returned (.string X) ∧ w' = W) := fun W => by rw [← hX]; exact full16_any _ (by decide) W
  obtain ⟨Y, hY⟩ : ∃ Y, Ro.fillB ⟨#[]⟩ = Y := ⟨_, rfl⟩
  have HFE : Hid (∀ W, Calls Tryz.prog 24 #[.string ⟨#[]⟩] W fun e w' => e = .returned (.string Y) ∧ w' = W) := fun W => by rw [← hY]; exact full16_any _ (by decide) W
  have hc4 : 4 ≤ c := by have := hok.1; omega
  have hc10 : c ≤ 10 := by have := hok.1; omega
  have hk4 : k ≤ 4 := by have := hok.2.1; omega
  have hr4 : r ≤ 256 := by have := hok.2.2; omega
  have hc0 : 0 < c := by omega
  have hc0i : (0 : Int) < (c : Int) := by omega
  have HCASE : Hid (Case c k r row off role true 0 70 70) := hcase
  clear hX hY hg hcase
  go_enter Tryz.func6, Tryz.ntmps6
  go_wp2_with fail
  refine (HG.out _).mono ?_
  rintro e w0 ⟨rfl, hb0⟩
  have B0 : Hid (Below w.heap.size w w0) := hb0
  clear hb0
  go_wp2_with fail
  refine (HPA.out _).mono ?_
  rintro e w1 ⟨aP, cP, aQ, cQ, aR, cR, aS, cS, C, D, rfl, hC, _, hF, _, _, hS, hb1⟩
  rw [World.size_alloc] at hS hb1
  have G1 := (ShpAt.new w0 (c : Int) (k : Int) (r : Int) 26).below hb1 (Nat.lt_succ_self _)
  have HGEO : Hid (ShpAt w1 w0.heap.size (c : Int) (k : Int) (r : Int)) := G1
  have B1 : Hid (Below w.heap.size w w1) := (B0.out.alloc B0.out.size _).trans (hb1.mono (by have := B0.out.size; omega))
  have HBB : Hid (w.heap.size ≤ w0.heap.size + 1 + 5) := by have := B0.out.size; show _ ≤ _; omega
  have HF : Hid (Few16 C 0) := hF
  have hH := Ro.Have.new hC
  have hbx : St16 ((w1.alloc (.cells #[.int .i64 (c : Int), .int .i64 (k : Int), .int .i64 (r : Int), .slice (some ⟨aP, 0, none⟩) c cP, .slice (some ⟨aQ, 0, none⟩) c cQ] 30)).alloc (.cells #[.int .i64 (c : Int), .int .i64 (k : Int), .int .i64 (r : Int), .slice (some ⟨aR, 0, none⟩) c cR, .slice (some ⟨aS, 0, none⟩) c cS] 33)) (w0.heap.size + 1 + 5) c (.slice (some ⟨aP, 0, none⟩) c cP) (.slice (some ⟨aQ, 0, none⟩) c cQ) (.slice (some ⟨aR, 0, none⟩) c cR) (.slice (some ⟨aS, 0, none⟩) c cS) C D (fun _ => (r : Int)) (fun _ => (r : Int)) ([blkT w1.heap.size 30 #[.int .i64 (c : Int), .int .i64 (k : Int), .int .i64 (r : Int), .slice (some ⟨aP, 0, none⟩) c cP, .slice (some ⟨aQ, 0, none⟩) c cQ], blkT (w1.heap.size + 1) 33 #[.int .i64 (c : Int), .int .i64 (k : Int), .int .i64 (r : Int), .slice (some ⟨aR, 0, none⟩) c cR, .slice (some ⟨aS, 0, none⟩) c cS]]) := by
    have h := (hS.box 30 #[.int .i64 (c : Int), .int .i64 (k : Int), .int .i64 (r : Int), .slice (some ⟨aP, 0, none⟩) c cP, .slice (some ⟨aQ, 0, none⟩) c cQ]).box 33 #[.int .i64 (c : Int), .int .i64 (k : Int), .int .i64 (r : Int), .slice (some ⟨aR, 0, none⟩) c cR, .slice (some ⟨aS, 0, none⟩) c cS]
    rw [World.size_alloc] at h
    exact h
  have HS2 : Hid (St16 ((w1.alloc (.cells #[.int .i64 (c : Int), .int .i64 (k : Int), .int .i64 (r : Int), .slice (some ⟨aP, 0, none⟩) c cP, .slice (some ⟨aQ, 0, none⟩) c cQ] 30)).alloc (.cells #[.int .i64 (c : Int), .int .i64 (k : Int), .int .i64 (r : Int), .slice (some ⟨aR, 0, none⟩) c cR, .slice (some ⟨aS, 0, none⟩) c cS] 33)) (w0.heap.size + 1 + 5) c (.slice (some ⟨aP, 0, none⟩) c cP) (.slice (some ⟨aQ, 0, none⟩) c cQ) (.slice (some ⟨aR, 0, none⟩) c cR) (.slice (some ⟨aS, 0, none⟩) c cS) C D (fun _ => (r : Int)) (fun _ => (r : Int)) ([blkT w1.heap.size 30 #[.int .i64 (c : Int), .int .i64 (k : Int), .int .i64 (r : Int), .slice (some ⟨aP, 0, none⟩) c cP, .slice (some ⟨aQ, 0, none⟩) c cQ], blkT (w1.heap.size + 1) 33 #[.int .i64 (c : Int), .int .i64 (k : Int), .int .i64 (r : Int), .slice (some ⟨aR, 0, none⟩) c cR, .slice (some ⟨aS, 0, none⟩) c cS]])) := hbx
  have hl1 : w1.heap.size < ((w1.alloc (.cells #[.int .i64 (c : Int), .int .i64 (k : Int), .int .i64 (r : Int), .slice (some ⟨aP, 0, none⟩) c cP, .slice (some ⟨aQ, 0, none⟩) c cQ] 30)).alloc (.cells #[.int .i64 (c : Int), .int .i64 (k : Int), .int .i64 (r : Int), .slice (some ⟨aR, 0, none⟩) c cR, .slice (some ⟨aS, 0, none⟩) c cS] 33)).heap.size := hbx.lt (i := 0) rfl
  obtain ⟨p, hp⟩ := hC 0 (by omega)
  have hcp := hbx.cellP (j := 0) (by omega)
  rw [hp] at hcp
  simp only [Ro.ptr] at hcp
  have hlp := World.block_lt_of_cell? _ _ hcp
  have hcap := hbx.capP
  have k0 := hbx.cell (i := 0) rfl 0
  have k1 := hbx.cell (i := 0) rfl 1
  have k2 := hbx.cell (i := 0) rfl 2
  have k3 := hbx.cell (i := 0) rfl 3
  have k4 := hbx.cell (i := 0) rfl 4
  have hmay := hH.may (k := k) (r := r) (Nat.le_refl _)
  have hread := read_ok hC (Nat.le_refl _) hc0 HCASE.out
  have hsec := sec_ok hC (Nat.le_refl _) HCASE.out
  have hwr := wr_ok hC (Nat.le_refl _) HCASE.out hX64
  have HMY : Hid (∀ W, St16 W (w0.heap.size + 1 + 5) c (.slice (some ⟨aP, 0, none⟩) c cP) (.slice (some ⟨aQ, 0, none⟩) c cQ) (.slice (some ⟨aR, 0, none⟩) c cR) (.slice (some ⟨aS, 0, none⟩) c cS) C D (fun _ => (r : Int)) (fun _ => (r : Int)) ([blkT w1.heap.size 30 #[.int .i64 (c : Int), .int .i64 (k : Int), .int .i64 (r : Int), .slice (some ⟨aP, 0, none⟩) c cP, .slice (some ⟨aQ, 0, none⟩) c cQ], blkT (w1.heap.size + 1) 33 #[.int .i64 (c : Int), .int .i64 (k : Int), .int .i64 (r : Int), .slice (some ⟨aR, 0, none⟩) c cR, .slice (some ⟨aS, 0, none⟩) c cS]]) → Calls Tryz.prog 22 #[.agg #[.int .i64 (c : Int), .int .i64 (k : Int), .int .i64 (r : Int), .slice (some ⟨aP, 0, none⟩) c cP, .slice (some ⟨aQ, 0, none⟩) c cQ]] W fun e w' => e = .returned (.bool true) ∧ Below W.heap.size W w') := fun W hW => by
    have h := may16_any (dcap := cP) (bcap := cQ) hok (by omega) W hW.pr.set
    rw [hmay] at h
    exact h
  have HRD : Hid (∀ W, St16 W (w0.heap.size + 1 + 5) c (.slice (some ⟨aP, 0, none⟩) c cP) (.slice (some ⟨aQ, 0, none⟩) c cQ) (.slice (some ⟨aR, 0, none⟩) c cR) (.slice (some ⟨aS, 0, none⟩) c cS) C D (fun _ => (r : Int)) (fun _ => (r : Int)) ([blkT w1.heap.size 30 #[.int .i64 (c : Int), .int .i64 (k : Int), .int .i64 (r : Int), .slice (some ⟨aP, 0, none⟩) c cP, .slice (some ⟨aQ, 0, none⟩) c cQ], blkT (w1.heap.size + 1) 33 #[.int .i64 (c : Int), .int .i64 (k : Int), .int .i64 (r : Int), .slice (some ⟨aR, 0, none⟩) c cR, .slice (some ⟨aS, 0, none⟩) c cS]]) → Calls Tryz.prog 12 #[.agg #[.int .i64 (c : Int), .int .i64 (k : Int), .int .i64 (r : Int), .slice (some ⟨aP, 0, none⟩) c cP, .slice (some ⟨aQ, 0, none⟩) c cQ], .int .i64 row, .int .i64 off] W fun e w' => (∃ x0 x1 x2 x3 x4 x5, e = .returned (.tuple #[.slice x0 x1 x2, .slice x3 x4 x5, .int .i64 0])) ∧ Below W.heap.size W w') := fun W hW => by
    have h := pRead16_any (dcap := cP) (bcap := cQ) hok (by omega) row off W hW.pr.set
    rw [hread] at h
    refine h.mono ?_
    rintro e w' ⟨⟨al, cl, ai, ci, rfl, _⟩, hb⟩
    exact ⟨⟨_, _, _, _, _, _, rfl⟩, hb⟩
  have HSE : Hid (∀ W, St16 W (w0.heap.size + 1 + 5) c (.slice (some ⟨aP, 0, none⟩) c cP) (.slice (some ⟨aQ, 0, none⟩) c cQ) (.slice (some ⟨aR, 0, none⟩) c cR) (.slice (some ⟨aS, 0, none⟩) c cS) C D (fun _ => (r : Int)) (fun _ => (r : Int)) ([blkT w1.heap.size 30 #[.int .i64 (c : Int), .int .i64 (k : Int), .int .i64 (r : Int), .slice (some ⟨aP, 0, none⟩) c cP, .slice (some ⟨aQ, 0, none⟩) c cQ], blkT (w1.heap.size + 1) 33 #[.int .i64 (c : Int), .int .i64 (k : Int), .int .i64 (r : Int), .slice (some ⟨aR, 0, none⟩) c cR, .slice (some ⟨aS, 0, none⟩) c cS]]) → Calls Tryz.prog 16 #[.agg #[.int .i64 (c : Int), .int .i64 (k : Int), .int .i64 (r : Int), .slice (some ⟨aP, 0, none⟩) c cP, .slice (some ⟨aQ, 0, none⟩) c cQ], .int .i64 row, .int .i64 off, .int .i64 role] W fun e w' => (∃ x0, e = .returned (.tuple #[.string x0, .int .i64 70])) ∧ Below W.heap.size W w') := fun W hW => by
    have h := pSector16_any (dcap := cP) (bcap := cQ) hok (by omega) row off role W hW.pr.set
    rw [hsec] at h
    refine h.mono ?_
    rintro e w' ⟨rfl, hb⟩
    exact ⟨⟨_, rfl⟩, hb⟩
  obtain ⟨C2, hC2⟩ : ∃ C2, Ro.wrC c k r c c C row off role X = C2 := ⟨_, rfl⟩
  have HWR : Hid (∀ W, St16 W (w0.heap.size + 1 + 5) c (.slice (some ⟨aP, 0, none⟩) c cP) (.slice (some ⟨aQ, 0, none⟩) c cQ) (.slice (some ⟨aR, 0, none⟩) c cR) (.slice (some ⟨aS, 0, none⟩) c cS) C D (fun _ => (r : Int)) (fun _ => (r : Int)) ([blkT w1.heap.size 30 #[.int .i64 (c : Int), .int .i64 (k : Int), .int .i64 (r : Int), .slice (some ⟨aP, 0, none⟩) c cP, .slice (some ⟨aQ, 0, none⟩) c cQ], blkT (w1.heap.size + 1) 33 #[.int .i64 (c : Int), .int .i64 (k : Int), .int .i64 (r : Int), .slice (some ⟨aR, 0, none⟩) c cR, .slice (some ⟨aS, 0, none⟩) c cS]]) → Calls Tryz.prog 27 #[.agg #[.int .i64 (c : Int), .int .i64 (k : Int), .int .i64 (r : Int), .slice (some ⟨aP, 0, none⟩) c cP, .slice (some ⟨aQ, 0, none⟩) c cQ], .int .i64 row, .int .i64 off, .int .i64 role, .string X] W fun e w' => e = .returned (.int .i64 70) ∧ St16 w' (w0.heap.size + 1 + 5) c (.slice (some ⟨aP, 0, none⟩) c cP) (.slice (some ⟨aQ, 0, none⟩) c cQ) (.slice (some ⟨aR, 0, none⟩) c cR) (.slice (some ⟨aS, 0, none⟩) c cS) C2 D (fun _ => (r : Int)) (fun _ => (r : Int)) ([blkT w1.heap.size 30 #[.int .i64 (c : Int), .int .i64 (k : Int), .int .i64 (r : Int), .slice (some ⟨aP, 0, none⟩) c cP, .slice (some ⟨aQ, 0, none⟩) c cQ], blkT (w1.heap.size + 1) 33 #[.int .i64 (c : Int), .int .i64 (k : Int), .int .i64 (r : Int), .slice (some ⟨aR, 0, none⟩) c cR, .slice (some ⟨aS, 0, none⟩) c cS]]) ∧ Below (w0.heap.size + 1 + 5) W w') := fun W hW => by
    have h := hW.prWrite hok HF.out (by omega) row off role X
    rw [hwr, hC2] at h
    exact h
  have HS5 : Hid (∀ W E, St16 W (w0.heap.size + 1 + 5) c (.slice (some ⟨aP, 0, none⟩) c cP) (.slice (some ⟨aQ, 0, none⟩) c cQ) (.slice (some ⟨aR, 0, none⟩) c cR) (.slice (some ⟨aS, 0, none⟩) c cS) E D (fun _ => (r : Int)) (fun _ => (r : Int)) ([blkT w1.heap.size 30 #[.int .i64 (c : Int), .int .i64 (k : Int), .int .i64 (r : Int), .slice (some ⟨aP, 0, none⟩) c cP, .slice (some ⟨aQ, 0, none⟩) c cQ], blkT (w1.heap.size + 1) 33 #[.int .i64 (c : Int), .int .i64 (k : Int), .int .i64 (r : Int), .slice (some ⟨aR, 0, none⟩) c cR, .slice (some ⟨aS, 0, none⟩) c cS]]) → W.cell? ⟨w1.heap.size, 0, none⟩ = some (.int .i64 (c : Int)) ∧ W.cell? ⟨w1.heap.size, 1, none⟩ = some (.int .i64 (k : Int)) ∧ W.cell? ⟨w1.heap.size, 2, none⟩ = some (.int .i64 (r : Int)) ∧ W.cell? ⟨w1.heap.size, 3, none⟩ = some (.slice (some ⟨aP, 0, none⟩) c cP) ∧ W.cell? ⟨w1.heap.size, 4, none⟩ = some (.slice (some ⟨aQ, 0, none⟩) c cQ)) := fun W E hW => ⟨hW.cell (i := 0) rfl 0, hW.cell (i := 0) rfl 1, hW.cell (i := 0) rfl 2, hW.cell (i := 0) rfl 3, hW.cell (i := 0) rfl 4⟩
  have hdc : c - 1 ≠ c := by omega
  have hm1 : Ro.mayB c k r (c - 1) c (fun i => C2 (i + 1)) = false := by unfold Ro.mayB; rw [decide_eq_false hdc]; rfl
  have hc1 : Ro.chk c k r (c - 1) c (fun i => C2 (i + 1)) 0 0 = 1 := by unfold Ro.chk; rw [hm1]; rfl
  have HN1 : Hid (∀ W, W.cell? ⟨w1.heap.size, 0, none⟩ = some (.int .i64 (c : Int)) ∧ W.cell? ⟨w1.heap.size, 1, none⟩ = some (.int .i64 (k : Int)) ∧ W.cell? ⟨w1.heap.size, 2, none⟩ = some (.int .i64 (r : Int)) ∧ W.cell? ⟨w1.heap.size, 3, none⟩ = some (.slice (some ⟨aP, 1, none⟩) (c - 1) (cP - 1)) ∧ W.cell? ⟨w1.heap.size, 4, none⟩ = some (.slice (some ⟨aQ, 0, none⟩) c cQ) ∧ St16 W (w0.heap.size + 1 + 5) c (.slice (some ⟨aP, 0, none⟩) c cP) (.slice (some ⟨aQ, 0, none⟩) c cQ) (.slice (some ⟨aR, 0, none⟩) c cR) (.slice (some ⟨aS, 0, none⟩) c cS) C2 D (fun _ => (r : Int)) (fun _ => (r : Int)) ([blkT w1.heap.size 30 #[.int .i64 (c : Int), .int .i64 (k : Int), .int .i64 (r : Int), .slice (some ⟨aP, 1, none⟩) (c - 1) (cP - 1), .slice (some ⟨aQ, 0, none⟩) c cQ], blkT (w1.heap.size + 1) 33 #[.int .i64 (c : Int), .int .i64 (k : Int), .int .i64 (r : Int), .slice (some ⟨aR, 0, none⟩) c cR, .slice (some ⟨aS, 0, none⟩) c cS]]) ∧ Below w.heap.size w W → Calls Tryz.prog 12 #[.agg #[.int .i64 (c : Int), .int .i64 (k : Int), .int .i64 (r : Int), .slice (some ⟨aP, 1, none⟩) (c - 1) (cP - 1), .slice (some ⟨aQ, 0, none⟩) c cQ], .int .i64 0, .int .i64 0] W fun e w' => e = .returned (.tuple #[.slice none 0 0, .slice none 0 0, .int .i64 1]) ∧ Below W.heap.size W w') := fun W hW => by
    have h := read16_no (dcap := cP - 1) (bcap := cQ) hok (by omega) 0 0 W hW.2.2.2.2.2.1.tail (by rw [hc1]; decide)
    rw [hc1] at h
    exact h
  have HN2 : Hid (∀ W, W.cell? ⟨w1.heap.size, 0, none⟩ = some (.int .i64 (c : Int)) ∧ W.cell? ⟨w1.heap.size, 1, none⟩ = some (.int .i64 (k : Int)) ∧ W.cell? ⟨w1.heap.size, 2, none⟩ = some (.int .i64 (r : Int)) ∧ W.cell? ⟨w1.heap.size, 3, none⟩ = some (.slice (some ⟨aP, 1, none⟩) (c - 1) (cP - 1)) ∧ W.cell? ⟨w1.heap.size, 4, none⟩ = some (.slice (some ⟨aQ, 0, none⟩) c cQ) ∧ St16 W (w0.heap.size + 1 + 5) c (.slice (some ⟨aP, 0, none⟩) c cP) (.slice (some ⟨aQ, 0, none⟩) c cQ) (.slice (some ⟨aR, 0, none⟩) c cR) (.slice (some ⟨aS, 0, none⟩) c cS) C2 D (fun _ => (r : Int)) (fun _ => (r : Int)) ([blkT w1.heap.size 30 #[.int .i64 (c : Int), .int .i64 (k : Int), .int .i64 (r : Int), .slice (some ⟨aP, 1, none⟩) (c - 1) (cP - 1), .slice (some ⟨aQ, 0, none⟩) c cQ], blkT (w1.heap.size + 1) 33 #[.int .i64 (c : Int), .int .i64 (k : Int), .int .i64 (r : Int), .slice (some ⟨aR, 0, none⟩) c cR, .slice (some ⟨aS, 0, none⟩) c cS]]) ∧ Below w.heap.size w W → Calls Tryz.prog 18 #[.agg #[.int .i64 (c : Int), .int .i64 (k : Int), .int .i64 (r : Int), .slice (some ⟨aP, 1, none⟩) (c - 1) (cP - 1), .slice (some ⟨aQ, 0, none⟩) c cQ], .int .i64 0] W fun e w' => e = .returned (.tuple #[.slice none 0 0, .int .i64 1]) ∧ Below W.heap.size W w') := fun W hW => by
    have h := lost16_no (dcap := cP - 1) (bcap := cQ) hok (by omega) 0 W hW.2.2.2.2.2.1.tail (by rw [hc1]; decide)
    rw [hc1] at h
    exact h
  have HN3 : Hid (∀ W, W.cell? ⟨w1.heap.size, 0, none⟩ = some (.int .i64 (c : Int)) ∧ W.cell? ⟨w1.heap.size, 1, none⟩ = some (.int .i64 (k : Int)) ∧ W.cell? ⟨w1.heap.size, 2, none⟩ = some (.int .i64 (r : Int)) ∧ W.cell? ⟨w1.heap.size, 3, none⟩ = some (.slice (some ⟨aP, 1, none⟩) (c - 1) (cP - 1)) ∧ W.cell? ⟨w1.heap.size, 4, none⟩ = some (.slice (some ⟨aQ, 0, none⟩) c cQ) ∧ St16 W (w0.heap.size + 1 + 5) c (.slice (some ⟨aP, 0, none⟩) c cP) (.slice (some ⟨aQ, 0, none⟩) c cQ) (.slice (some ⟨aR, 0, none⟩) c cR) (.slice (some ⟨aS, 0, none⟩) c cS) C2 D (fun _ => (r : Int)) (fun _ => (r : Int)) ([blkT w1.heap.size 30 #[.int .i64 (c : Int), .int .i64 (k : Int), .int .i64 (r : Int), .slice (some ⟨aP, 1, none⟩) (c - 1) (cP - 1), .slice (some ⟨aQ, 0, none⟩) c cQ], blkT (w1.heap.size + 1) 33 #[.int .i64 (c : Int), .int .i64 (k : Int), .int .i64 (r : Int), .slice (some ⟨aR, 0, none⟩) c cR, .slice (some ⟨aS, 0, none⟩) c cS]]) ∧ Below w.heap.size w W → Calls Tryz.prog 30 #[.agg #[.int .i64 (c : Int), .int .i64 (k : Int), .int .i64 (r : Int), .slice (some ⟨aP, 1, none⟩) (c - 1) (cP - 1), .slice (some ⟨aQ, 0, none⟩) c cQ]] W fun e w' => e = .returned (.int .i64 1) ∧ Below W.heap.size W w') := fun W hW => pFlush16_no (dcap := cP - 1) (bcap := cQ) hW.2.2.2.2.2.1.tail hok (by omega) hm1
  have HN4 : Hid (∀ W, W.cell? ⟨w1.heap.size, 0, none⟩ = some (.int .i64 (c : Int)) ∧ W.cell? ⟨w1.heap.size, 1, none⟩ = some (.int .i64 (k : Int)) ∧ W.cell? ⟨w1.heap.size, 2, none⟩ = some (.int .i64 (r : Int)) ∧ W.cell? ⟨w1.heap.size, 3, none⟩ = some (.slice (some ⟨aP, 1, none⟩) (c - 1) (cP - 1)) ∧ W.cell? ⟨w1.heap.size, 4, none⟩ = some (.slice (some ⟨aQ, 0, none⟩) c cQ) ∧ St16 W (w0.heap.size + 1 + 5) c (.slice (some ⟨aP, 0, none⟩) c cP) (.slice (some ⟨aQ, 0, none⟩) c cQ) (.slice (some ⟨aR, 0, none⟩) c cR) (.slice (some ⟨aS, 0, none⟩) c cS) C2 D (fun _ => (r : Int)) (fun _ => (r : Int)) ([blkT w1.heap.size 30 #[.int .i64 (c : Int), .int .i64 (k : Int), .int .i64 (r : Int), .slice (some ⟨aP, 1, none⟩) (c - 1) (cP - 1), .slice (some ⟨aQ, 0, none⟩) c cQ], blkT (w1.heap.size + 1) 33 #[.int .i64 (c : Int), .int .i64 (k : Int), .int .i64 (r : Int), .slice (some ⟨aR, 0, none⟩) c cR, .slice (some ⟨aS, 0, none⟩) c cS]]) ∧ Below w.heap.size w W → Calls Tryz.prog 27 #[.agg #[.int .i64 (c : Int), .int .i64 (k : Int), .int .i64 (r : Int), .slice (some ⟨aP, 1, none⟩) (c - 1) (cP - 1), .slice (some ⟨aQ, 0, none⟩) c cQ], .int .i64 0, .int .i64 0, .int .i64 0, .string Y] W fun e w' => e = .returned (.int .i64 1) ∧ Below W.heap.size W w') := fun W hW => by
    have h := pWrite16_no (dcap := cP - 1) (bcap := cQ) hW.2.2.2.2.2.1.tail hok (by omega) 0 0 0 Y (by rw [hc1]; decide)
    rw [hc1] at h
    exact h
  have HN5 : Hid (∀ W, W.cell? ⟨w1.heap.size, 0, none⟩ = some (.int .i64 (c : Int)) ∧ W.cell? ⟨w1.heap.size, 1, none⟩ = some (.int .i64 (k : Int)) ∧ W.cell? ⟨w1.heap.size, 2, none⟩ = some (.int .i64 (r : Int)) ∧ W.cell? ⟨w1.heap.size, 3, none⟩ = some (.slice (some ⟨aP, 1, none⟩) (c - 1) (cP - 1)) ∧ W.cell? ⟨w1.heap.size, 4, none⟩ = some (.slice (some ⟨aQ, 0, none⟩) c cQ) ∧ St16 W (w0.heap.size + 1 + 5) c (.slice (some ⟨aP, 0, none⟩) c cP) (.slice (some ⟨aQ, 0, none⟩) c cQ) (.slice (some ⟨aR, 0, none⟩) c cR) (.slice (some ⟨aS, 0, none⟩) c cS) C2 D (fun _ => (r : Int)) (fun _ => (r : Int)) ([blkT w1.heap.size 30 #[.int .i64 (c : Int), .int .i64 (k : Int), .int .i64 (r : Int), .slice (some ⟨aP, 1, none⟩) (c - 1) (cP - 1), .slice (some ⟨aQ, 0, none⟩) c cQ], blkT (w1.heap.size + 1) 33 #[.int .i64 (c : Int), .int .i64 (k : Int), .int .i64 (r : Int), .slice (some ⟨aR, 0, none⟩) c cR, .slice (some ⟨aS, 0, none⟩) c cS]]) ∧ Below w.heap.size w W → Calls Tryz.prog 22 #[.agg #[.int .i64 (c : Int), .int .i64 (k : Int), .int .i64 (r : Int), .slice (some ⟨aP, 1, none⟩) (c - 1) (cP - 1), .slice (some ⟨aQ, 0, none⟩) c cQ]] W fun e w' => e = .returned (.bool false) ∧ Below W.heap.size W w') := fun W hW => by
    have h := may16_any (dcap := cP - 1) (bcap := cQ) hok (by omega) W hW.2.2.2.2.2.1.tail
    rw [hm1] at h
    exact h
  have HSH : Hid (∀ W, Calls Tryz.prog 8 #[] W fun e w' => e = .returned (.bool true) ∧ Below W.heap.size W w') := fun W => shown16_any W
  have B2 : Hid (Below w.heap.size w ((w1.alloc (.cells #[.int .i64 (c : Int), .int .i64 (k : Int), .int .i64 (r : Int), .slice (some ⟨aP, 0, none⟩) c cP, .slice (some ⟨aQ, 0, none⟩) c cQ] 30)).alloc (.cells #[.int .i64 (c : Int), .int .i64 (k : Int), .int .i64 (r : Int), .slice (some ⟨aR, 0, none⟩) c cR, .slice (some ⟨aS, 0, none⟩) c cS] 33))) := (B1.out.alloc B1.out.size _).alloc (Nat.le_trans B1.out.size (by simp)) _
  obtain ⟨hg0, hg1, hg2⟩ := HGEO.out.below (((Below.refl _ _).alloc (Nat.le_refl _) (.cells #[.int .i64 (c : Int), .int .i64 (k : Int), .int .i64 (r : Int), .slice (some ⟨aP, 0, none⟩) c cP, .slice (some ⟨aQ, 0, none⟩) c cQ] 30)).alloc (by simp) (.cells #[.int .i64 (c : Int), .int .i64 (k : Int), .int .i64 (r : Int), .slice (some ⟨aR, 0, none⟩) c cR, .slice (some ⟨aS, 0, none⟩) c cS] 33)) HGEO.out.lt
  have hgl : w0.heap.size < ((w1.alloc (.cells #[.int .i64 (c : Int), .int .i64 (k : Int), .int .i64 (r : Int), .slice (some ⟨aP, 0, none⟩) c cP, .slice (some ⟨aQ, 0, none⟩) c cQ] 30)).alloc (.cells #[.int .i64 (c : Int), .int .i64 (k : Int), .int .i64 (r : Int), .slice (some ⟨aR, 0, none⟩) c cR, .slice (some ⟨aS, 0, none⟩) c cS] 33)).heap.size := World.block_lt_of_cell? _ _ hg0
  have HGE2 : Hid (ShpAt ((w1.alloc (.cells #[.int .i64 (c : Int), .int .i64 (k : Int), .int .i64 (r : Int), .slice (some ⟨aP, 0, none⟩) c cP, .slice (some ⟨aQ, 0, none⟩) c cQ] 30)).alloc (.cells #[.int .i64 (c : Int), .int .i64 (k : Int), .int .i64 (r : Int), .slice (some ⟨aR, 0, none⟩) c cR, .slice (some ⟨aS, 0, none⟩) c cS] 33)) w0.heap.size (c : Int) (k : Int) (r : Int)) := ⟨hg0, hg1, hg2⟩
  clear hC hF hS hb1 hH hbx hp hC2 hmay hread hsec hwr hm1 hc1 hdc G1
  go_upto_region 3 with fail
  generalize ((w1.alloc (.cells #[.int .i64 (c : Int), .int .i64 (k : Int), .int .i64 (r : Int), .slice (some ⟨aP, 0, none⟩) c cP, .slice (some ⟨aQ, 0, none⟩) c cQ] 30)).alloc (.cells #[.int .i64 (c : Int), .int .i64 (k : Int), .int .i64 (r : Int), .slice (some ⟨aR, 0, none⟩) c cR, .slice (some ⟨aS, 0, none⟩) c cS] 33)) = w2 at *
  go_wp2_with fail
  refine (HMY.out _ HS2.out).mono ?_
  rintro e w3 ⟨rfl, hb3⟩
  have T3 : Hid (St16 w3 (w0.heap.size + 1 + 5) c (.slice (some ⟨aP, 0, none⟩) c cP) (.slice (some ⟨aQ, 0, none⟩) c cQ) (.slice (some ⟨aR, 0, none⟩) c cR) (.slice (some ⟨aS, 0, none⟩) c cS) C D (fun _ => (r : Int)) (fun _ => (r : Int)) ([blkT w1.heap.size 30 #[.int .i64 (c : Int), .int .i64 (k : Int), .int .i64 (r : Int), .slice (some ⟨aP, 0, none⟩) c cP, .slice (some ⟨aQ, 0, none⟩) c cQ], blkT (w1.heap.size + 1) 33 #[.int .i64 (c : Int), .int .i64 (k : Int), .int .i64 (r : Int), .slice (some ⟨aR, 0, none⟩) c cR, .slice (some ⟨aS, 0, none⟩) c cS]])) := HS2.out.below hb3
  have B3 : Hid (Below w.heap.size w w3) := B2.out.trans (hb3.mono B2.out.size)
  have G3 : Hid (ShpAt w3 w0.heap.size (c : Int) (k : Int) (r : Int)) := HGE2.out.below hb3 HGE2.out.lt
  clear hb3 k0 k1 k2 k3 k4 hcp hg0 hg1 hg2 hgl hl1 hlp
  go_wp2_with fail
  refine (HSH.out _).mono ?_
  rintro e w4 ⟨rfl, hb4⟩
  have T4 : Hid (St16 w4 (w0.heap.size + 1 + 5) c (.slice (some ⟨aP, 0, none⟩) c cP) (.slice (some ⟨aQ, 0, none⟩) c cQ) (.slice (some ⟨aR, 0, none⟩) c cR) (.slice (some ⟨aS, 0, none⟩) c cS) C D (fun _ => (r : Int)) (fun _ => (r : Int)) ([blkT w1.heap.size 30 #[.int .i64 (c : Int), .int .i64 (k : Int), .int .i64 (r : Int), .slice (some ⟨aP, 0, none⟩) c cP, .slice (some ⟨aQ, 0, none⟩) c cQ], blkT (w1.heap.size + 1) 33 #[.int .i64 (c : Int), .int .i64 (k : Int), .int .i64 (r : Int), .slice (some ⟨aR, 0, none⟩) c cR, .slice (some ⟨aS, 0, none⟩) c cS]])) := T3.out.below hb4
  have B4 : Hid (Below w.heap.size w w4) := B3.out.trans (hb4.mono B3.out.size)
  have G4 : Hid (ShpAt w4 w0.heap.size (c : Int) (k : Int) (r : Int)) := G3.out.below hb4 G3.out.lt
  obtain ⟨g0, g1, g2⟩ := G4.out
  have hgl4 : w0.heap.size < w4.heap.size := World.block_lt_of_cell? _ _ g0
  obtain ⟨j0, j1, j2, j3, j4⟩ := HS5.out _ _ T4.out
  have hl4 : w1.heap.size < w4.heap.size := World.block_lt_of_cell? _ _ j0
  clear hb4
  go_wp2_with fail
  refine (HRD.out _ T4.out).mono ?_
  rintro e w5 ⟨⟨y0, y1, y2, y3, y4, y5, rfl⟩, hb5⟩
  have T5 : Hid (St16 w5 (w0.heap.size + 1 + 5) c (.slice (some ⟨aP, 0, none⟩) c cP) (.slice (some ⟨aQ, 0, none⟩) c cQ) (.slice (some ⟨aR, 0, none⟩) c cR) (.slice (some ⟨aS, 0, none⟩) c cS) C D (fun _ => (r : Int)) (fun _ => (r : Int)) ([blkT w1.heap.size 30 #[.int .i64 (c : Int), .int .i64 (k : Int), .int .i64 (r : Int), .slice (some ⟨aP, 0, none⟩) c cP, .slice (some ⟨aQ, 0, none⟩) c cQ], blkT (w1.heap.size + 1) 33 #[.int .i64 (c : Int), .int .i64 (k : Int), .int .i64 (r : Int), .slice (some ⟨aR, 0, none⟩) c cR, .slice (some ⟨aS, 0, none⟩) c cS]])) := T4.out.below hb5
  have B5 : Hid (Below w.heap.size w w5) := B4.out.trans (hb5.mono B4.out.size)
  have G5 : Hid (ShpAt w5 w0.heap.size (c : Int) (k : Int) (r : Int)) := G4.out.below hb5 G4.out.lt
  clear hb5 j0 j1 j2 j3 j4 hl4 g0 g1 g2 hgl4
  obtain ⟨j0, j1, j2, j3, j4⟩ := HS5.out _ _ T5.out
  have hl5 : w1.heap.size < w5.heap.size := World.block_lt_of_cell? _ _ j0
  go_wp2_with fail
  refine (HSE.out _ T5.out).mono ?_
  rintro e w6 ⟨⟨y6, rfl⟩, hb6⟩
  have T6 : Hid (St16 w6 (w0.heap.size + 1 + 5) c (.slice (some ⟨aP, 0, none⟩) c cP) (.slice (some ⟨aQ, 0, none⟩) c cQ) (.slice (some ⟨aR, 0, none⟩) c cR) (.slice (some ⟨aS, 0, none⟩) c cS) C D (fun _ => (r : Int)) (fun _ => (r : Int)) ([blkT w1.heap.size 30 #[.int .i64 (c : Int), .int .i64 (k : Int), .int .i64 (r : Int), .slice (some ⟨aP, 0, none⟩) c cP, .slice (some ⟨aQ, 0, none⟩) c cQ], blkT (w1.heap.size + 1) 33 #[.int .i64 (c : Int), .int .i64 (k : Int), .int .i64 (r : Int), .slice (some ⟨aR, 0, none⟩) c cR, .slice (some ⟨aS, 0, none⟩) c cS]])) := T5.out.below hb6
  have B6 : Hid (Below w.heap.size w w6) := B5.out.trans (hb6.mono B5.out.size)
  have G6 : Hid (ShpAt w6 w0.heap.size (c : Int) (k : Int) (r : Int)) := G5.out.below hb6 G5.out.lt
  clear hb6 j0 j1 j2 j3 j4 hl5
  obtain ⟨j0, j1, j2, j3, j4⟩ := HS5.out _ _ T6.out
  have hl6 : w1.heap.size < w6.heap.size := World.block_lt_of_cell? _ _ j0
  go_wp2_with fail
  have hS0 : w6.drew.cell? ⟨w1.heap.size, 0, none⟩ = some (.int .i64 (c : Int)) ∧ w6.drew.cell? ⟨w1.heap.size, 1, none⟩ = some (.int .i64 (k : Int)) ∧ w6.drew.cell? ⟨w1.heap.size, 2, none⟩ = some (.int .i64 (r : Int)) ∧ w6.drew.cell? ⟨w1.heap.size, 3, none⟩ = some (.slice (some ⟨aP, 0, none⟩) c cP) ∧ w6.drew.cell? ⟨w1.heap.size, 4, none⟩ = some (.slice (some ⟨aQ, 0, none⟩) c cQ) := ⟨j0, j1, j2, j3, j4⟩
  have T6d : Hid (St16 w6.drew (w0.heap.size + 1 + 5) c (.slice (some ⟨aP, 0, none⟩) c cP) (.slice (some ⟨aQ, 0, none⟩) c cQ) (.slice (some ⟨aR, 0, none⟩) c cR) (.slice (some ⟨aS, 0, none⟩) c cS) C D (fun _ => (r : Int)) (fun _ => (r : Int)) ([blkT w1.heap.size 30 #[.int .i64 (c : Int), .int .i64 (k : Int), .int .i64 (r : Int), .slice (some ⟨aP, 0, none⟩) c cP, .slice (some ⟨aQ, 0, none⟩) c cQ], blkT (w1.heap.size + 1) 33 #[.int .i64 (c : Int), .int .i64 (k : Int), .int .i64 (r : Int), .slice (some ⟨aR, 0, none⟩) c cR, .slice (some ⟨aS, 0, none⟩) c cS]])) := T6.out.below ((Below.refl _ _).drew)
  go_region_held3 (fun W => W.cell? ⟨w1.heap.size, 0, none⟩ = some (.int .i64 (c : Int)) ∧ W.cell? ⟨w1.heap.size, 1, none⟩ = some (.int .i64 (k : Int)) ∧ W.cell? ⟨w1.heap.size, 2, none⟩ = some (.int .i64 (r : Int)) ∧ W.cell? ⟨w1.heap.size, 3, none⟩ = some (.slice (some ⟨aP, 0, none⟩) c cP) ∧ W.cell? ⟨w1.heap.size, 4, none⟩ = some (.slice (some ⟨aQ, 0, none⟩) c cQ)) (first | exact hS0 | assumption) (first | (go_at_call 24; refine (HFU.out _).mono ?_; rintro e w7 ⟨rfl, h7⟩; have h7' := h7.symm; subst h7'; clear h7) | (go_at_call 27; refine (HWR.out _ T6d.out).mono ?_; rintro e w8 ⟨rfl, ht8, hb8⟩; have T8 : Hid (St16 w8 (w0.heap.size + 1 + 5) c (.slice (some ⟨aP, 0, none⟩) c cP) (.slice (some ⟨aQ, 0, none⟩) c cQ) (.slice (some ⟨aR, 0, none⟩) c cR) (.slice (some ⟨aS, 0, none⟩) c cS) C2 D (fun _ => (r : Int)) (fun _ => (r : Int)) ([blkT w1.heap.size 30 #[.int .i64 (c : Int), .int .i64 (k : Int), .int .i64 (r : Int), .slice (some ⟨aP, 0, none⟩) c cP, .slice (some ⟨aQ, 0, none⟩) c cQ], blkT (w1.heap.size + 1) 33 #[.int .i64 (c : Int), .int .i64 (k : Int), .int .i64 (r : Int), .slice (some ⟨aR, 0, none⟩) c cR, .slice (some ⟨aS, 0, none⟩) c cS]])) := ht8; have hs8 := HS5.out _ _ ht8; have B8 : Hid (Below (w0.heap.size + 1 + 5) w6 w8) := (Below.refl _ w6).drew.trans hb8; clear ht8 hb8))
  all_goals
    have BW8 : Hid (Below w.heap.size w w8) := B6.out.trans (B8.out.mono HBB.out)
    have G8 : Hid (ShpAt w8 w0.heap.size (c : Int) (k : Int) (r : Int)) := G6.out.below B8.out (by omega)
    obtain ⟨n0, n1, n2, n3, n4⟩ := hs8
    obtain ⟨g0, g1, g2⟩ := G8.out
    have hl8 : w1.heap.size < w8.heap.size := World.block_lt_of_cell? _ _ n0
    have hg8 : w0.heap.size < w8.heap.size := World.block_lt_of_cell? _ _ g0
    clear j0 j1 j2 j3 j4 hl6 hS0
    go_upto_region 11 with fail
    have hsl := fun W => slice_tail (aP := aP) (by omega) hcap W
    have z3 := frozen_of_row w8 w1.heap.size 3 _ _ (T8.out.block (i := 0) rfl)
    clear g0 g1 g2 hg8
    go_upto_region 12 with fail
    obtain ⟨t9, o9⟩ := T8.out.setBox (i := 0) rfl 3 (.slice (some ⟨aP, 1, none⟩) (c - 1) (cP - 1))
    have B9 : Below w.heap.size w (w8.setCell ⟨w1.heap.size, 3, none⟩ (.slice (some ⟨aP, 1, none⟩) (c - 1) (cP - 1))) := BW8.out.trans ((o9.below (B := w0.heap.size + 1 + 5) (fun _ hk => hk.1) T8.out.size).mono HBB.out)
    have t9' : St16 (w8.setCell ⟨w1.heap.size, 3, none⟩ (.slice (some ⟨aP, 1, none⟩) (c - 1) (cP - 1))) (w0.heap.size + 1 + 5) c (.slice (some ⟨aP, 0, none⟩) c cP) (.slice (some ⟨aQ, 0, none⟩) c cQ) (.slice (some ⟨aR, 0, none⟩) c cR) (.slice (some ⟨aS, 0, none⟩) c cS) C2 D (fun _ => (r : Int)) (fun _ => (r : Int)) ([blkT w1.heap.size 30 #[.int .i64 (c : Int), .int .i64 (k : Int), .int .i64 (r : Int), .slice (some ⟨aP, 1, none⟩) (c - 1) (cP - 1), .slice (some ⟨aQ, 0, none⟩) c cQ], blkT (w1.heap.size + 1) 33 #[.int .i64 (c : Int), .int .i64 (k : Int), .int .i64 (r : Int), .slice (some ⟨aR, 0, none⟩) c cR, .slice (some ⟨aS, 0, none⟩) c cS]]) := t9
    generalize w8.setCell ⟨w1.heap.size, 3, none⟩ (.slice (some ⟨aP, 1, none⟩) (c - 1) (cP - 1)) = w9 at t9 t9' o9 B9 ⊢
    have S9 : w9.cell? ⟨w1.heap.size, 0, none⟩ = some (.int .i64 (c : Int)) ∧ w9.cell? ⟨w1.heap.size, 1, none⟩ = some (.int .i64 (k : Int)) ∧ w9.cell? ⟨w1.heap.size, 2, none⟩ = some (.int .i64 (r : Int)) ∧ w9.cell? ⟨w1.heap.size, 3, none⟩ = some (.slice (some ⟨aP, 1, none⟩) (c - 1) (cP - 1)) ∧ w9.cell? ⟨w1.heap.size, 4, none⟩ = some (.slice (some ⟨aQ, 0, none⟩) c cQ) ∧ St16 w9 (w0.heap.size + 1 + 5) c (.slice (some ⟨aP, 0, none⟩) c cP) (.slice (some ⟨aQ, 0, none⟩) c cQ) (.slice (some ⟨aR, 0, none⟩) c cR) (.slice (some ⟨aS, 0, none⟩) c cS) C2 D (fun _ => (r : Int)) (fun _ => (r : Int)) ([blkT w1.heap.size 30 #[.int .i64 (c : Int), .int .i64 (k : Int), .int .i64 (r : Int), .slice (some ⟨aP, 1, none⟩) (c - 1) (cP - 1), .slice (some ⟨aQ, 0, none⟩) c cQ], blkT (w1.heap.size + 1) 33 #[.int .i64 (c : Int), .int .i64 (k : Int), .int .i64 (r : Int), .slice (some ⟨aR, 0, none⟩) c cR, .slice (some ⟨aS, 0, none⟩) c cS]]) ∧ Below w.heap.size w w9 := ⟨t9'.cell (i := 0) rfl 0, t9'.cell (i := 0) rfl 1, t9'.cell (i := 0) rfl 2, t9'.cell (i := 0) rfl 3, t9'.cell (i := 0) rfl 4, t9', B9⟩
    have HS9 : Hid (w9.cell? ⟨w1.heap.size, 0, none⟩ = some (.int .i64 (c : Int)) ∧ w9.cell? ⟨w1.heap.size, 1, none⟩ = some (.int .i64 (k : Int)) ∧ w9.cell? ⟨w1.heap.size, 2, none⟩ = some (.int .i64 (r : Int)) ∧ w9.cell? ⟨w1.heap.size, 3, none⟩ = some (.slice (some ⟨aP, 1, none⟩) (c - 1) (cP - 1)) ∧ w9.cell? ⟨w1.heap.size, 4, none⟩ = some (.slice (some ⟨aQ, 0, none⟩) c cQ) ∧ St16 w9 (w0.heap.size + 1 + 5) c (.slice (some ⟨aP, 0, none⟩) c cP) (.slice (some ⟨aQ, 0, none⟩) c cQ) (.slice (some ⟨aR, 0, none⟩) c cR) (.slice (some ⟨aS, 0, none⟩) c cS) C2 D (fun _ => (r : Int)) (fun _ => (r : Int)) ([blkT w1.heap.size 30 #[.int .i64 (c : Int), .int .i64 (k : Int), .int .i64 (r : Int), .slice (some ⟨aP, 1, none⟩) (c - 1) (cP - 1), .slice (some ⟨aQ, 0, none⟩) c cQ], blkT (w1.heap.size + 1) 33 #[.int .i64 (c : Int), .int .i64 (k : Int), .int .i64 (r : Int), .slice (some ⟨aR, 0, none⟩) c cR, .slice (some ⟨aS, 0, none⟩) c cS]]) ∧ Below w.heap.size w w9) := S9
    obtain ⟨m0, m1, m2, m3, m4, _, _⟩ := S9
    have hl9 : w1.heap.size < w9.heap.size := World.block_lt_of_cell? _ _ m0
    clear t9 t9' o9 B9 n0 n1 n2 n3 n4 hl8 z3 hsl
    go_wp2_with fail
    refine (HN1.out _ HS9.out).mono ?_
    rintro e w10 ⟨rfl, hb10⟩
    have S10 : w10.cell? ⟨w1.heap.size, 0, none⟩ = some (.int .i64 (c : Int)) ∧ w10.cell? ⟨w1.heap.size, 1, none⟩ = some (.int .i64 (k : Int)) ∧ w10.cell? ⟨w1.heap.size, 2, none⟩ = some (.int .i64 (r : Int)) ∧ w10.cell? ⟨w1.heap.size, 3, none⟩ = some (.slice (some ⟨aP, 1, none⟩) (c - 1) (cP - 1)) ∧ w10.cell? ⟨w1.heap.size, 4, none⟩ = some (.slice (some ⟨aQ, 0, none⟩) c cQ) ∧ St16 w10 (w0.heap.size + 1 + 5) c (.slice (some ⟨aP, 0, none⟩) c cP) (.slice (some ⟨aQ, 0, none⟩) c cQ) (.slice (some ⟨aR, 0, none⟩) c cR) (.slice (some ⟨aS, 0, none⟩) c cS) C2 D (fun _ => (r : Int)) (fun _ => (r : Int)) ([blkT w1.heap.size 30 #[.int .i64 (c : Int), .int .i64 (k : Int), .int .i64 (r : Int), .slice (some ⟨aP, 1, none⟩) (c - 1) (cP - 1), .slice (some ⟨aQ, 0, none⟩) c cQ], blkT (w1.heap.size + 1) 33 #[.int .i64 (c : Int), .int .i64 (k : Int), .int .i64 (r : Int), .slice (some ⟨aR, 0, none⟩) c cR, .slice (some ⟨aS, 0, none⟩) c cS]]) ∧ Below w.heap.size w w10 := keep51 HS9.out hb10
    have HS10 : Hid (w10.cell? ⟨w1.heap.size, 0, none⟩ = some (.int .i64 (c : Int)) ∧ w10.cell? ⟨w1.heap.size, 1, none⟩ = some (.int .i64 (k : Int)) ∧ w10.cell? ⟨w1.heap.size, 2, none⟩ = some (.int .i64 (r : Int)) ∧ w10.cell? ⟨w1.heap.size, 3, none⟩ = some (.slice (some ⟨aP, 1, none⟩) (c - 1) (cP - 1)) ∧ w10.cell? ⟨w1.heap.size, 4, none⟩ = some (.slice (some ⟨aQ, 0, none⟩) c cQ) ∧ St16 w10 (w0.heap.size + 1 + 5) c (.slice (some ⟨aP, 0, none⟩) c cP) (.slice (some ⟨aQ, 0, none⟩) c cQ) (.slice (some ⟨aR, 0, none⟩) c cR) (.slice (some ⟨aS, 0, none⟩) c cS) C2 D (fun _ => (r : Int)) (fun _ => (r : Int)) ([blkT w1.heap.size 30 #[.int .i64 (c : Int), .int .i64 (k : Int), .int .i64 (r : Int), .slice (some ⟨aP, 1, none⟩) (c - 1) (cP - 1), .slice (some ⟨aQ, 0, none⟩) c cQ], blkT (w1.heap.size + 1) 33 #[.int .i64 (c : Int), .int .i64 (k : Int), .int .i64 (r : Int), .slice (some ⟨aR, 0, none⟩) c cR, .slice (some ⟨aS, 0, none⟩) c cS]]) ∧ Below w.heap.size w w10) := S10
    clear hb10 m0 m1 m2 m3 m4 hl9
    obtain ⟨m0, m1, m2, m3, m4, _, _⟩ := S10
    have hl10 : w1.heap.size < w10.heap.size := World.block_lt_of_cell? _ _ m0
    go_wp2_with fail
    refine (HN2.out _ HS10.out).mono ?_
    rintro e w11 ⟨rfl, hb11⟩
    have S11 : w11.cell? ⟨w1.heap.size, 0, none⟩ = some (.int .i64 (c : Int)) ∧ w11.cell? ⟨w1.heap.size, 1, none⟩ = some (.int .i64 (k : Int)) ∧ w11.cell? ⟨w1.heap.size, 2, none⟩ = some (.int .i64 (r : Int)) ∧ w11.cell? ⟨w1.heap.size, 3, none⟩ = some (.slice (some ⟨aP, 1, none⟩) (c - 1) (cP - 1)) ∧ w11.cell? ⟨w1.heap.size, 4, none⟩ = some (.slice (some ⟨aQ, 0, none⟩) c cQ) ∧ St16 w11 (w0.heap.size + 1 + 5) c (.slice (some ⟨aP, 0, none⟩) c cP) (.slice (some ⟨aQ, 0, none⟩) c cQ) (.slice (some ⟨aR, 0, none⟩) c cR) (.slice (some ⟨aS, 0, none⟩) c cS) C2 D (fun _ => (r : Int)) (fun _ => (r : Int)) ([blkT w1.heap.size 30 #[.int .i64 (c : Int), .int .i64 (k : Int), .int .i64 (r : Int), .slice (some ⟨aP, 1, none⟩) (c - 1) (cP - 1), .slice (some ⟨aQ, 0, none⟩) c cQ], blkT (w1.heap.size + 1) 33 #[.int .i64 (c : Int), .int .i64 (k : Int), .int .i64 (r : Int), .slice (some ⟨aR, 0, none⟩) c cR, .slice (some ⟨aS, 0, none⟩) c cS]]) ∧ Below w.heap.size w w11 := keep51 HS10.out hb11
    have HS11 : Hid (w11.cell? ⟨w1.heap.size, 0, none⟩ = some (.int .i64 (c : Int)) ∧ w11.cell? ⟨w1.heap.size, 1, none⟩ = some (.int .i64 (k : Int)) ∧ w11.cell? ⟨w1.heap.size, 2, none⟩ = some (.int .i64 (r : Int)) ∧ w11.cell? ⟨w1.heap.size, 3, none⟩ = some (.slice (some ⟨aP, 1, none⟩) (c - 1) (cP - 1)) ∧ w11.cell? ⟨w1.heap.size, 4, none⟩ = some (.slice (some ⟨aQ, 0, none⟩) c cQ) ∧ St16 w11 (w0.heap.size + 1 + 5) c (.slice (some ⟨aP, 0, none⟩) c cP) (.slice (some ⟨aQ, 0, none⟩) c cQ) (.slice (some ⟨aR, 0, none⟩) c cR) (.slice (some ⟨aS, 0, none⟩) c cS) C2 D (fun _ => (r : Int)) (fun _ => (r : Int)) ([blkT w1.heap.size 30 #[.int .i64 (c : Int), .int .i64 (k : Int), .int .i64 (r : Int), .slice (some ⟨aP, 1, none⟩) (c - 1) (cP - 1), .slice (some ⟨aQ, 0, none⟩) c cQ], blkT (w1.heap.size + 1) 33 #[.int .i64 (c : Int), .int .i64 (k : Int), .int .i64 (r : Int), .slice (some ⟨aR, 0, none⟩) c cR, .slice (some ⟨aS, 0, none⟩) c cS]]) ∧ Below w.heap.size w w11) := S11
    clear hb11 m0 m1 m2 m3 m4 hl10
    obtain ⟨m0, m1, m2, m3, m4, _, _⟩ := S11
    have hl11 : w1.heap.size < w11.heap.size := World.block_lt_of_cell? _ _ m0
    go_wp2_with fail
    have S11d : w11.drew.cell? ⟨w1.heap.size, 0, none⟩ = some (.int .i64 (c : Int)) ∧ w11.drew.cell? ⟨w1.heap.size, 1, none⟩ = some (.int .i64 (k : Int)) ∧ w11.drew.cell? ⟨w1.heap.size, 2, none⟩ = some (.int .i64 (r : Int)) ∧ w11.drew.cell? ⟨w1.heap.size, 3, none⟩ = some (.slice (some ⟨aP, 1, none⟩) (c - 1) (cP - 1)) ∧ w11.drew.cell? ⟨w1.heap.size, 4, none⟩ = some (.slice (some ⟨aQ, 0, none⟩) c cQ) ∧ St16 w11.drew (w0.heap.size + 1 + 5) c (.slice (some ⟨aP, 0, none⟩) c cP) (.slice (some ⟨aQ, 0, none⟩) c cQ) (.slice (some ⟨aR, 0, none⟩) c cR) (.slice (some ⟨aS, 0, none⟩) c cS) C2 D (fun _ => (r : Int)) (fun _ => (r : Int)) ([blkT w1.heap.size 30 #[.int .i64 (c : Int), .int .i64 (k : Int), .int .i64 (r : Int), .slice (some ⟨aP, 1, none⟩) (c - 1) (cP - 1), .slice (some ⟨aQ, 0, none⟩) c cQ], blkT (w1.heap.size + 1) 33 #[.int .i64 (c : Int), .int .i64 (k : Int), .int .i64 (r : Int), .slice (some ⟨aR, 0, none⟩) c cR, .slice (some ⟨aS, 0, none⟩) c cS]]) ∧ Below w.heap.size w w11.drew := keep51 HS11.out ((Below.refl _ _).drew)
    go_region_held3 (fun W => W.cell? ⟨w1.heap.size, 0, none⟩ = some (.int .i64 (c : Int)) ∧ W.cell? ⟨w1.heap.size, 1, none⟩ = some (.int .i64 (k : Int)) ∧ W.cell? ⟨w1.heap.size, 2, none⟩ = some (.int .i64 (r : Int)) ∧ W.cell? ⟨w1.heap.size, 3, none⟩ = some (.slice (some ⟨aP, 1, none⟩) (c - 1) (cP - 1)) ∧ W.cell? ⟨w1.heap.size, 4, none⟩ = some (.slice (some ⟨aQ, 0, none⟩) c cQ) ∧ St16 W (w0.heap.size + 1 + 5) c (.slice (some ⟨aP, 0, none⟩) c cP) (.slice (some ⟨aQ, 0, none⟩) c cQ) (.slice (some ⟨aR, 0, none⟩) c cR) (.slice (some ⟨aS, 0, none⟩) c cS) C2 D (fun _ => (r : Int)) (fun _ => (r : Int)) ([blkT w1.heap.size 30 #[.int .i64 (c : Int), .int .i64 (k : Int), .int .i64 (r : Int), .slice (some ⟨aP, 1, none⟩) (c - 1) (cP - 1), .slice (some ⟨aQ, 0, none⟩) c cQ], blkT (w1.heap.size + 1) 33 #[.int .i64 (c : Int), .int .i64 (k : Int), .int .i64 (r : Int), .slice (some ⟨aR, 0, none⟩) c cR, .slice (some ⟨aS, 0, none⟩) c cS]]) ∧ Below w.heap.size w W) (first | exact S11d | assumption) (first | (go_at_call 24; refine (HFE.out _).mono ?_; rintro e w12 ⟨rfl, h12⟩; have h12' := h12.symm; subst h12'; clear h12) | (go_at_call 30; refine (HN3.out _ (by assumption)).mono ?_; rintro e w13 ⟨rfl, hb13⟩; have S13 := keep51 (by assumption) hb13; clear hb13) | (go_at_call 27; refine (HN4.out _ (by assumption)).mono ?_; rintro e w14 ⟨rfl, hb14⟩; have S14 := keep51 (by assumption) hb14; clear hb14) | (go_at_call 22; refine (HN5.out _ (by assumption)).mono ?_; rintro e w15 ⟨rfl, hb15⟩; have S15 := keep51 (by assumption) hb15; have HB15 : Hid (Below w.heap.size w w15) := S15.2.2.2.2.2.2; clear hb15))
    all_goals
      go_wp2
      go_ret
      exact ⟨rfl, HB15.out⟩
end Go.Proofs.YtdgkhjgnjfgnlaaGreat.rowArgs
