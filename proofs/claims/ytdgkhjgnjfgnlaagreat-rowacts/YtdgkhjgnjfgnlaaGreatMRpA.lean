import Derived.Test.YtdgkhjgnjfgnlaaGreatMRoE
import Derived.Test.YtdgkhjgnjfgnlaaGreatMRoC
import Derived.Test.YtdgkhjgnjfgnlaaGreatMLayB
import Derived.BigQuiet
import Derived.Deep.RegionHeld3
namespace Go.Proofs.YtdgkhjgnjfgnlaaGreat
open Go.RowKit
attribute [local go_sem] Oper.semAt_some
namespace Ro
def goneB : Col → Bool
 | none => true
 | some x => x.2.dead
theorem missB_gone (C : Nat → Col) (bf : Nat → Int) (row : Int) (i : Nat) : missB C bf row i = (goneB (C i) || decide (bf i ≤ row)) := by
 unfold missB goneB
 cases C i <;> simp
theorem parP_eq {c k r row : Nat} (hok : Lay.ok (c : Int) (k : Int) (r : Int)) (hr : row < r) : Lay.parP (c : Int) (k : Int) (r : Int) (row : Int) = ((colN c row (c - 2) : Nat) : Int) := by
 rw [show Lay.parP (c : Int) (k : Int) (r : Int) (row : Int) = (c : Int) - 1 - (row : Int) % (c : Int) from if_pos ⟨hok, by omega, by omega⟩]
 unfold colN
 obtain ⟨⟨c1, c2⟩, _, _⟩ := hok
 have hc : c = 4 ∨ c = 5 ∨ c = 6 ∨ c = 7 ∨ c = 8 ∨ c = 9 ∨ c = 10 := by omega
 rcases hc with rfl | rfl | rfl | rfl | rfl | rfl | rfl <;> omega
theorem parQ_eq {c k r row : Nat} (hok : Lay.ok (c : Int) (k : Int) (r : Int)) (hr : row < r) : Lay.parQ (c : Int) (k : Int) (r : Int) (row : Int) = ((colN c row (c - 1) : Nat) : Int) := by
 rw [show Lay.parQ (c : Int) (k : Int) (r : Int) (row : Int) = ((c : Int) - 1 - (row : Int) % (c : Int) + 1) % (c : Int) from if_pos ⟨hok, by omega, by omega⟩]
 unfold colN
 obtain ⟨⟨c1, c2⟩, _, _⟩ := hok
 have hc : c = 4 ∨ c = 5 ∨ c = 6 ∨ c = 7 ∨ c = 8 ∨ c = 9 ∨ c = 10 := by omega
 rcases hc with rfl | rfl | rfl | rfl | rfl | rfl | rfl <;> omega
end Ro
theorem between16_any (a n b : Int) (w : World) :
  Calls Tryz.prog 49 #[.int .i64 a, .int .i64 n, .int .i64 b] w fun e w' => e = .returned (.bool (decide (a ≤ n) && decide (n ≤ b))) ∧ w' = w := by
 by_cases h1 : a ≤ n
 ·by_cases h2 : n ≤ b
  ·go_enter Tryz.func49, Tryz.ntmps49
   go_wp2
   go_ret
   exact ⟨ret_bool (by rw [decide_eq_true h1, decide_eq_true h2]; rfl), rfl⟩
  ·go_enter Tryz.func49, Tryz.ntmps49
   go_wp2
   go_ret
   exact ⟨ret_bool (by rw [eq_comm, decide_eq_false_iff_not]; omega), rfl⟩
 ·go_enter Tryz.func49, Tryz.ntmps49
  go_wp2
  go_ret
  exact ⟨ret_bool (by rw [decide_eq_false (show ¬ a ≤ n by omega)]; rfl), rfl⟩
theorem sects16_any {w : World} {p : Nat} {D : Dr} {F : Nat → Prop} (h : DriveAt w p D F) :
  Calls Tryz.prog 58 #[.pointer (some ⟨p, 0, none⟩)] w fun e w' => e = .returned (.int .i64 (D.n : Nat)) ∧ w' = w := by
 obtain ⟨sb, pb, mb, hd, hin, _⟩ := h
 have c0 := hin.cells.c0
 have hle := hin.ok.le
 unfold Dr.n
 obtain ⟨n, hn⟩ : ∃ n, D.safe.length = n := ⟨_, rfl⟩
 rw [hn] at c0 hle ⊢
 clear hin hn
 go_enter Tryz.func58, Tryz.ntmps58
 go_wp2
 go_ret
 exact ⟨rfl, rfl⟩
section
variable {c k r : Nat} {da ba : Option Addr} {dn dcap bn bcap : Nat} {C : Nat → Ro.Col} {bf : Nat → Int}
set_option maxRecDepth 100000 in
set_option maxHeartbeats 2000000 in
theorem gone16_any (i : Nat) (hi : i < dn) (w : World) (h : PrSet w da dn ba bn C bf) :
  Calls Tryz.prog 65 #[.agg #[.int .i64 (c : Int), .int .i64 (k : Int), .int .i64 (r : Int), .slice da dn dcap, .slice ba bn bcap], .int .i64 (i : Int)] w fun e w' => e = .returned (.bool (Ro.goneB (C i))) ∧ Below w.heap.size w w' := by
 obtain ⟨b1, o1, rfl, hp⟩ := h.row i hi
 have X0 : Hid (Below w.heap.size w (w.alloc (.cells #[.int .i64 (c : Int), .int .i64 (k : Int), .int .i64 (r : Int), .slice (some ⟨b1, o1, none⟩) dn dcap, .slice ba bn bcap] 30))) := (Below.refl _ _).alloc (Nat.le_refl _) _
 have l1 := World.block_lt_of_cell? w _ hp
 have i1 : (i : Int) < (dn : Int) := by omega
 cases hC : C i with
 | none =>
  rw [hC] at hp
  simp only [Ro.ptr] at hp
  clear h hC
  go_enter Tryz.func65, Tryz.ntmps65
  go_wp2
  go_ret
  exact ⟨rfl, X0.out⟩
 | some x =>
  obtain ⟨p, D⟩ := x
  rw [hC] at hp
  simp only [Ro.ptr] at hp
  obtain ⟨F, hF⟩ := h.drv i p D hi hC
  have hdd := dead_any (hF.below X0.out)
  obtain ⟨dd, hdd2⟩ : ∃ dd, D.dead = dd := ⟨_, rfl⟩
  have E : Hid (Ro.goneB (some (p, D)) = dd) := hdd2
  rw [hdd2] at hdd
  clear h hC hF hdd2
  go_enter Tryz.func65, Tryz.ntmps65
  go_wp2_with fail
  refine hdd.mono ?_
  rintro e w' ⟨rfl, hw⟩
  subst w'
  go_wp2
  go_ret
  exact ⟨ret_bool E.out.symm, X0.out⟩
set_option maxRecDepth 100000 in
set_option maxHeartbeats 2000000 in
theorem missing16_any (row : Int) (i : Nat) (hi : i < dn) (hi2 : i < bn) (w : World) (h : PrSet w da dn ba bn C bf) :
  Calls Tryz.prog 53 #[.agg #[.int .i64 (c : Int), .int .i64 (k : Int), .int .i64 (r : Int), .slice da dn dcap, .slice ba bn bcap], .int .i64 row, .int .i64 (i : Int)] w fun e w' => e = .returned (.bool (Ro.missB C bf row i)) ∧ Below w.heap.size w w' := by
 obtain ⟨b2, o2, rfl, hq⟩ := h.built i hi2
 have HX : Hid (Below w.heap.size w (w.alloc (.cells #[.int .i64 (c : Int), .int .i64 (k : Int), .int .i64 (r : Int), .slice da dn dcap, .slice (some ⟨b2, o2, none⟩) bn bcap] 30))) := (Below.refl _ _).alloc (Nat.le_refl _) _
 have hg := gone16_any (c := c) (k := k) (r := r) (dcap := dcap) (bcap := bcap) i hi _ (h.below HX.out)
 have X0 : Hid (At5 w w.heap.size c k r (.slice da dn dcap) (.slice (some ⟨b2, o2, none⟩) bn bcap) (w.alloc (.cells #[.int .i64 (c : Int), .int .i64 (k : Int), .int .i64 (r : Int), .slice da dn dcap, .slice (some ⟨b2, o2, none⟩) bn bcap] 30))) := At5.new _ _ _ _ _ _ _
 have l2 := World.block_lt_of_cell? w _ hq
 have i2 : (i : Int) < (bn : Int) := by omega
 have E : Hid (Ro.missB C bf row i = (Ro.goneB (C i) || decide (bf i ≤ row))) := Ro.missB_gone C bf row i
 obtain ⟨y, hy⟩ : ∃ y, bf i = y := ⟨_, rfl⟩
 rw [hy] at hq E
 have HQ : Hid (w.cell? ⟨b2, o2 + i, none⟩ = some (.int .i64 y)) := hq
 clear hy hq
 cases hgo : Ro.goneB (C i) with
 | true =>
  rw [hgo] at hg E
  clear hgo h
  go_enter Tryz.func53, Tryz.ntmps53
  go_wp2_with fail
  refine hg.mono ?_
  rintro e w1 ⟨rfl, hb1⟩
  have K : Hid (Below w.heap.size w w1) := (X0.out.kept hb1).2.2.2.2.2
  clear hb1
  go_wp2
  go_ret
  exact ⟨ret_bool (by rw [E.out]; rfl), K.out⟩
 | false =>
  rw [hgo] at hg E
  obtain ⟨q, hq2⟩ : ∃ q, decide (y ≤ row) = q := ⟨_, rfl⟩
  have E2 : Hid (Ro.missB C bf row i = q) := by show _ = _; rw [E.out, hq2]; rfl
  clear hgo h E
  go_enter Tryz.func53, Tryz.ntmps53
  go_wp2_with fail
  refine hg.mono ?_
  rintro e w1 ⟨rfl, hb1⟩
  have hA1 := X0.out.kept hb1
  have K : Hid (Below w.heap.size w w1) := hA1.2.2.2.2.2
  have hq1 := (hA1.2.2.2.2.2.cell (p := ⟨b2, o2 + i, none⟩) l2).trans HQ.out
  have l3 := World.block_lt_of_cell? w1 _ hq1
  obtain ⟨k0, k1, k2, k3, k4, _⟩ := hA1
  clear hb1
  go_wp2
  go_ret
  exact ⟨ret_bool E2.out.symm, K.out⟩
end
end Go.Proofs.YtdgkhjgnjfgnlaaGreat
namespace Go.Proofs.YtdgkhjgnjfgnlaaGreat
open Go.RowKit
attribute [local go_sem] Oper.semAt_some
theorem ptr_shape16 (x : Ro.Col) : ∃ p, Ro.ptr x = .pointer p := by
 cases x with
 | none => exact ⟨_, rfl⟩
 | some x => exact ⟨_, rfl⟩
namespace Ro
def fitN (need n : Nat) (C : Nat → Col) : Bool := (List.range n).all fun i => fitB need (C i)
theorem fitN_no {need n k : Nat} {C : Nat → Col} (hk : k < n) (h : fitB need (C k) = false) : fitN need n C = false := by
 unfold fitN
 rw [Bool.eq_false_iff]
 intro e
 rw [List.all_eq_true] at e
 have := e k (List.mem_range.2 hk)
 rw [h] at this; cases this
theorem fitN_yes {need n : Nat} {C : Nat → Col} (h : ∀ k, k < n → fitB need (C k) = true) : fitN need n C = true := by
 unfold fitN
 rw [List.all_eq_true]
 exact fun i hi => h i (List.mem_range.1 hi)
theorem mayB_fit (c k r dn bn : Nat) (C : Nat → Col) : mayB c k r dn bn C = (decide (dn = c) && (decide (bn = c) && fitN (4 + r * k) dn C)) := rfl
end Ro
theorem drewN16 (w : World) (q : Nat) : Below w.heap.size w (w.drewN q) := ⟨rfl, rfl, rfl, Nat.le_refl _, fun _ _ => rfl⟩
set_option maxRecDepth 100000 in
set_option maxHeartbeats 1000000 in
theorem mayOne16 (need : Nat) (x : Ro.Col) (B : Nat) (w : World) (hB : w.cell? ⟨B, 0, none⟩ = some (.int .i64 (need : Int))) (hx : ∀ p D, x = some (p, D) → ∃ F, DriveAt w p D F) :
  Calls Tryz.prog 57 #[Ro.ptr x, .pointer (some ⟨B, 0, none⟩)] w fun e w' => e = .returned (.bool (!Ro.fitB need x)) ∧ Below w.heap.size w w' := by
 cases hC : x with
 | none =>
  simp only [Ro.ptr]
  go_enter Tryz.func57, Tryz.ntmps57
  go_wp2_with fail
  go_quiet (fail)
  go_wp2_with fail
  go_ret
  exact ⟨rfl, drewN16 _ _⟩
 | some x =>
  obtain ⟨p, D⟩ := x
  simp only [Ro.ptr]
  obtain ⟨F, hF⟩ := hx p D hC
  have E : Hid (Ro.fitB need (some (p, D)) = decide (need ≤ D.n)) := rfl
  have HS : Hid (∀ q, Calls Tryz.prog 58 #[.pointer (some ⟨p, 0, none⟩)] (w.drewN q) fun e w' => e = .returned (.int .i64 (D.n : Nat)) ∧ w' = w.drewN q) := fun q => sects16_any (hF.below (drewN16 w q))
  obtain ⟨m, hm⟩ : ∃ m, D.n = m := ⟨_, rfl⟩
  rw [hm] at HS E
  clear hm hF hx hC
  by_cases hlt : m < need
  ·have h1 : decide ((m : Int) < (need : Int)) = true := decide_eq_true (by omega)
   have E2 : Hid ((!Ro.fitB need (some (p, D))) = true) := by show _ = _; rw [E.out, decide_eq_false (by omega)]; rfl
   go_enter Tryz.func57, Tryz.ntmps57
   go_wp2_with fail
   go_quiet ((go_at_call 58; refine Calls.quiet_of_same (HS.out _)))
   go_wp2_with fail
   go_ret
   exact ⟨ret_bool E2.out.symm, drewN16 _ _⟩
  ·have h1 : decide ((m : Int) < (need : Int)) = false := decide_eq_false (by omega)
   have E2 : Hid ((!Ro.fitB need (some (p, D))) = false) := by show _ = _; rw [E.out, decide_eq_true (by omega)]; rfl
   go_enter Tryz.func57, Tryz.ntmps57
   go_wp2_with fail
   go_quiet ((go_at_call 58; refine Calls.quiet_of_same (HS.out _)))
   go_wp2_with fail
   go_ret
   exact ⟨ret_bool E2.out.symm, drewN16 _ _⟩
section
variable {c k r : Nat} {da ba : Option Addr} {dn dcap bn bcap : Nat} {C : Nat → Ro.Col} {bf : Nat → Int}
set_option maxRecDepth 100000 in
set_option maxHeartbeats 1000000 in
theorem IndexFunc16 (need B n cap : Nat) (a : Option Addr) (hn : n ≤ 1000000) (w : World) (hB : w.cell? ⟨B, 0, none⟩ = some (.int .i64 (need : Int))) (hr : RowP w a n C) (hd : ∀ i p D, i < n → C i = some (p, D) → ∃ F, DriveAt w p D F) :
  Calls Tryz.prog 90 #[.slice a n cap, .func (.func 57) #[] #[.pointer (some ⟨B, 0, none⟩)]] w fun e w' => (∃ z : Int, e = .returned (.int .i64 z) ∧ ((Ro.fitN need n C = false ∧ 0 ≤ z ∧ z ≤ 1000000) ∨ (Ro.fitN need n C = true ∧ z = -1))) ∧ Below w.heap.size w w' := by
 have hO := fun (W : World) (hW : Below w.heap.size w W) (j : Nat) (hj : j < n) => mayOne16 need (C j) B W ((hW.cell (p := ⟨B, 0, none⟩) (World.block_lt_of_cell? w _ hB)).trans hB) (fun p D e => by obtain ⟨F, hF⟩ := hd j p D hj e; exact ⟨F, (drvT p D).below hF hW⟩)
 clear hd hB
 go_enter Tryz.func90, Tryz.ntmps90
 go_wp2
 go_loopg [8] n (fun gg i wr => ∃ k : Nat, k ≤ n ∧ gg = n - k ∧ i = .int .i64 k ∧ Below w.heap.size w wr ∧ ∀ j, j < k → Ro.fitB need (C j) = true)
 case atStart => exact ⟨0, Nat.zero_le _, rfl, rfl, Below.refl _ _, fun j hj => absurd hj (Nat.not_lt_zero _)⟩
 case round =>
  obtain ⟨k, hk, rfl, rfl, hbw, hh⟩ := hrel
  have HBW : Hid (Below w.heap.size w wr) := hbw
  have HH : Hid (∀ j, j < k → Ro.fitB need (C j) = true) := hh
  clear hh
  by_cases hkn : k < n
  ·obtain ⟨b, o, rfl, hc⟩ := hr k hkn
   have hOk := hO wr hbw k hkn
   have hc := (hbw.cell (p := ⟨b, o + k, none⟩) (World.block_lt_of_cell? w _ hc)).trans hc
   obtain ⟨pk, hpk⟩ := ptr_shape16 (C k)
   rw [hpk] at hc hOk
   clear hpk hbw
   cases he : Ro.fitB need (C k) with
   | false =>
    have E : Hid (Ro.fitN need n C = false) := Ro.fitN_no hkn he
    rw [he] at hOk
    clear he
    go_wp2_with fail
    refine hOk.mono ?_
    rintro e w' ⟨rfl, hw⟩
    have HW : Hid (Below w.heap.size w w') := HBW.out.trans (hw.mono HBW.out.size)
    clear hw
    go_wp2
    go_ret
    exact ⟨⟨(k : Int), rfl, .inl ⟨E.out, by omega, by omega⟩⟩, HW.out⟩
   | true =>
    have E : Hid (∀ j, j < k + 1 → Ro.fitB need (C j) = true) := fun j hj => by
     by_cases e : j = k
     ·rw [e]; exact he
     ·exact HH.out j (by omega)
    rw [he] at hOk
    clear he
    go_wp2_with fail
    refine hOk.mono ?_
    rintro e w' ⟨rfl, hw⟩
    have HW : Hid (Below w.heap.size w w') := HBW.out.trans (hw.mono HBW.out.size)
    clear hw
    go_wp2
    go_roundg (n - (k + 1))
    case measure => omega
    case rel => exact ⟨k + 1, by omega, rfl, by go_num, HW.out, E.out⟩
  ·have hkk : k = n := by omega
   subst hkk
   have E : Hid (Ro.fitN need k C = true) := Ro.fitN_yes HH.out
   go_wp2
   go_ret
   exact ⟨⟨-1, rfl, .inr ⟨E.out, rfl⟩⟩, HBW.out⟩
set_option maxRecDepth 100000 in
set_option maxHeartbeats 1000000 in
theorem ContainsFunc16 (need B n cap : Nat) (a : Option Addr) (hn : n ≤ 1000000) (w : World) (hB : w.cell? ⟨B, 0, none⟩ = some (.int .i64 (need : Int))) (hr : RowP w a n C) (hd : ∀ i p D, i < n → C i = some (p, D) → ∃ F, DriveAt w p D F) :
  Calls Tryz.prog 56 #[.slice a n cap, .func (.func 57) #[] #[.pointer (some ⟨B, 0, none⟩)]] w fun e w' => e = .returned (.bool (!Ro.fitN need n C)) ∧ Below w.heap.size w w' := by
 have h := IndexFunc16 (C := C) need B n cap a hn w hB hr hd
 clear hd hB hr
 go_enter Tryz.func56, Tryz.ntmps56
 go_wp2_with fail
 refine h.mono ?_
 rintro e w1 ⟨⟨z, rfl, hz⟩, hw⟩
 have HW : Hid (Below w.heap.size w w1) := hw
 clear h hw
 rcases hz with ⟨hh, h0, h1⟩ | ⟨hh, rfl⟩
 ·have E : Hid (Ro.fitN need n C = false) := hh
  clear hh
  have h2 : decide ((0 : Int) ≤ z) = true := decide_eq_true h0
  go_wp2
  go_ret
  exact ⟨ret_bool (by rw [E.out]; rfl), HW.out⟩
 ·have E : Hid (Ro.fitN need n C = true) := hh
  clear hh
  go_wp2
  go_ret
  exact ⟨ret_bool (by rw [E.out]; rfl), HW.out⟩
set_option maxRecDepth 100000 in
set_option maxHeartbeats 4000000 in
theorem may16_any (hok : Lay.ok (c : Int) (k : Int) (r : Int)) (hdn : dn ≤ 1000000) (w : World) (h : PrSet w da dn ba bn C bf) :
  Calls Tryz.prog 22 #[.agg #[.int .i64 (c : Int), .int .i64 (k : Int), .int .i64 (r : Int), .slice da dn dcap, .slice ba bn bcap]] w fun e w' => e = .returned (.bool (Ro.mayB c k r dn bn C)) ∧ Below w.heap.size w w' := by
 have X0 : Hid (At5 w w.heap.size c k r (.slice da dn dcap) (.slice ba bn bcap) (w.alloc (.cells #[.int .i64 (c : Int), .int .i64 (k : Int), .int .i64 (r : Int), .slice da dn dcap, .slice ba bn bcap] 30))) := At5.new _ _ _ _ _ _ _
 have HCH : Hid (∀ W, Calls Tryz.prog 54 #[.agg #[.int .i64 (c : Int), .int .i64 (k : Int), .int .i64 (r : Int)]] W fun e w' => e = .returned (.int .i64 0) ∧ Below W.heap.size W w') := fun W => by
  have h := Check_any (c : Int) (k : Int) (r : Int) W
  rw [show Lay.checkI (c : Int) (k : Int) (r : Int) = 0 from if_pos hok] at h
  exact h
 have HND : Hid (∀ W, Calls Tryz.prog 55 #[.agg #[.int .i64 (c : Int), .int .i64 (k : Int), .int .i64 (r : Int)]] W fun e w' => e = .returned (.int .i64 ((4 + r * k : Nat) : Int)) ∧ Below W.heap.size W w') := fun W => by
  have h := Need_any (c : Int) (k : Int) (r : Int) W
  rw [show Lay.needI (c : Int) (k : Int) (r : Int) = ((4 + r * k : Nat) : Int) from (if_pos hok).trans (by rw [Int.natCast_add, Int.natCast_mul]; rfl)] at h
  exact h
 have EM : Hid (Ro.mayB c k r dn bn C = (decide (dn = c) && (decide (bn = c) && Ro.fitN (4 + r * k) dn C))) := Ro.mayB_fit c k r dn bn C
 have hlast : w.heap.size < (w.alloc (.cells #[.int .i64 (c : Int), .int .i64 (k : Int), .int .i64 (r : Int), .slice da dn dcap, .slice ba bn bcap] 30)).heap.size := World.block_lt_of_cell? _ _ X0.out.1
 obtain ⟨k0, k1, k2, k3, k4, _⟩ := X0.out
 have H : Hid (PrSet w da dn ba bn C bf) := h
 obtain ⟨nd, hnd⟩ : ∃ nd, 4 + r * k = nd := ⟨_, rfl⟩
 rw [hnd] at HND EM
 clear hok h hnd
 by_cases h1 : dn = c
 ·have v1 : ((dn : Int) != (c : Int)) = false := by rw [bne_eq_false_iff_eq]; omega
  by_cases h2 : bn = c
  ·have v2 : ((bn : Int) != (c : Int)) = false := by rw [bne_eq_false_iff_eq]; omega
   have EM2 : Hid (Ro.mayB c k r dn bn C = Ro.fitN nd dn C) := by show _ = _; rw [EM.out, decide_eq_true h1, decide_eq_true h2]; rfl
   clear h1 h2 EM
   go_enter Tryz.func22, Tryz.ntmps22
   go_wp2_with fail
   refine (HCH.out _).mono ?_
   rintro e w1 ⟨rfl, hb1⟩
   have A1 : Hid (At5 w w.heap.size c k r (.slice da dn dcap) (.slice ba bn bcap) w1) := X0.out.kept hb1
   have hl1 : w.heap.size < w1.heap.size := World.block_lt_of_cell? _ _ A1.out.1
   obtain ⟨m0, m1, m2, m3, m4, _⟩ := A1.out
   clear hb1 k0 k1 k2 k3 k4 hlast
   go_wp2_with fail
   refine (HND.out _).mono ?_
   rintro e w2 ⟨rfl, hb2⟩
   have A2 : Hid (At5 w w.heap.size c k r (.slice da dn dcap) (.slice ba bn bcap) w2) := A1.out.kept hb2
   have hl2 : w.heap.size < w2.heap.size := World.block_lt_of_cell? _ _ A2.out.1
   obtain ⟨n0, n1, n2, n3, n4, _⟩ := A2.out
   have b3 : Below w2.heap.size w2 (w2.alloc (.cells #[.int .i64 (nd : Int)] 3)) := (Below.refl _ _).alloc (Nat.le_refl _) _
   have A3 : Hid (At5 w w.heap.size c k r (.slice da dn dcap) (.slice ba bn bcap) (w2.alloc (.cells #[.int .i64 (nd : Int)] 3))) := A2.out.kept b3
   have hs3 := H.out.below A3.out.2.2.2.2.2
   have hct := ContainsFunc16 (C := C) nd w2.heap.size dn dcap da hdn (w2.alloc (.cells #[.int .i64 (nd : Int)] 3)) (World.cell?_alloc_mark w2 _ _ (0, 0) 0) hs3.row (fun i p D hi e => hs3.drv i p D hi e)
   have HCT : Hid (Calls Tryz.prog 56 #[.slice da dn dcap, .func (.func 57) #[] #[.pointer (some ⟨w2.heap.size, 0, none⟩)]] (w2.alloc (.cells #[.int .i64 (nd : Int)] 3)) fun e w' => e = .returned (.bool (!Ro.fitN nd dn C)) ∧ Below (w2.alloc (.cells #[.int .i64 (nd : Int)] 3)).heap.size (w2.alloc (.cells #[.int .i64 (nd : Int)] 3)) w') := hct
   clear hb2 m0 m1 m2 m3 m4 hl1 b3 hs3 hct
   go_wp2_with fail
   refine HCT.out.mono ?_
   rintro e w4 ⟨rfl, hb4⟩
   have B4 : Hid (Below w.heap.size w w4) := (A3.out.kept hb4).2.2.2.2.2
   clear hb4
   go_wp2
   go_ret
   exact ⟨ret_bool (by rw [EM2.out]), B4.out⟩
  ·have v2 : ((bn : Int) != (c : Int)) = true := by rw [bne_iff_ne]; omega
   have EM2 : Hid (Ro.mayB c k r dn bn C = false) := by show _ = _; rw [EM.out, decide_eq_false h2]; simp
   clear h1 h2 EM
   go_enter Tryz.func22, Tryz.ntmps22
   go_wp2_with fail
   refine (HCH.out _).mono ?_
   rintro e w1 ⟨rfl, hb1⟩
   have A1 : Hid (At5 w w.heap.size c k r (.slice da dn dcap) (.slice ba bn bcap) w1) := X0.out.kept hb1
   have hl1 : w.heap.size < w1.heap.size := World.block_lt_of_cell? _ _ A1.out.1
   obtain ⟨m0, m1, m2, m3, m4, _⟩ := A1.out
   clear hb1 k0 k1 k2 k3 k4 hlast
   go_wp2
   go_ret
   exact ⟨ret_bool EM2.out.symm, A1.out.2.2.2.2.2⟩
 ·have v1 : ((dn : Int) != (c : Int)) = true := by rw [bne_iff_ne]; omega
  have EM2 : Hid (Ro.mayB c k r dn bn C = false) := by show _ = _; rw [EM.out, decide_eq_false h1]; simp
  clear h1 EM
  go_enter Tryz.func22, Tryz.ntmps22
  go_wp2_with fail
  refine (HCH.out _).mono ?_
  rintro e w1 ⟨rfl, hb1⟩
  have A1 : Hid (At5 w w.heap.size c k r (.slice da dn dcap) (.slice ba bn bcap) w1) := X0.out.kept hb1
  have hl1 : w.heap.size < w1.heap.size := World.block_lt_of_cell? _ _ A1.out.1
  obtain ⟨m0, m1, m2, m3, m4, _⟩ := A1.out
  clear hb1 k0 k1 k2 k3 k4 hlast
  go_wp2
  go_ret
  exact ⟨ret_bool EM2.out.symm, A1.out.2.2.2.2.2⟩
end
end Go.Proofs.YtdgkhjgnjfgnlaaGreat
namespace Go.Proofs.YtdgkhjgnjfgnlaaGreat
open Go.RowKit
attribute [local go_sem] Oper.semAt_some
structure Box7 (w : World) (b : Nat) (c0 c1 c2 c3 c4 c5 c6 : Value) : Prop where
 k0 : w.cell? ⟨b, 0, none⟩ = some c0
 k1 : w.cell? ⟨b, 1, none⟩ = some c1
 k2 : w.cell? ⟨b, 2, none⟩ = some c2
 k3 : w.cell? ⟨b, 3, none⟩ = some c3
 k4 : w.cell? ⟨b, 4, none⟩ = some c4
 k5 : w.cell? ⟨b, 5, none⟩ = some c5
 k6 : w.cell? ⟨b, 6, none⟩ = some c6
 fz : ∀ j, w.frozen? ⟨b, j, none⟩ = false
def put7 (w : World) (b : Nat) (d0 d1 d2 d3 d4 d5 d6 : Value) : World :=
 ((((((w.setCell ⟨b, 0, none⟩ d0).setCell ⟨b, 1, none⟩ d1).setCell ⟨b, 2, none⟩ d2).setCell ⟨b, 3, none⟩ d3).setCell ⟨b, 4, none⟩ d4).setCell ⟨b, 5, none⟩ d5).setCell ⟨b, 6, none⟩ d6
namespace Box7
variable {w w' : World} {b B : Nat} {c0 c1 c2 c3 c4 c5 c6 : Value}
theorem new (w : World) (t : TypeId) (c0 c1 c2 c3 c4 c5 c6 : Value) : Box7 (w.alloc (.cells #[c0, c1, c2, c3, c4, c5, c6] t)) w.heap.size c0 c1 c2 c3 c4 c5 c6 :=
 ⟨World.cell?_alloc_mark w _ t (0, 0) 0, World.cell?_alloc_mark w _ t (0, 0) 1, World.cell?_alloc_mark w _ t (0, 0) 2, World.cell?_alloc_mark w _ t (0, 0) 3, World.cell?_alloc_mark w _ t (0, 0) 4, World.cell?_alloc_mark w _ t (0, 0) 5, World.cell?_alloc_mark w _ t (0, 0) 6, fun j => by rw [World.frozen?_alloc_mark]; simp⟩
theorem lt (h : Box7 w b c0 c1 c2 c3 c4 c5 c6) : b < w.heap.size := World.block_lt_of_cell? w _ h.k0
theorem below (h : Box7 w b c0 c1 c2 c3 c4 c5 c6) (hb : Below B w w') (hB : b < B) : Box7 w' b c0 c1 c2 c3 c4 c5 c6 :=
 ⟨(hb.cell (p := ⟨b, 0, none⟩) hB).trans h.k0, (hb.cell (p := ⟨b, 1, none⟩) hB).trans h.k1, (hb.cell (p := ⟨b, 2, none⟩) hB).trans h.k2, (hb.cell (p := ⟨b, 3, none⟩) hB).trans h.k3, (hb.cell (p := ⟨b, 4, none⟩) hB).trans h.k4, (hb.cell (p := ⟨b, 5, none⟩) hB).trans h.k5, (hb.cell (p := ⟨b, 6, none⟩) hB).trans h.k6, fun j => (hb.frozen (p := ⟨b, j, none⟩) hB).trans (h.fz j)⟩
theorem kept (h : Box7 w b c0 c1 c2 c3 c4 c5 c6) (hb : Below w.heap.size w w') : Box7 w' b c0 c1 c2 c3 c4 c5 c6 := h.below hb h.lt
theorem stored (h : Box7 w b c0 c1 c2 c3 c4 c5 c6) (d0 d1 d2 d3 d4 d5 d6 : Value) : Box7 (put7 w b d0 d1 d2 d3 d4 d5 d6) b d0 d1 d2 d3 d4 d5 d6 := by
 have o : ∀ (W : World) (i j : Nat) (x : Value), i ≠ j → (W.setCell ⟨b, i, none⟩ x).cell? ⟨b, j, none⟩ = W.cell? ⟨b, j, none⟩ := fun W i j x h => World.cell?_setCell_other _ _ _ _ (fun e => h (by injection e))
 have s : ∀ (W : World) (j : Nat) (x y : Value), W.cell? ⟨b, j, none⟩ = some y → (W.setCell ⟨b, j, none⟩ x).cell? ⟨b, j, none⟩ = some x := fun W j x y h => World.cell?_setCell_same _ _ _ h
 unfold put7
 refine ⟨?_, ?_, ?_, ?_, ?_, ?_, ?_, fun j => by simp only [World.frozen?_setCell]; exact h.fz j⟩
 ·rw [o _ 6 0 _ (by decide), o _ 5 0 _ (by decide), o _ 4 0 _ (by decide), o _ 3 0 _ (by decide), o _ 2 0 _ (by decide), o _ 1 0 _ (by decide)]; exact s _ 0 _ _ h.k0
 ·rw [o _ 6 1 _ (by decide), o _ 5 1 _ (by decide), o _ 4 1 _ (by decide), o _ 3 1 _ (by decide), o _ 2 1 _ (by decide)]; exact s _ 1 _ _ ((o _ 0 1 _ (by decide)).trans h.k1)
 ·rw [o _ 6 2 _ (by decide), o _ 5 2 _ (by decide), o _ 4 2 _ (by decide), o _ 3 2 _ (by decide)]; exact s _ 2 _ _ ((o _ 1 2 _ (by decide)).trans ((o _ 0 2 _ (by decide)).trans h.k2))
 ·rw [o _ 6 3 _ (by decide), o _ 5 3 _ (by decide), o _ 4 3 _ (by decide)]; exact s _ 3 _ _ ((o _ 2 3 _ (by decide)).trans ((o _ 1 3 _ (by decide)).trans ((o _ 0 3 _ (by decide)).trans h.k3)))
 ·rw [o _ 6 4 _ (by decide), o _ 5 4 _ (by decide)]; exact s _ 4 _ _ ((o _ 3 4 _ (by decide)).trans ((o _ 2 4 _ (by decide)).trans ((o _ 1 4 _ (by decide)).trans ((o _ 0 4 _ (by decide)).trans h.k4))))
 ·rw [o _ 6 5 _ (by decide)]; exact s _ 5 _ _ ((o _ 4 5 _ (by decide)).trans ((o _ 3 5 _ (by decide)).trans ((o _ 2 5 _ (by decide)).trans ((o _ 1 5 _ (by decide)).trans ((o _ 0 5 _ (by decide)).trans h.k5)))))
 ·exact s _ 6 _ _ ((o _ 5 6 _ (by decide)).trans ((o _ 4 6 _ (by decide)).trans ((o _ 3 6 _ (by decide)).trans ((o _ 2 6 _ (by decide)).trans ((o _ 1 6 _ (by decide)).trans ((o _ 0 6 _ (by decide)).trans h.k6))))))
theorem range (h : Box7 w b c0 c1 c2 c3 c4 c5 c6) : w.rangeAt b 0 [c0, c1, c2, c3, c4, c5, c6] := fun j v hv => by
 rcases j with _ | _ | _ | _ | _ | _ | _ | j
 ·have e : some c0 = some v := hv
  rw [← e]; exact h.k0
 ·have e : some c1 = some v := hv
  rw [← e]; exact h.k1
 ·have e : some c2 = some v := hv
  rw [← e]; exact h.k2
 ·have e : some c3 = some v := hv
  rw [← e]; exact h.k3
 ·have e : some c4 = some v := hv
  rw [← e]; exact h.k4
 ·have e : some c5 = some v := hv
  rw [← e]; exact h.k5
 ·have e : some c6 = some v := hv
  rw [← e]; exact h.k6
 ·have e : (none : Option Value) = some v := hv
  cases e
end Box7
theorem put7_below {w : World} {b B : Nat} (hB : B ≤ b) (d0 d1 d2 d3 d4 d5 d6 : Value) : Below B w (put7 w b d0 d1 d2 d3 d4 d5 d6) :=
 ((((((((Below.refl B w).setCell (p := ⟨b, 0, none⟩) hB d0).setCell (p := ⟨b, 1, none⟩) hB d1).setCell (p := ⟨b, 2, none⟩) hB d2).setCell (p := ⟨b, 3, none⟩) hB d3).setCell (p := ⟨b, 4, none⟩) hB d4).setCell (p := ⟨b, 5, none⟩) hB d5).setCell (p := ⟨b, 6, none⟩) hB d6)
theorem results_cell_slot16 {P : Program} {fn : Func} {p q : Tmp} {ty : TypeId} (h : fn.results = #[.cell p ty, .tmp q]) (tmps : Array Value) (w : World) (g o : Nat) (cs : List Value) (d : TypeDesc)
  (hp : tmps.getD p undef = .pointer (some ⟨g, o, none⟩)) (hg : w.rangeAt g o cs) (hu : P.underlying ty = some d) (hd : d.isRow = true) (hi : (P.info? ty).map (·.size) = some cs.length) :
  (results fn tmps).run P w = .ok (.tuple #[.agg cs.toArray, tmps.getD q undef]) w := by
 have hp' : tmps[p]?.getD undef = .pointer (some ⟨g, o, none⟩) := by simpa using hp
 simp [results, h, hp', asAddr, run_loadVar_mid w g o ty cs d hg hu hd hi]
theorem place16_size : (Tryz.prog.info? 77).map (·.size) = some 7 := by kernel_rfl
section
variable {c k r : Nat} {da ba : Option Addr} {dn dcap bn bcap : Nat} {C : Nat → Ro.Col} {bf : Nat → Int}
set_option maxRecDepth 100000 in
theorem data16_any (hok : Lay.ok (c : Int) (k : Int) (r : Int)) (row off : Nat) (w : World) :
  Calls Tryz.prog 50 #[.agg #[.int .i64 (c : Int), .int .i64 (k : Int), .int .i64 (r : Int), .slice da c dcap, .slice ba c bcap, .int .i64 (row : Int), .int .i64 (off : Int)]] w fun e w' => e = .returned (.int .i64 ((c - 2 : Nat) : Int)) ∧ Below w.heap.size w w' := by
 have X0 : Hid (Below w.heap.size w (w.alloc (.cells #[.int .i64 (c : Int), .int .i64 (k : Int), .int .i64 (r : Int), .slice da c dcap, .slice ba c bcap, .int .i64 (row : Int), .int .i64 (off : Int)] 77))) := (Below.refl _ _).alloc (Nat.le_refl _) _
 have h1 : 4 ≤ c := by have := hok.1; omega
 have h2 : c ≤ 10 := by have := hok.1; omega
 have E : Hid ((c : Int) - 2 = ((c - 2 : Nat) : Int)) := by show _ = _; omega
 clear hok
 go_enter Tryz.func50, Tryz.ntmps50
 go_wp2
 go_ret
 exact ⟨ret_int (by rw [E.out]), X0.out⟩
set_option maxRecDepth 100000 in
theorem sector16_any (hok : Lay.ok (c : Int) (k : Int) (r : Int)) (row off : Nat) (hr : row < r) (ho : off < k) (w : World) :
  Calls Tryz.prog 67 #[.agg #[.int .i64 (c : Int), .int .i64 (k : Int), .int .i64 (r : Int), .slice da c dcap, .slice ba c bcap, .int .i64 (row : Int), .int .i64 (off : Int)]] w fun e w' => e = .returned (.int .i64 (4 + (row : Int) * (k : Int) + (off : Int))) ∧ Below w.heap.size w w' := by
 have X0 : Hid (Below w.heap.size w (w.alloc (.cells #[.int .i64 (c : Int), .int .i64 (k : Int), .int .i64 (r : Int), .slice da c dcap, .slice ba c bcap, .int .i64 (row : Int), .int .i64 (off : Int)] 77))) := (Below.refl _ _).alloc (Nat.le_refl _) _
 have HS : Hid (∀ W, Calls Tryz.prog 97 #[.agg #[.int .i64 (c : Int), .int .i64 (k : Int), .int .i64 (r : Int)], .int .i64 (row : Int), .int .i64 (off : Int)] W fun e w' => e = .returned (.int .i64 (4 + (row : Int) * (k : Int) + (off : Int))) ∧ Below W.heap.size W w') := fun W => by
  have h := Sector_any (c : Int) (k : Int) (r : Int) (row : Int) (off : Int) W
  rw [show Lay.sectI (c : Int) (k : Int) (r : Int) (row : Int) (off : Int) = 4 + (row : Int) * (k : Int) + (off : Int) from if_pos ⟨⟨hok, by omega, by omega⟩, by omega, by omega⟩] at h
  exact h
 obtain ⟨x, hx⟩ : ∃ x, 4 + (row : Int) * (k : Int) + (off : Int) = x := ⟨_, rfl⟩
 rw [hx] at HS ⊢
 clear hok hr ho hx
 go_enter Tryz.func67, Tryz.ntmps67
 go_wp2_with fail
 refine (HS.out _).mono ?_
 rintro e w1 ⟨rfl, hb1⟩
 have B1 : Hid (Below w.heap.size w w1) := X0.out.trans (hb1.mono X0.out.size)
 clear hb1
 go_wp2
 go_ret
 exact ⟨rfl, B1.out⟩
set_option maxRecDepth 100000 in
set_option maxHeartbeats 4000000 in
theorem column16_any (hok : Lay.ok (c : Int) (k : Int) (r : Int)) (row off role : Nat) (hr : row < r) (hro : role < c) (w : World) :
  Calls Tryz.prog 51 #[.agg #[.int .i64 (c : Int), .int .i64 (k : Int), .int .i64 (r : Int), .slice da c dcap, .slice ba c bcap, .int .i64 (row : Int), .int .i64 (off : Int)], .int .i64 (role : Int)] w fun e w' => e = .returned (.int .i64 ((Ro.colN c row role : Nat) : Int)) ∧ Below w.heap.size w w' := by
 have h1 : 4 ≤ c := by have := hok.1; omega
 have h2 : c ≤ 10 := by have := hok.1; omega
 obtain ⟨zP, hzP⟩ : ∃ z, Ro.colN c row (c - 2) = z := ⟨_, rfl⟩
 obtain ⟨zQ, hzQ⟩ : ∃ z, Ro.colN c row (c - 1) = z := ⟨_, rfl⟩
 have HPAR : Hid (∀ W, Calls Tryz.prog 86 #[.agg #[.int .i64 (c : Int), .int .i64 (k : Int), .int .i64 (r : Int)], .int .i64 (row : Int)] W fun e w' => e = .returned (.tuple #[.int .i64 (zP : Int), .int .i64 (zQ : Int)]) ∧ Below W.heap.size W w') := fun W => by
  have h := Parity_any (c : Int) (k : Int) (r : Int) (row : Int) W
  rw [Ro.parP_eq hok hr, Ro.parQ_eq hok hr, hzP, hzQ] at h
  exact h
 obtain ⟨m, hm⟩ : ∃ m, c - 2 = m := ⟨_, rfl⟩
 have HD : Hid (∀ W, Calls Tryz.prog 50 #[.agg #[.int .i64 (c : Int), .int .i64 (k : Int), .int .i64 (r : Int), .slice da c dcap, .slice ba c bcap, .int .i64 (row : Int), .int .i64 (off : Int)]] W fun e w' => e = .returned (.int .i64 (m : Int)) ∧ Below W.heap.size W w') := fun W => by
  rw [← hm]; exact data16_any hok row off W
 have B0 := Box7.new w 77 (.int .i64 (c : Int)) (.int .i64 (k : Int)) (.int .i64 (r : Int)) (.slice da c dcap) (.slice ba c bcap) (.int .i64 (row : Int)) (.int .i64 (off : Int))
 have X0 : Hid (Below w.heap.size w (w.alloc (.cells #[.int .i64 (c : Int), .int .i64 (k : Int), .int .i64 (r : Int), .slice da c dcap, .slice ba c bcap, .int .i64 (row : Int), .int .i64 (off : Int)] 77))) := (Below.refl _ _).alloc (Nat.le_refl _) _
 have HB0 : Hid (Box7 (w.alloc (.cells #[.int .i64 (c : Int), .int .i64 (k : Int), .int .i64 (r : Int), .slice da c dcap, .slice ba c bcap, .int .i64 (row : Int), .int .i64 (off : Int)] 77)) w.heap.size _ _ _ _ _ _ _) := B0
 obtain ⟨k0, k1, k2, k3, k4, k5, k6, _⟩ := B0
 have hlast : w.heap.size < (w.alloc (.cells #[.int .i64 (c : Int), .int .i64 (k : Int), .int .i64 (r : Int), .slice da c dcap, .slice ba c bcap, .int .i64 (row : Int), .int .i64 (off : Int)] 77)).heap.size := HB0.out.lt
 have hm8 : m ≤ 8 := by omega
 by_cases e0 : role = c - 2
 ·have v0 : ((role : Int) - (m : Int) == 0) = true := by rw [beq_iff_eq]; omega
  have E : Hid (Ro.colN c row role = zP) := by show _ = _; rw [e0]; exact hzP
  clear hok hr hzP hzQ hm e0
  go_enter Tryz.func51, Tryz.ntmps51
  go_wp2_with fail
  refine (HPAR.out _).mono ?_
  rintro e w1 ⟨rfl, hb1⟩
  have B1 : Hid (Below w.heap.size w w1) := X0.out.trans (hb1.mono X0.out.size)
  have K1 : Hid (Box7 w1 w.heap.size _ _ _ _ _ _ _) := HB0.out.kept hb1
  have hl1 : w.heap.size < w1.heap.size := K1.out.lt
  obtain ⟨m0, m1, m2, m3, m4, m5, m6, _⟩ := K1.out
  clear hb1 k0 k1 k2 k3 k4 k5 k6 hlast
  go_wp2_with fail
  refine (HD.out _).mono ?_
  rintro e w2 ⟨rfl, hb2⟩
  have B2 : Hid (Below w.heap.size w w2) := B1.out.trans (hb2.mono B1.out.size)
  have K2 : Hid (Box7 w2 w.heap.size _ _ _ _ _ _ _) := K1.out.kept hb2
  have hl2 : w.heap.size < w2.heap.size := K2.out.lt
  obtain ⟨n0, n1, n2, n3, n4, n5, n6, _⟩ := K2.out
  clear hb2 m0 m1 m2 m3 m4 m5 m6 hl1
  go_wp2
  go_ret
  exact ⟨ret_int (by rw [E.out]), B2.out⟩
 ·have v0 : ((role : Int) - (m : Int) == 0) = false := by rw [beq_eq_false_iff_ne]; omega
  by_cases e1 : role = c - 1
  ·have v1 : ((role : Int) - (m : Int) == 1) = true := by rw [beq_iff_eq]; omega
   have E : Hid (Ro.colN c row role = zQ) := by show _ = _; rw [e1]; exact hzQ
   clear hok hr hzP hzQ hm e0 e1
   go_enter Tryz.func51, Tryz.ntmps51
   go_wp2_with fail
   refine (HPAR.out _).mono ?_
   rintro e w1 ⟨rfl, hb1⟩
   have B1 : Hid (Below w.heap.size w w1) := X0.out.trans (hb1.mono X0.out.size)
   have K1 : Hid (Box7 w1 w.heap.size _ _ _ _ _ _ _) := HB0.out.kept hb1
   have hl1 : w.heap.size < w1.heap.size := K1.out.lt
   obtain ⟨m0, m1, m2, m3, m4, m5, m6, _⟩ := K1.out
   clear hb1 k0 k1 k2 k3 k4 k5 k6 hlast
   go_wp2_with fail
   refine (HD.out _).mono ?_
   rintro e w2 ⟨rfl, hb2⟩
   have B2 : Hid (Below w.heap.size w w2) := B1.out.trans (hb2.mono B1.out.size)
   have K2 : Hid (Box7 w2 w.heap.size _ _ _ _ _ _ _) := K1.out.kept hb2
   have hl2 : w.heap.size < w2.heap.size := K2.out.lt
   obtain ⟨n0, n1, n2, n3, n4, n5, n6, _⟩ := K2.out
   clear hb2 m0 m1 m2 m3 m4 m5 m6 hl1
   go_wp2
   go_ret
   exact ⟨ret_int (by rw [E.out]), B2.out⟩
  ·have v1 : ((role : Int) - (m : Int) == 1) = false := by rw [beq_eq_false_iff_ne]; omega
   have HC : Hid (∀ W, Calls Tryz.prog 87 #[.agg #[.int .i64 (c : Int), .int .i64 (k : Int), .int .i64 (r : Int)], .int .i64 (row : Int), .int .i64 (role : Int)] W fun e w' => e = .returned (.int .i64 ((Ro.colN c row role : Nat) : Int)) ∧ Below W.heap.size W w') := fun W => by
    have h := Column_any (c : Int) (k : Int) (r : Int) (row : Int) (role : Int) W
    rw [Ro.col_eq hok hr (by omega)] at h
    exact h
   obtain ⟨z, hz⟩ : ∃ z, Ro.colN c row role = z := ⟨_, rfl⟩
   rw [hz] at HC ⊢
   clear hok hr hzP hzQ hm e0 e1 hz
   go_enter Tryz.func51, Tryz.ntmps51
   go_wp2_with fail
   refine (HPAR.out _).mono ?_
   rintro e w1 ⟨rfl, hb1⟩
   have B1 : Hid (Below w.heap.size w w1) := X0.out.trans (hb1.mono X0.out.size)
   have K1 : Hid (Box7 w1 w.heap.size _ _ _ _ _ _ _) := HB0.out.kept hb1
   have hl1 : w.heap.size < w1.heap.size := K1.out.lt
   obtain ⟨m0, m1, m2, m3, m4, m5, m6, _⟩ := K1.out
   clear hb1 k0 k1 k2 k3 k4 k5 k6 hlast
   go_wp2_with fail
   refine (HD.out _).mono ?_
   rintro e w2 ⟨rfl, hb2⟩
   have B2 : Hid (Below w.heap.size w w2) := B1.out.trans (hb2.mono B1.out.size)
   have K2 : Hid (Box7 w2 w.heap.size _ _ _ _ _ _ _) := K1.out.kept hb2
   have hl2 : w.heap.size < w2.heap.size := K2.out.lt
   obtain ⟨n0, n1, n2, n3, n4, n5, n6, _⟩ := K2.out
   clear hb2 m0 m1 m2 m3 m4 m5 m6 hl1
   go_wp2_with fail
   refine (HC.out _).mono ?_
   rintro e w3 ⟨rfl, hb3⟩
   have B3 : Hid (Below w.heap.size w w3) := B2.out.trans (hb3.mono B2.out.size)
   clear hb3
   go_wp2
   go_ret
   exact ⟨rfl, B3.out⟩
set_option maxRecDepth 100000 in
set_option maxHeartbeats 8000000 in
theorem placeOf16_no (hok : Lay.ok (c : Int) (k : Int) (r : Int)) (hdn : dn ≤ 1000000) (row off : Int) (w : World) (h : PrSet w da dn ba bn C bf) (hno : Ro.chk c k r dn bn C row off ≠ 0) :
  Calls Tryz.prog 39 #[.agg #[.int .i64 (c : Int), .int .i64 (k : Int), .int .i64 (r : Int), .slice da dn dcap, .slice ba bn bcap], .int .i64 row, .int .i64 off] w fun e w' => e = .returned (.tuple #[.agg #[.int .i64 0, .int .i64 0, .int .i64 0, .slice none 0 0, .slice none 0 0, .int .i64 0, .int .i64 0], .int .i64 (Ro.chk c k r dn bn C row off : Nat)]) ∧ Below w.heap.size w w' := by
 have X0 : Hid (At5 w w.heap.size c k r (.slice da dn dcap) (.slice ba bn bcap) (w.alloc (.cells #[.int .i64 (c : Int), .int .i64 (k : Int), .int .i64 (r : Int), .slice da dn dcap, .slice ba bn bcap] 30))) := At5.new _ _ _ _ _ _ _
 have bz : Below (w.alloc (.cells #[.int .i64 (c : Int), .int .i64 (k : Int), .int .i64 (r : Int), .slice da dn dcap, .slice ba bn bcap] 30)).heap.size (w.alloc (.cells #[.int .i64 (c : Int), .int .i64 (k : Int), .int .i64 (r : Int), .slice da dn dcap, .slice ba bn bcap] 30)) ((w.alloc (.cells #[.int .i64 (c : Int), .int .i64 (k : Int), .int .i64 (r : Int), .slice da dn dcap, .slice ba bn bcap] 30)).alloc (.cells #[.int .i64 0, .int .i64 0, .int .i64 0, .slice none 0 0, .slice none 0 0, .int .i64 0, .int .i64 0] 77)) := (Below.refl _ _).alloc (Nat.le_refl _) _
 have X1 : Hid (At5 w w.heap.size c k r (.slice da dn dcap) (.slice ba bn bcap) ((w.alloc (.cells #[.int .i64 (c : Int), .int .i64 (k : Int), .int .i64 (r : Int), .slice da dn dcap, .slice ba bn bcap] 30)).alloc (.cells #[.int .i64 0, .int .i64 0, .int .i64 0, .slice none 0 0, .slice none 0 0, .int .i64 0, .int .i64 0] 77))) := X0.out.kept bz
 have Z0 := Box7.new (w.alloc (.cells #[.int .i64 (c : Int), .int .i64 (k : Int), .int .i64 (r : Int), .slice da dn dcap, .slice ba bn bcap] 30)) 77 (.int .i64 0) (.int .i64 0) (.int .i64 0) (.slice none 0 0) (.slice none 0 0) (.int .i64 0) (.int .i64 0)
 rw [World.size_alloc] at Z0
 have HZ0 : Hid (Box7 ((w.alloc (.cells #[.int .i64 (c : Int), .int .i64 (k : Int), .int .i64 (r : Int), .slice da dn dcap, .slice ba bn bcap] 30)).alloc (.cells #[.int .i64 0, .int .i64 0, .int .i64 0, .slice none 0 0, .slice none 0 0, .int .i64 0, .int .i64 0] 77)) (w.heap.size + 1) _ _ _ _ _ _ _) := Z0
 have hMAY := may16_any (dcap := dcap) (bcap := bcap) hok hdn _ (h.below X1.out.2.2.2.2.2)
 have hl0 : w.heap.size < ((w.alloc (.cells #[.int .i64 (c : Int), .int .i64 (k : Int), .int .i64 (r : Int), .slice da dn dcap, .slice ba bn bcap] 30)).alloc (.cells #[.int .i64 0, .int .i64 0, .int .i64 0, .slice none 0 0, .slice none 0 0, .int .i64 0, .int .i64 0] 77)).heap.size := World.block_lt_of_cell? _ _ X1.out.1
 obtain ⟨k0, k1, k2, k3, k4, _⟩ := X1.out
 have hk1 : 1 ≤ k := by have := hok.2.1; omega
 have hk2 : k ≤ 4 := by have := hok.2.1; omega
 have hr1 : 1 ≤ r := by have := hok.2.2; omega
 have hr2 : r ≤ 256 := by have := hok.2.2; omega
 cases hmb : Ro.mayB c k r dn bn C with
 | false =>
  have E : Hid (Ro.chk c k r dn bn C row off = 1) := by show _ = _; unfold Ro.chk; rw [hmb]; rfl
  rw [hmb] at hMAY
  have HMAY : Hid (Calls Tryz.prog 22 #[.agg #[.int .i64 (c : Int), .int .i64 (k : Int), .int .i64 (r : Int), .slice da dn dcap, .slice ba bn bcap]] ((w.alloc (.cells #[.int .i64 (c : Int), .int .i64 (k : Int), .int .i64 (r : Int), .slice da dn dcap, .slice ba bn bcap] 30)).alloc (.cells #[.int .i64 0, .int .i64 0, .int .i64 0, .slice none 0 0, .slice none 0 0, .int .i64 0, .int .i64 0] 77)) fun e w' => e = .returned (.bool false) ∧ Below ((w.alloc (.cells #[.int .i64 (c : Int), .int .i64 (k : Int), .int .i64 (r : Int), .slice da dn dcap, .slice ba bn bcap] 30)).alloc (.cells #[.int .i64 0, .int .i64 0, .int .i64 0, .slice none 0 0, .slice none 0 0, .int .i64 0, .int .i64 0] 77)).heap.size ((w.alloc (.cells #[.int .i64 (c : Int), .int .i64 (k : Int), .int .i64 (r : Int), .slice da dn dcap, .slice ba bn bcap] 30)).alloc (.cells #[.int .i64 0, .int .i64 0, .int .i64 0, .slice none 0 0, .slice none 0 0, .int .i64 0, .int .i64 0] 77)) w') := hMAY
  clear hMAY hmb hno h hok bz Z0
  go_enter Tryz.func39, Tryz.ntmps39
  go_wp2_with fail
  refine HMAY.out.mono ?_
  rintro e w1 ⟨rfl, hb1⟩
  have A1 : Hid (At5 w w.heap.size c k r (.slice da dn dcap) (.slice ba bn bcap) w1) := X1.out.kept hb1
  have Z1 : Hid (Box7 w1 (w.heap.size + 1) _ _ _ _ _ _ _) := HZ0.out.kept hb1
  have hl1 : w.heap.size < w1.heap.size := World.block_lt_of_cell? _ _ A1.out.1
  have hl2 : w.heap.size + 1 < w1.heap.size := Z1.out.lt
  obtain ⟨m0, m1, m2, m3, m4, _⟩ := A1.out
  obtain ⟨p0, p1, p2, p3, p4, p5, p6, pf⟩ := Z1.out
  have pf0 := pf 0
  have pf1 := pf 1
  have pf2 := pf 2
  have pf3 := pf 3
  have pf4 := pf 4
  have pf5 := pf 5
  have pf6 := pf 6
  clear hb1 k0 k1 k2 k3 k4 hl0 pf
  go_wp2_with fail
  refine bodyPost_ret (results_cell_slot16 rfl _ _ (w.heap.size + 1) 0 _ _ rfl ((Z1.out.stored (.int .i64 0) (.int .i64 0) (.int .i64 0) (.slice none 0 0) (.slice none 0 0) (.int .i64 0) (.int .i64 0)).range) Tryz.underlying77 rfl place16_size) rfl ⟨by rw [E.out]; rfl, A1.out.2.2.2.2.2.trans (put7_below (Nat.le_succ _) _ _ _ _ _ _ _)⟩
 | true =>
  have E : Hid (Ro.chk c k r dn bn C row off = 70) := by
   show _ = _
   unfold Ro.chk at hno ⊢
   rw [hmb] at hno ⊢
   rw [if_pos rfl] at hno ⊢
   split
   ·rename_i hi; rw [if_pos hi] at hno; exact absurd rfl hno
   ·rfl
  have hin : Ro.inB k r row off = false := by
   unfold Ro.chk at hno
   rw [hmb, if_pos rfl] at hno
   cases hb : Ro.inB k r row off with
   | false => rfl
   | true => rw [hb] at hno; exact absurd rfl hno
  unfold Ro.inB at hin
  rw [hmb] at hMAY
  have HMAY : Hid (Calls Tryz.prog 22 #[.agg #[.int .i64 (c : Int), .int .i64 (k : Int), .int .i64 (r : Int), .slice da dn dcap, .slice ba bn bcap]] ((w.alloc (.cells #[.int .i64 (c : Int), .int .i64 (k : Int), .int .i64 (r : Int), .slice da dn dcap, .slice ba bn bcap] 30)).alloc (.cells #[.int .i64 0, .int .i64 0, .int .i64 0, .slice none 0 0, .slice none 0 0, .int .i64 0, .int .i64 0] 77)) fun e w' => e = .returned (.bool true) ∧ Below ((w.alloc (.cells #[.int .i64 (c : Int), .int .i64 (k : Int), .int .i64 (r : Int), .slice da dn dcap, .slice ba bn bcap] 30)).alloc (.cells #[.int .i64 0, .int .i64 0, .int .i64 0, .slice none 0 0, .slice none 0 0, .int .i64 0, .int .i64 0] 77)).heap.size ((w.alloc (.cells #[.int .i64 (c : Int), .int .i64 (k : Int), .int .i64 (r : Int), .slice da dn dcap, .slice ba bn bcap] 30)).alloc (.cells #[.int .i64 0, .int .i64 0, .int .i64 0, .slice none 0 0, .slice none 0 0, .int .i64 0, .int .i64 0] 77)) w') := hMAY
  cases hrw : (decide (0 ≤ row) && decide (row ≤ (r : Int) - 1)) with
  | false =>
   have HBT : Hid (∀ W, Calls Tryz.prog 49 #[.int .i64 0, .int .i64 row, .int .i64 ((r : Int) - 1)] W fun e w' => e = .returned (.bool false) ∧ w' = W) := fun W => by
    have h := between16_any 0 row ((r : Int) - 1) W
    rwa [hrw] at h
   clear hMAY hmb hno h hok bz Z0 hin hrw
   go_enter Tryz.func39, Tryz.ntmps39
   go_wp2_with fail
   refine HMAY.out.mono ?_
   rintro e w1 ⟨rfl, hb1⟩
   have A1 : Hid (At5 w w.heap.size c k r (.slice da dn dcap) (.slice ba bn bcap) w1) := X1.out.kept hb1
   have Z1 : Hid (Box7 w1 (w.heap.size + 1) _ _ _ _ _ _ _) := HZ0.out.kept hb1
   have hl1 : w.heap.size < w1.heap.size := World.block_lt_of_cell? _ _ A1.out.1
   have hl2 : w.heap.size + 1 < w1.heap.size := Z1.out.lt
   obtain ⟨m0, m1, m2, m3, m4, _⟩ := A1.out
   obtain ⟨p0, p1, p2, p3, p4, p5, p6, pf⟩ := Z1.out
   have pf0 := pf 0
   have pf1 := pf 1
   have pf2 := pf 2
   have pf3 := pf 3
   have pf4 := pf 4
   have pf5 := pf 5
   have pf6 := pf 6
   clear hb1 k0 k1 k2 k3 k4 hl0 pf
   go_wp2_with (go_at_call 49; refine (HBT.out _).mono ?_; rintro e w2 ⟨rfl, h2⟩; have h2' := h2.symm; subst h2'; clear h2)
   refine bodyPost_ret (results_cell_slot16 rfl _ _ (w.heap.size + 1) 0 _ _ rfl ((Z1.out.stored (.int .i64 0) (.int .i64 0) (.int .i64 0) (.slice none 0 0) (.slice none 0 0) (.int .i64 0) (.int .i64 0)).range) Tryz.underlying77 rfl place16_size) rfl ⟨by rw [E.out]; rfl, A1.out.2.2.2.2.2.trans (put7_below (Nat.le_succ _) _ _ _ _ _ _ _)⟩
  | true =>
   have hof : (decide (0 ≤ off) && decide (off ≤ (k : Int) - 1)) = false := by
    simp only [Bool.and_eq_true, decide_eq_true_eq, Bool.and_eq_false_iff, decide_eq_false_iff_not] at hrw hin ⊢
    omega
   have HBT : Hid (∀ W, Calls Tryz.prog 49 #[.int .i64 0, .int .i64 row, .int .i64 ((r : Int) - 1)] W fun e w' => e = .returned (.bool true) ∧ w' = W) := fun W => by
    have h := between16_any 0 row ((r : Int) - 1) W
    rwa [hrw] at h
   have HBO : Hid (∀ W, Calls Tryz.prog 49 #[.int .i64 0, .int .i64 off, .int .i64 ((k : Int) - 1)] W fun e w' => e = .returned (.bool false) ∧ w' = W) := fun W => by
    have h := between16_any 0 off ((k : Int) - 1) W
    rwa [hof] at h
   clear hMAY hmb hno h hok bz Z0 hin hrw hof
   have tk1 : True := trivial
   go_enter Tryz.func39, Tryz.ntmps39
   go_wp2_with fail
   refine HMAY.out.mono ?_
   rintro e w1 ⟨rfl, hb1⟩
   have A1 : Hid (At5 w w.heap.size c k r (.slice da dn dcap) (.slice ba bn bcap) w1) := X1.out.kept hb1
   have Z1 : Hid (Box7 w1 (w.heap.size + 1) _ _ _ _ _ _ _) := HZ0.out.kept hb1
   have hl1 : w.heap.size < w1.heap.size := World.block_lt_of_cell? _ _ A1.out.1
   have hl2 : w.heap.size + 1 < w1.heap.size := Z1.out.lt
   obtain ⟨m0, m1, m2, m3, m4, _⟩ := A1.out
   obtain ⟨p0, p1, p2, p3, p4, p5, p6, pf⟩ := Z1.out
   have pf0 := pf 0
   have pf1 := pf 1
   have pf2 := pf 2
   have pf3 := pf 3
   have pf4 := pf 4
   have pf5 := pf 5
   have pf6 := pf 6
   clear hb1 k0 k1 k2 k3 k4 hl0 pf
   go_wp2_with (first | (go_at_call 49; have _t := tk1; refine (HBT.out _).mono ?_; rintro e w2 ⟨rfl, h2⟩; have h2' := h2.symm; subst h2'; clear h2 _t tk1) | (go_at_call 49; refine (HBO.out _).mono ?_; rintro e w2 ⟨rfl, h2⟩; have h2' := h2.symm; subst h2'; clear h2))
   refine bodyPost_ret (results_cell_slot16 rfl _ _ (w.heap.size + 1) 0 _ _ rfl ((Z1.out.stored (.int .i64 0) (.int .i64 0) (.int .i64 0) (.slice none 0 0) (.slice none 0 0) (.int .i64 0) (.int .i64 0)).range) Tryz.underlying77 rfl place16_size) rfl ⟨by rw [E.out]; rfl, A1.out.2.2.2.2.2.trans (put7_below (Nat.le_succ _) _ _ _ _ _ _ _)⟩
set_option maxRecDepth 100000 in
set_option maxHeartbeats 8000000 in
theorem placeOf16_yes (hok : Lay.ok (c : Int) (k : Int) (r : Int)) (hdn : dn ≤ 1000000) (row off : Int) (w : World) (h : PrSet w da dn ba bn C bf) (hyes : Ro.chk c k r dn bn C row off = 0) :
  Calls Tryz.prog 39 #[.agg #[.int .i64 (c : Int), .int .i64 (k : Int), .int .i64 (r : Int), .slice da dn dcap, .slice ba bn bcap], .int .i64 row, .int .i64 off] w fun e w' => e = .returned (.tuple #[.agg #[.int .i64 (c : Int), .int .i64 (k : Int), .int .i64 (r : Int), .slice da dn dcap, .slice ba bn bcap, .int .i64 row, .int .i64 off], .int .i64 0]) ∧ Below w.heap.size w w' := by
 have X0 : Hid (At5 w w.heap.size c k r (.slice da dn dcap) (.slice ba bn bcap) (w.alloc (.cells #[.int .i64 (c : Int), .int .i64 (k : Int), .int .i64 (r : Int), .slice da dn dcap, .slice ba bn bcap] 30))) := At5.new _ _ _ _ _ _ _
 have bz : Below (w.alloc (.cells #[.int .i64 (c : Int), .int .i64 (k : Int), .int .i64 (r : Int), .slice da dn dcap, .slice ba bn bcap] 30)).heap.size (w.alloc (.cells #[.int .i64 (c : Int), .int .i64 (k : Int), .int .i64 (r : Int), .slice da dn dcap, .slice ba bn bcap] 30)) ((w.alloc (.cells #[.int .i64 (c : Int), .int .i64 (k : Int), .int .i64 (r : Int), .slice da dn dcap, .slice ba bn bcap] 30)).alloc (.cells #[.int .i64 0, .int .i64 0, .int .i64 0, .slice none 0 0, .slice none 0 0, .int .i64 0, .int .i64 0] 77)) := (Below.refl _ _).alloc (Nat.le_refl _) _
 have X1 : Hid (At5 w w.heap.size c k r (.slice da dn dcap) (.slice ba bn bcap) ((w.alloc (.cells #[.int .i64 (c : Int), .int .i64 (k : Int), .int .i64 (r : Int), .slice da dn dcap, .slice ba bn bcap] 30)).alloc (.cells #[.int .i64 0, .int .i64 0, .int .i64 0, .slice none 0 0, .slice none 0 0, .int .i64 0, .int .i64 0] 77))) := X0.out.kept bz
 have Z0 := Box7.new (w.alloc (.cells #[.int .i64 (c : Int), .int .i64 (k : Int), .int .i64 (r : Int), .slice da dn dcap, .slice ba bn bcap] 30)) 77 (.int .i64 0) (.int .i64 0) (.int .i64 0) (.slice none 0 0) (.slice none 0 0) (.int .i64 0) (.int .i64 0)
 rw [World.size_alloc] at Z0
 have HZ0 : Hid (Box7 ((w.alloc (.cells #[.int .i64 (c : Int), .int .i64 (k : Int), .int .i64 (r : Int), .slice da dn dcap, .slice ba bn bcap] 30)).alloc (.cells #[.int .i64 0, .int .i64 0, .int .i64 0, .slice none 0 0, .slice none 0 0, .int .i64 0, .int .i64 0] 77)) (w.heap.size + 1) _ _ _ _ _ _ _) := Z0
 have hMAY := may16_any (dcap := dcap) (bcap := bcap) hok hdn _ (h.below X1.out.2.2.2.2.2)
 have hl0 : w.heap.size < ((w.alloc (.cells #[.int .i64 (c : Int), .int .i64 (k : Int), .int .i64 (r : Int), .slice da dn dcap, .slice ba bn bcap] 30)).alloc (.cells #[.int .i64 0, .int .i64 0, .int .i64 0, .slice none 0 0, .slice none 0 0, .int .i64 0, .int .i64 0] 77)).heap.size := World.block_lt_of_cell? _ _ X1.out.1
 obtain ⟨k0, k1, k2, k3, k4, _⟩ := X1.out
 have hk1 : 1 ≤ k := by have := hok.2.1; omega
 have hk2 : k ≤ 4 := by have := hok.2.1; omega
 have hr1 : 1 ≤ r := by have := hok.2.2; omega
 have hr2 : r ≤ 256 := by have := hok.2.2; omega
 have hmb : Ro.mayB c k r dn bn C = true := by
  cases hb : Ro.mayB c k r dn bn C with
  | true => rfl
  | false => unfold Ro.chk at hyes; rw [hb] at hyes; cases hyes
 have hin : Ro.inB k r row off = true := by
  cases hb : Ro.inB k r row off with
  | true => rfl
  | false => unfold Ro.chk at hyes; rw [hmb, hb] at hyes; cases hyes
 unfold Ro.inB at hin
 simp only [Bool.and_eq_true, decide_eq_true_eq] at hin
 rw [hmb] at hMAY
 have HMAY : Hid (Calls Tryz.prog 22 #[.agg #[.int .i64 (c : Int), .int .i64 (k : Int), .int .i64 (r : Int), .slice da dn dcap, .slice ba bn bcap]] ((w.alloc (.cells #[.int .i64 (c : Int), .int .i64 (k : Int), .int .i64 (r : Int), .slice da dn dcap, .slice ba bn bcap] 30)).alloc (.cells #[.int .i64 0, .int .i64 0, .int .i64 0, .slice none 0 0, .slice none 0 0, .int .i64 0, .int .i64 0] 77)) fun e w' => e = .returned (.bool true) ∧ Below ((w.alloc (.cells #[.int .i64 (c : Int), .int .i64 (k : Int), .int .i64 (r : Int), .slice da dn dcap, .slice ba bn bcap] 30)).alloc (.cells #[.int .i64 0, .int .i64 0, .int .i64 0, .slice none 0 0, .slice none 0 0, .int .i64 0, .int .i64 0] 77)).heap.size ((w.alloc (.cells #[.int .i64 (c : Int), .int .i64 (k : Int), .int .i64 (r : Int), .slice da dn dcap, .slice ba bn bcap] 30)).alloc (.cells #[.int .i64 0, .int .i64 0, .int .i64 0, .slice none 0 0, .slice none 0 0, .int .i64 0, .int .i64 0] 77)) w') := hMAY
 have HBT : Hid (∀ W, Calls Tryz.prog 49 #[.int .i64 0, .int .i64 row, .int .i64 ((r : Int) - 1)] W fun e w' => e = .returned (.bool true) ∧ w' = W) := fun W => by
  have h := between16_any 0 row ((r : Int) - 1) W
  rwa [show (decide (0 ≤ row) && decide (row ≤ (r : Int) - 1)) = true by simp only [Bool.and_eq_true, decide_eq_true_eq]; omega] at h
 have HBO : Hid (∀ W, Calls Tryz.prog 49 #[.int .i64 0, .int .i64 off, .int .i64 ((k : Int) - 1)] W fun e w' => e = .returned (.bool true) ∧ w' = W) := fun W => by
  have h := between16_any 0 off ((k : Int) - 1) W
  rwa [show (decide (0 ≤ off) && decide (off ≤ (k : Int) - 1)) = true by simp only [Bool.and_eq_true, decide_eq_true_eq]; omega] at h
 clear hMAY hmb hyes h hok bz Z0 hin
 have tk1 : True := trivial
 go_enter Tryz.func39, Tryz.ntmps39
 go_wp2_with fail
 refine HMAY.out.mono ?_
 rintro e w1 ⟨rfl, hb1⟩
 have A1 : Hid (At5 w w.heap.size c k r (.slice da dn dcap) (.slice ba bn bcap) w1) := X1.out.kept hb1
 have Z1 : Hid (Box7 w1 (w.heap.size + 1) _ _ _ _ _ _ _) := HZ0.out.kept hb1
 have hl1 : w.heap.size < w1.heap.size := World.block_lt_of_cell? _ _ A1.out.1
 have hl2 : w.heap.size + 1 < w1.heap.size := Z1.out.lt
 obtain ⟨m0, m1, m2, m3, m4, _⟩ := A1.out
 obtain ⟨p0, p1, p2, p3, p4, p5, p6, pf⟩ := Z1.out
 have pf0 := pf 0
 have pf1 := pf 1
 have pf2 := pf 2
 have pf3 := pf 3
 have pf4 := pf 4
 have pf5 := pf 5
 have pf6 := pf 6
 clear hb1 k0 k1 k2 k3 k4 hl0 pf
 go_wp2_with (first | (go_at_call 49; have _t := tk1; refine (HBT.out _).mono ?_; rintro e w2 ⟨rfl, h2⟩; have h2' := h2.symm; subst h2'; clear h2 _t tk1) | (go_at_call 49; refine (HBO.out _).mono ?_; rintro e w2 ⟨rfl, h2⟩; have h2' := h2.symm; subst h2'; clear h2))
 refine bodyPost_ret (results_cell_slot16 rfl _ _ (w.heap.size + 1) 0 _ _ rfl ((Z1.out.stored (.int .i64 (c : Int)) (.int .i64 (k : Int)) (.int .i64 (r : Int)) (.slice da dn dcap) (.slice ba bn bcap) (.int .i64 row) (.int .i64 off)).range) Tryz.underlying77 rfl place16_size) rfl ⟨rfl, A1.out.2.2.2.2.2.trans (put7_below (Nat.le_succ _) _ _ _ _ _ _ _)⟩
end
end Go.Proofs.YtdgkhjgnjfgnlaaGreat
namespace Go.Proofs.YtdgkhjgnjfgnlaaGreat
open Go.RowKit
attribute [local go_sem] Oper.semAt_some
namespace Ro
def rdX (k : Nat) (C : Nat → Col) (bf : Nat → Int) (row off : Int) (z : Nat) : ByteArray := if missB C bf row z then ⟨#[]⟩ else match C z with
 | none => ⟨#[]⟩
 | some x => txt (x.2.readS (4 + row * k + off))
def rdE (k : Nat) (C : Nat → Col) (bf : Nat → Int) (row off : Int) (z : Nat) : Nat := if missB C bf row z then 41 else match C z with
 | none => 41
 | some x => x.2.readE (4 + row * k + off)
theorem oneX_rd (c k : Nat) (C : Nat → Col) (bf : Nat → Int) (row off : Int) (q : Nat) : oneX c k C bf row off q = rdX k C bf row off (colN c row.toNat q) := rfl
theorem oneE_rd (c k : Nat) (C : Nat → Col) (bf : Nat → Int) (row off : Int) (q : Nat) : oneE c k C bf row off q = rdE k C bf row off (colN c row.toNat q) := rfl
end Ro
theorem keep_sd7 {w W W' : World} {b b1 o1 : Nat} {x0 x1 x2 x3 x4 x5 x6 x7 : Value} (hb : Below W.heap.size W W')
  (h : W.cell? ⟨b, 0, none⟩ = some x0 ∧ W.cell? ⟨b, 1, none⟩ = some x1 ∧ W.cell? ⟨b, 2, none⟩ = some x2 ∧ W.cell? ⟨b, 3, none⟩ = some x3 ∧ W.cell? ⟨b, 4, none⟩ = some x4 ∧ W.cell? ⟨b, 5, none⟩ = some x5 ∧ W.cell? ⟨b, 6, none⟩ = some x6 ∧ W.cell? ⟨b1, o1, none⟩ = some x7 ∧ Below w.heap.size w W) :
  W'.cell? ⟨b, 0, none⟩ = some x0 ∧ W'.cell? ⟨b, 1, none⟩ = some x1 ∧ W'.cell? ⟨b, 2, none⟩ = some x2 ∧ W'.cell? ⟨b, 3, none⟩ = some x3 ∧ W'.cell? ⟨b, 4, none⟩ = some x4 ∧ W'.cell? ⟨b, 5, none⟩ = some x5 ∧ W'.cell? ⟨b, 6, none⟩ = some x6 ∧ W'.cell? ⟨b1, o1, none⟩ = some x7 ∧ Below w.heap.size w W' := by
 obtain ⟨h0, h1, h2, h3, h4, h5, h6, h7, h8⟩ := h
 have hl := World.block_lt_of_cell? W _ h0
 exact ⟨(hb.cell (p := ⟨b, 0, none⟩) hl).trans h0, (hb.cell (p := ⟨b, 1, none⟩) hl).trans h1, (hb.cell (p := ⟨b, 2, none⟩) hl).trans h2, (hb.cell (p := ⟨b, 3, none⟩) hl).trans h3, (hb.cell (p := ⟨b, 4, none⟩) hl).trans h4, (hb.cell (p := ⟨b, 5, none⟩) hl).trans h5, (hb.cell (p := ⟨b, 6, none⟩) hl).trans h6,
  (hb.cell (p := ⟨b1, o1, none⟩) (World.block_lt_of_cell? W _ h7)).trans h7, h8.trans (hb.mono h8.size)⟩
theorem sd7_low {w W : World} {b b1 o1 : Nat} {x0 x1 x2 x3 x4 x5 x6 x7 : Value} (h : W.cell? ⟨b, 0, none⟩ = some x0 ∧ W.cell? ⟨b, 1, none⟩ = some x1 ∧ W.cell? ⟨b, 2, none⟩ = some x2 ∧ W.cell? ⟨b, 3, none⟩ = some x3 ∧ W.cell? ⟨b, 4, none⟩ = some x4 ∧ W.cell? ⟨b, 5, none⟩ = some x5 ∧ W.cell? ⟨b, 6, none⟩ = some x6 ∧ W.cell? ⟨b1, o1, none⟩ = some x7 ∧ Below w.heap.size w W) : Below w.heap.size w W := h.2.2.2.2.2.2.2.2
section
variable {c k r : Nat} {da ba : Option Addr} {dn dcap bn bcap : Nat} {C : Nat → Ro.Col} {bf : Nat → Int}
set_option maxRecDepth 100000 in
set_option maxHeartbeats 8000000 in
theorem read16_any (hok : Lay.ok (c : Int) (k : Int) (r : Int)) (row off : Nat) (hr : row < r) (ho : off < k) (z : Nat) (hz : z < c) (w : World) (h : PrSet w da c ba c C bf) :
  Calls Tryz.prog 41 #[.agg #[.int .i64 (c : Int), .int .i64 (k : Int), .int .i64 (r : Int), .slice da c dcap, .slice ba c bcap, .int .i64 (row : Int), .int .i64 (off : Int)], .int .i64 (z : Int)] w fun e w' => e = .returned (.tuple #[.string (Ro.rdX k C bf (row : Int) (off : Int) z), .int .i64 (Ro.rdE k C bf (row : Int) (off : Int) z : Nat)]) ∧ Below w.heap.size w w' := by
 have hc10 : c ≤ 10 := by have := hok.1; omega
 obtain ⟨b1, o1, rfl, hp⟩ := h.row z hz
 have B0 := Box7.new w 77 (.int .i64 (c : Int)) (.int .i64 (k : Int)) (.int .i64 (r : Int)) (.slice (some ⟨b1, o1, none⟩) c dcap) (.slice ba c bcap) (.int .i64 (row : Int)) (.int .i64 (off : Int))
 have X0 : Hid (Below w.heap.size w (w.alloc (.cells #[.int .i64 (c : Int), .int .i64 (k : Int), .int .i64 (r : Int), .slice (some ⟨b1, o1, none⟩) c dcap, .slice ba c bcap, .int .i64 (row : Int), .int .i64 (off : Int)] 77))) := (Below.refl _ _).alloc (Nat.le_refl _) _
 have HB0 : Hid (Box7 (w.alloc (.cells #[.int .i64 (c : Int), .int .i64 (k : Int), .int .i64 (r : Int), .slice (some ⟨b1, o1, none⟩) c dcap, .slice ba c bcap, .int .i64 (row : Int), .int .i64 (off : Int)] 77)) w.heap.size _ _ _ _ _ _ _) := B0
 obtain ⟨k0, k1, k2, k3, k4, k5, k6, _⟩ := B0
 have hlast : w.heap.size < (w.alloc (.cells #[.int .i64 (c : Int), .int .i64 (k : Int), .int .i64 (r : Int), .slice (some ⟨b1, o1, none⟩) c dcap, .slice ba c bcap, .int .i64 (row : Int), .int .i64 (off : Int)] 77)).heap.size := HB0.out.lt
 have hmi := missing16_any (c := c) (k := k) (r := r) (dcap := dcap) (bcap := bcap) (row : Int) z hz hz _ (h.below X0.out)
 have E1 : Hid (∀ x, Ro.rdX k C bf (row : Int) (off : Int) z = x → x = Ro.rdX k C bf (row : Int) (off : Int) z) := fun _ h => h.symm
 have hl0 := World.block_lt_of_cell? w _ hp
 cases hm : Ro.missB C bf (row : Int) z with
 | true =>
  have EX : Hid (Ro.rdX k C bf (row : Int) (off : Int) z = ⟨#[]⟩) := by show _ = _; unfold Ro.rdX; rw [hm]; rfl
  have EE : Hid (Ro.rdE k C bf (row : Int) (off : Int) z = 41) := by show _ = _; unfold Ro.rdE; rw [hm]; rfl
  rw [hm] at hmi
  clear hm h hp hok hr ho
  go_enter Tryz.func41, Tryz.ntmps41
  go_wp2_with fail
  refine hmi.mono ?_
  rintro e w1 ⟨rfl, hb1⟩
  have B1 : Hid (Below w.heap.size w w1) := X0.out.trans (hb1.mono X0.out.size)
  clear hb1
  go_wp2
  go_ret2
  exact ⟨by rw [EX.out, EE.out]; rfl, B1.out⟩
 | false =>
  cases hC : C z with
  | none => exact absurd hm (by unfold Ro.missB; rw [hC]; simp)
  | some x =>
   obtain ⟨p, D⟩ := x
   rw [hC] at hp
   simp only [Ro.ptr] at hp
   obtain ⟨F, hF⟩ := h.drv z p D hz hC
   have EX : Hid (Ro.rdX k C bf (row : Int) (off : Int) z = txt (D.readS (4 + (row : Int) * (k : Int) + (off : Int)))) := by show _ = _; unfold Ro.rdX; rw [hm, hC]; rfl
   have EE : Hid (Ro.rdE k C bf (row : Int) (off : Int) z = D.readE (4 + (row : Int) * (k : Int) + (off : Int))) := by show _ = _; unfold Ro.rdE; rw [hm, hC]; rfl
   obtain ⟨E, hE⟩ : ∃ E, D.readE (4 + (row : Int) * (k : Int) + (off : Int)) = E := ⟨_, rfl⟩
   obtain ⟨X, hX⟩ : ∃ X, txt (D.readS (4 + (row : Int) * (k : Int) + (off : Int))) = X := ⟨_, rfl⟩
   rw [hX] at EX
   rw [hE] at EE
   have hrd : ∀ W, Below w.heap.size w W → Calls Tryz.prog 76 #[.pointer (some ⟨p, 0, none⟩), .int .i64 (4 + (row : Int) * (k : Int) + (off : Int))] W fun e w' => e = .returned (.tuple #[.string X, .int .i64 (E : Int)]) ∧ Below W.heap.size W w' := fun W hW => by
    have h := read_any (hF.below hW) (4 + (row : Int) * (k : Int) + (off : Int))
    rw [hE, hX] at h
    exact h
   have hse := fun W => sector16_any (da := some ⟨b1, o1, none⟩) (ba := ba) (dcap := dcap) (bcap := bcap) hok row off hr ho W
   obtain ⟨sc, hsc⟩ : ∃ sc, 4 + (row : Int) * (k : Int) + (off : Int) = sc := ⟨_, rfl⟩
   rw [hsc] at hrd hse
   have HSE : Hid (∀ W, Calls Tryz.prog 67 #[.agg #[.int .i64 (c : Int), .int .i64 (k : Int), .int .i64 (r : Int), .slice (some ⟨b1, o1, none⟩) c dcap, .slice ba c bcap, .int .i64 (row : Int), .int .i64 (off : Int)]] W fun e w' => e = .returned (.int .i64 sc) ∧ Below W.heap.size W w') := hse
   have HRD : Hid (∀ W, Below w.heap.size w W → Calls Tryz.prog 76 #[.pointer (some ⟨p, 0, none⟩), .int .i64 sc] W fun e w' => e = .returned (.tuple #[.string X, .int .i64 (E : Int)]) ∧ Below W.heap.size W w') := hrd
   have HP : Hid (w.cell? ⟨b1, o1 + z, none⟩ = some (.pointer (some ⟨p, 0, none⟩))) := hp
   have hzi : (z : Int) < (c : Int) := by omega
   rw [hm] at hmi
   clear hm h hp hok hr ho hC hF hE hX hrd hse hsc
   go_enter Tryz.func41, Tryz.ntmps41
   go_wp2_with fail
   refine hmi.mono ?_
   rintro e w1 ⟨rfl, hb1⟩
   have B1 : Hid (Below w.heap.size w w1) := X0.out.trans (hb1.mono X0.out.size)
   have K1 : Hid (Box7 w1 w.heap.size _ _ _ _ _ _ _) := HB0.out.kept hb1
   have hl1 : w.heap.size < w1.heap.size := K1.out.lt
   obtain ⟨m0, m1, m2, m3, m4, m5, m6, _⟩ := K1.out
   clear hb1 k0 k1 k2 k3 k4 k5 k6 hlast
   go_wp2_with fail
   have hp3 := (B1.out.cell (p := ⟨b1, o1 + z, none⟩) hl0).trans HP.out
   have hS0 : w1.drew.cell? ⟨w.heap.size, 0, none⟩ = some (.int .i64 (c : Int)) ∧ w1.drew.cell? ⟨w.heap.size, 1, none⟩ = some (.int .i64 (k : Int)) ∧ w1.drew.cell? ⟨w.heap.size, 2, none⟩ = some (.int .i64 (r : Int)) ∧ w1.drew.cell? ⟨w.heap.size, 3, none⟩ = some (.slice (some ⟨b1, o1, none⟩) c dcap) ∧ w1.drew.cell? ⟨w.heap.size, 4, none⟩ = some (.slice ba c bcap) ∧ w1.drew.cell? ⟨w.heap.size, 5, none⟩ = some (.int .i64 (row : Int)) ∧ w1.drew.cell? ⟨w.heap.size, 6, none⟩ = some (.int .i64 (off : Int)) ∧ w1.drew.cell? ⟨b1, o1 + z, none⟩ = some (.pointer (some ⟨p, 0, none⟩)) ∧ Below w.heap.size w w1.drew := ⟨m0, m1, m2, m3, m4, m5, m6, hp3, B1.out.drew⟩
   go_region_held3 (fun W => W.cell? ⟨w.heap.size, 0, none⟩ = some (.int .i64 (c : Int)) ∧ W.cell? ⟨w.heap.size, 1, none⟩ = some (.int .i64 (k : Int)) ∧ W.cell? ⟨w.heap.size, 2, none⟩ = some (.int .i64 (r : Int)) ∧ W.cell? ⟨w.heap.size, 3, none⟩ = some (.slice (some ⟨b1, o1, none⟩) c dcap) ∧ W.cell? ⟨w.heap.size, 4, none⟩ = some (.slice ba c bcap) ∧ W.cell? ⟨w.heap.size, 5, none⟩ = some (.int .i64 (row : Int)) ∧ W.cell? ⟨w.heap.size, 6, none⟩ = some (.int .i64 (off : Int)) ∧ W.cell? ⟨b1, o1 + z, none⟩ = some (.pointer (some ⟨p, 0, none⟩)) ∧ Below w.heap.size w W) (first | exact hS0 | assumption) (first | (go_at_call 67; refine (HSE.out _).mono ?_; rintro e w4 ⟨rfl, hb4⟩; have hs4 := keep_sd7 hb4 (by assumption); have hl4 : w.heap.size < w4.heap.size := World.block_lt_of_cell? _ _ hs4.1; clear hb4) | (go_at_call 76; refine (HRD.out _ (sd7_low (by assumption))).mono ?_; rintro e w5 ⟨rfl, hb5⟩; have hs5 := keep_sd7 hb5 (by assumption); have B5 : Hid (Below w.heap.size w w5) := sd7_low hs5; clear hb5))
   all_goals
    go_wp2
    go_ret2
    exact ⟨by rw [EX.out, EE.out]; rfl, B5.out⟩
end
end Go.Proofs.YtdgkhjgnjfgnlaaGreat
