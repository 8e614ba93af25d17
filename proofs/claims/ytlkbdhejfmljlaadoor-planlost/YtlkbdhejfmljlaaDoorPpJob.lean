/- Plans: the walks of a row's columns, as the program keeps them, and of the four tests. -/
import Derived.Test.YtlkbdhejfmljlaaDoorPpBits
import Derived.Deep.RegionHeld3
namespace Go.Proofs.YtlkbdhejfmljlaaDoor
open Go.RowKit
attribute [local go_sem] Oper.semAt_some

set_option maxRecDepth 100000 in
set_option maxHeartbeats 4000000 in
theorem list_any (x : Nat) (hx : x < 1024) (w : World) (hT : Tz w) :
    Calls Tryd.prog 21 #[.int .u64 (x : Int)] w fun e w' => ∃ v, e = .returned v ∧ Row15 w (Rs.ints x) v w' := by
  obtain ⟨T, hTT⟩ : ∃ T, T = Rs.ints x := ⟨_, rfl⟩
  have hTl : T.length ≤ 10 := by rw [hTT]; exact Rs.cnt_le x
  rw [← hTT]
  obtain ⟨i0, q1, q2, q3, q4⟩ := info_parts (show (Tryd.prog.info? 3).map (fun i => (i.zero, i.size, i.bytes)) = some (some (.int .i64 0), 1, 8) by kernel_rfl)
  have HI0 : Hid (Tryd.prog.info? 3 = some i0 ∧ i0.zero = some (.int .i64 0) ∧ i0.size = 1 ∧ i0.bytes = 8) := ⟨q1, q2, q3, q4⟩
  have HTT : Hid (T = Rs.ints x) := hTT
  have HTL : Hid (T.length ≤ 10) := hTl
  have HX : Hid (x < 1024) := hx
  have HTz : Hid (Tz w) := hT
  clear hTT hTl q1 q2 q3 q4 hx hT
  go_enter Tryd.func21, Tryd.ntmps21
  go_wp2_with fail
  go_loopg [0, 3] x (fun gg s0 s3 wr => ∃ y : Nat, y = gg ∧ y < 1024 ∧ s0 = .int .u64 (y : Int) ∧ ∃ pre, Row15 w pre s3 wr ∧ pre ++ Rs.ints y = T)
  case atStart => exact ⟨x, rfl, HX.out, rfl, [], Row15.nil (Below.refl _ _), HTT.out.symm⟩
  case round =>
    obtain ⟨y, rfl, hy, rfl, pre, hA, hpre⟩ := hrel
    obtain ⟨v, hv⟩ : ∃ v, v = u3 := ⟨u3, rfl⟩
    subst hv
    have HA : Hid (Row15 w pre v wr) := hA
    have HP : Hid (pre ++ Rs.ints y = T) := hpre
    have hsz := hA.2.size
    by_cases h0 : y = 0
    · have E : Hid (pre = T) := by
        show _ = _
        rw [← hpre, h0, Rs.ints_zero, List.append_nil]
      have hne : ((y : Int) == 0) = true := by rw [h0]; rfl
      clear hpre hA
      go_wp2
      go_ret
      exact ⟨_, rfl, by rw [← E.out]; exact HA.out⟩
    · have hne : ((y : Int) == 0) = false := by rw [beq_eq_false_iff_ne]; omega
      have c := tz_any y (by omega) wr (HTz.out.kept hA.2)
      obtain ⟨k, hk⟩ : ∃ k, k = Lib.ctz 64 y := ⟨_, rfl⟩
      rw [← hk] at c
      have hst := Rs.step hy h0
      rw [← hk] at hst
      have HC : Hid (Calls Tryd.prog 31 #[.int .u64 (y : Int)] wr fun e w' => e = .returned (.int .i64 (k : Nat)) ∧ w' = wr) := c
      have hless := Rs.less h0
      have EA : bits .and .u64 (y : Int) ((y : Int) - 1) = ((y &&& (y - 1) : Nat) : Int) := by
        rw [show (y : Int) - 1 = ((y - 1 : Nat) : Int) by omega]
        exact Rs.u64_and y (y - 1) (by omega) (by omega)
      obtain ⟨z, hz⟩ : ∃ z, z = y &&& (y - 1) := ⟨_, rfl⟩
      rw [← hz] at EA hless hst
      have HN : Hid ((pre ++ [(k : Int)]) ++ Rs.ints z = T) := by
        show _ = _
        rw [List.append_assoc, List.singleton_append, ← hst]; exact hpre
      have hzl : z < 1024 := by omega
      obtain ⟨ln, hln⟩ : ∃ ln, ln = pre.length := ⟨_, rfl⟩
      have hle : ln ≤ 10 := by
        have := HTL.out
        rw [← hpre, List.length_append] at this
        omega
      have ow := HA.out.1
      rw [← hln] at ow
      have OW : Hid (wr.ownsRow w.heap.size 3 1 v ln (iV15 pre)) := ow
      have HLN : Hid (ln = pre.length) := hln
      obtain ⟨q1, q2, q3, q4⟩ := HI0.out
      clear hst hpre hk c hz hA ow hln HP
      go_wp2_with (first | (go_at_call 31; refine HC.out.mono ?_; rintro e w2 ⟨rfl, rfl⟩) | (at_builtin; refine wpList_append_own _ rfl _ _ 23 rfl w.heap.size 3 i0 (.int .i64 0) 1 8 Tryd.underlying23 q1 q2 q3 q4 rfl (by decide) v ln (iV15 pre) rfl (OW.out.alloc _) ⟨w2.heap.size, 0, none⟩ 1 1 [.int .i64 (k : Int)] rfl rfl (cell_one_new _ _ _) (by simp [Value.oneCell']) (by unfold maxLen; omega) (by omega) (by simp; omega) ?_; go_loud (intro v' w1 hown' hgrow _; obtain ⟨g', cap', rfl⟩ := ownsRow_succ hown')))
      go_roundg z
      case measure => omega
      case rel => exact ⟨z, rfl, hzl, by go_num, pre ++ [(k : Int)], HA.out.grown HLN.out hown' hgrow, HN.out⟩

/-- what has been made by boxing a row's columns -/
theorem job_below (w : World) (cs : Array Value) (t : TypeId) : Below w.heap.size w (w.alloc (.cells cs t)) := (Below.refl _ w).alloc (Nat.le_refl _) _

theorem all_any (d p r l : Nat) (hd : d < 1024) (hp : p < 1024) (w : World) :
    Calls Tryd.prog 28 #[.agg #[.int .u64 (d : Int), .int .u64 (p : Int), .int .u64 (r : Int), .int .u64 (l : Int)]] w (Same15 w (.int .u64 ((d ||| p : Nat) : Int))) := by
  have e := u64_or_nat d p (by omega) (by omega)
  obtain ⟨a, ha⟩ : ∃ a, a = d ||| p := ⟨_, rfl⟩
  rw [← ha] at e ⊢
  clear ha
  go_enter Tryd.func28, Tryd.ntmps28
  go_wp2
  go_ret
  exact ⟨rfl, job_below _ _ _⟩

/-- the four cells stand, and what was there stays -/
theorem keep_job {w W W' : World} {b : Nat} {c0 c1 c2 c3 : Value} (hb : Below W.heap.size W W')
    (h : W.cell? ⟨b, 0, none⟩ = some c0 ∧ W.cell? ⟨b, 1, none⟩ = some c1 ∧ W.cell? ⟨b, 2, none⟩ = some c2 ∧ W.cell? ⟨b, 3, none⟩ = some c3 ∧ Below w.heap.size w W) :
    W'.cell? ⟨b, 0, none⟩ = some c0 ∧ W'.cell? ⟨b, 1, none⟩ = some c1 ∧ W'.cell? ⟨b, 2, none⟩ = some c2 ∧ W'.cell? ⟨b, 3, none⟩ = some c3 ∧ Below w.heap.size w W' := by
  obtain ⟨h0, h1, h2, h3, h4⟩ := h
  have hl := World.block_lt_of_cell? W _ h0
  exact ⟨(hb.cell (p := ⟨b, 0, none⟩) hl).trans h0, (hb.cell (p := ⟨b, 1, none⟩) hl).trans h1, (hb.cell (p := ⟨b, 2, none⟩) hl).trans h2, (hb.cell (p := ⟨b, 3, none⟩) hl).trans h3, below2 h4 hb⟩
theorem job_low {w W : World} {b : Nat} {c0 c1 c2 c3 : Value} (h : W.cell? ⟨b, 0, none⟩ = some c0 ∧ W.cell? ⟨b, 1, none⟩ = some c1 ∧ W.cell? ⟨b, 2, none⟩ = some c2 ∧ W.cell? ⟨b, 3, none⟩ = some c3 ∧ Below w.heap.size w W) : Below w.heap.size w W := h.2.2.2.2
theorem job_new (w : World) (c0 c1 c2 c3 : Value) (t : TypeId) :
    (w.alloc (.cells #[c0, c1, c2, c3] t)).drew.cell? ⟨w.heap.size, 0, none⟩ = some c0 ∧ (w.alloc (.cells #[c0, c1, c2, c3] t)).drew.cell? ⟨w.heap.size, 1, none⟩ = some c1 ∧ (w.alloc (.cells #[c0, c1, c2, c3] t)).drew.cell? ⟨w.heap.size, 2, none⟩ = some c2 ∧ (w.alloc (.cells #[c0, c1, c2, c3] t)).drew.cell? ⟨w.heap.size, 3, none⟩ = some c3 ∧ Below w.heap.size w (w.alloc (.cells #[c0, c1, c2, c3] t)).drew :=
  ⟨World.cell?_alloc_mark w _ t (0, 0) 0, World.cell?_alloc_mark w _ t (0, 0) 1, World.cell?_alloc_mark w _ t (0, 0) 2, World.cell?_alloc_mark w _ t (0, 0) 3, (job_below w _ t).drew⟩

set_option maxRecDepth 100000 in
set_option maxHeartbeats 2000000 in
theorem left_any (d p r l : Nat) (hd : d < 1024) (hp : p < 1024) (hl : l < 1024) (w : World) :
    Calls Tryd.prog 30 #[(.agg #[.int .u64 (d : Int), .int .u64 (p : Int), .int .u64 (r : Int), .int .u64 (l : Int)])] w (Same15 w (.int .u64 ((Rs.diff (d ||| p) l : Nat) : Int))) := by
  have ho : d ||| p < 1024 := Nat.or_lt_two_pow (n := 10) hd hp
  have c : ∀ W, Calls Tryd.prog 28 #[(.agg #[.int .u64 (d : Int), .int .u64 (p : Int), .int .u64 (r : Int), .int .u64 (l : Int)])] W (Same15 W (.int .u64 ((d ||| p : Nat) : Int))) := fun W => all_any d p r l hd hp W
  have e := Rs.u64_diff (d ||| p) l (by omega) (by omega)
  obtain ⟨a, ha⟩ : ∃ a, a = d ||| p := ⟨_, rfl⟩
  rw [← ha] at e c ⊢
  obtain ⟨z, hz⟩ : ∃ z, z = Rs.diff a l := ⟨_, rfl⟩
  rw [← hz] at e ⊢
  have HC : Hid (∀ W, Calls Tryd.prog 28 #[(.agg #[.int .u64 (d : Int), .int .u64 (p : Int), .int .u64 (r : Int), .int .u64 (l : Int)])] W (Same15 W (.int .u64 (a : Int)))) := c
  have hS0 := job_new w (.int .u64 (d : Int)) (.int .u64 (p : Int)) (.int .u64 (r : Int)) (.int .u64 (l : Int)) 47
  clear ha hz ho hd hp hl c
  go_enter Tryd.func30, Tryd.ntmps30
  go_wp2
  go_region_held3 (fun W => W.cell? ⟨w.heap.size, 0, none⟩ = some (.int .u64 (d : Int)) ∧ W.cell? ⟨w.heap.size, 1, none⟩ = some (.int .u64 (p : Int)) ∧ W.cell? ⟨w.heap.size, 2, none⟩ = some (.int .u64 (r : Int)) ∧ W.cell? ⟨w.heap.size, 3, none⟩ = some (.int .u64 (l : Int)) ∧ Below w.heap.size w W) (first | exact hS0 | assumption) (first | (go_at_call 28; refine (HC.out _).mono ?_; rintro e w1 ⟨rfl, hb1⟩; have hs1 := keep_job hb1 (by assumption)))
  all_goals
    go_wp2
    go_ret
    exact ⟨rfl, job_low (by assumption)⟩

set_option maxRecDepth 100000 in
set_option maxHeartbeats 2000000 in
theorem whole_any (d p r l : Nat) (hd : d < 1024) (hp : p < 1024) (hl : l < 1024) (w : World) :
    Calls Tryd.prog 35 #[(.agg #[.int .u64 (d : Int), .int .u64 (p : Int), .int .u64 (r : Int), .int .u64 (l : Int)])] w (Same15 w (.tuple #[.int .u64 ((Rs.diff (d ||| p) l : Nat) : Int), .bool true])) := by
  have c : ∀ W, Calls Tryd.prog 30 #[(.agg #[.int .u64 (d : Int), .int .u64 (p : Int), .int .u64 (r : Int), .int .u64 (l : Int)])] W (Same15 W (.int .u64 ((Rs.diff (d ||| p) l : Nat) : Int))) := fun W => left_any d p r l hd hp hl W
  obtain ⟨z, hz⟩ : ∃ z, z = Rs.diff (d ||| p) l := ⟨_, rfl⟩
  rw [← hz] at c ⊢
  have HC : Hid (∀ W, Calls Tryd.prog 30 #[(.agg #[.int .u64 (d : Int), .int .u64 (p : Int), .int .u64 (r : Int), .int .u64 (l : Int)])] W (Same15 W (.int .u64 (z : Int)))) := c
  clear hz hd hp hl c
  go_enter Tryd.func35, Tryd.ntmps35
  go_wp2_with fail
  refine (HC.out _).mono ?_
  rintro e w1 ⟨rfl, hb⟩
  have B1 : Hid (Below w.heap.size w w1) := below2 (job_below w _ 47) hb
  clear hb
  go_wp2
  go_ret2
  exact ⟨rfl, B1.out⟩

theorem beyond_any (d p r l : Nat) (hl : l < 1024) (w : World) :
    Calls Tryd.prog 19 #[(.agg #[.int .u64 (d : Int), .int .u64 (p : Int), .int .u64 (r : Int), .int .u64 (l : Int)])] w (Same15 w (.bool (decide (2 < Rs.cnt l)))) := by
  have c : ∀ W, Calls Tryd.prog 26 #[.int .u64 (l : Int)] W fun e w' => e = .returned (.int .i64 (Rs.cnt l : Nat)) ∧ w' = W := fun W => count_any l hl W
  obtain ⟨z, hz⟩ : ∃ z, z = Rs.cnt l := ⟨_, rfl⟩
  rw [← hz] at c ⊢
  have e : decide ((2 : Int) < (z : Int)) = decide (2 < z) := decide_eq_decide.2 (by omega)
  have HE : Hid (decide ((2 : Int) < (z : Int)) = decide (2 < z)) := e
  have HC : Hid (∀ W, Calls Tryd.prog 26 #[.int .u64 (l : Int)] W fun e w' => e = .returned (.int .i64 (z : Nat)) ∧ w' = W) := c
  clear hz hl c e
  go_enter Tryd.func19, Tryd.ntmps19
  go_wp2_with fail
  refine (HC.out _).mono ?_
  rintro e w1 ⟨rfl, rfl⟩
  go_wp2
  go_ret
  exact ⟨ret_bool HE.out, job_below w _ 47⟩

set_option maxRecDepth 100000 in
set_option maxHeartbeats 2000000 in
theorem full_any (d p r l : Nat) (w : World) :
    Calls Tryd.prog 32 #[(.agg #[.int .u64 (d : Int), .int .u64 (p : Int), .int .u64 (r : Int), .int .u64 (l : Int)])] w (Same15 w (.tuple #[.int .u64 0, .bool (decide (r = d))])) := by
  have e : ((r : Int) == (d : Int)) = decide (r = d) := by
    by_cases h : r = d
    · rw [h]; simp
    · rw [decide_eq_false h, beq_eq_false_iff_ne]; omega
  obtain ⟨z, hz⟩ : ∃ z, decide (r = d) = z := ⟨_, rfl⟩
  rw [hz] at e ⊢
  clear hz
  go_enter Tryd.func32, Tryd.ntmps32
  go_wp2
  go_quiet (fail)
  go_wp2
  go_ret2
  exact ⟨rfl, below_drewN (job_below w _ 47) _⟩

set_option maxRecDepth 100000 in
set_option maxHeartbeats 2000000 in
theorem rebuild_any (d p r l : Nat) (hd : d < 1024) (hr : r < 1024) (hl : l < 1024) (w : World) :
    Calls Tryd.prog 34 #[(.agg #[.int .u64 (d : Int), .int .u64 (p : Int), .int .u64 (r : Int), .int .u64 (l : Int)])] w (Same15 w (.tuple #[.int .u64 ((Rs.diff d r : Nat) : Int), .bool (decide (Rs.diff d r &&& l = 0))])) := by
  have e := Rs.u64_diff d r (by omega) (by omega)
  have e2 := Rs.u64_and (Rs.diff d r) l (Nat.lt_of_le_of_lt Nat.and_le_left (by omega)) (by omega)
  obtain ⟨z, hz⟩ : ∃ z, z = Rs.diff d r := ⟨_, rfl⟩
  rw [← hz] at e e2 ⊢
  obtain ⟨y, hy⟩ : ∃ y, y = z &&& l := ⟨_, rfl⟩
  rw [← hy] at e2 ⊢
  have e3 : ((y : Int) == 0) = decide (y = 0) := by
    by_cases h : y = 0
    · rw [h]; rfl
    · rw [decide_eq_false h, beq_eq_false_iff_ne]; omega
  obtain ⟨b, hb⟩ : ∃ b, decide (y = 0) = b := ⟨_, rfl⟩
  rw [hb] at e3 ⊢
  clear hz hy hb hd hr hl
  go_enter Tryd.func34, Tryd.ntmps34
  go_wp2
  go_quiet (fail)
  go_wp2
  go_ret2
  exact ⟨rfl, below_drewN (job_below w _ 47) _⟩

set_option maxRecDepth 100000 in
set_option maxHeartbeats 2000000 in
theorem modify_any (d p r l : Nat) (hp : p < 1024) (hr : r < 1024) (hl : l < 1024) (w : World) :
    Calls Tryd.prog 33 #[(.agg #[.int .u64 (d : Int), .int .u64 (p : Int), .int .u64 (r : Int), .int .u64 (l : Int)])] w (Same15 w (.tuple #[.int .u64 (((if Rs.diff p l = 0 then 0 else r ||| Rs.diff p l) : Nat) : Int), .bool (if Rs.diff p l = 0 then true else decide (r &&& l = 0))])) := by
  have e := Rs.u64_diff p l (by omega) (by omega)
  have hz1 : Rs.diff p l < 1024 := Nat.lt_of_le_of_lt Nat.and_le_left (by omega)
  have e2 := u64_or_nat r (Rs.diff p l) (by omega) (by omega)
  have e4 := Rs.u64_and r l (by omega) (by omega)
  obtain ⟨z, hz⟩ : ∃ z, z = Rs.diff p l := ⟨_, rfl⟩
  rw [← hz] at e e2 ⊢
  by_cases h0 : z = 0
  · rw [if_pos h0, if_pos h0]
    have e3 : ((z : Int) == 0) = true := by rw [h0]; rfl
    clear hz h0 e2 e4 hz1 hp hr hl
    go_enter Tryd.func33, Tryd.ntmps33
    go_wp2
    go_ret2
    exact ⟨rfl, job_below w _ 47⟩
  · rw [if_neg h0, if_neg h0]
    have e3 : ((z : Int) == 0) = false := by rw [beq_eq_false_iff_ne]; omega
    obtain ⟨y, hy⟩ : ∃ y, y = r ||| z := ⟨_, rfl⟩
    rw [← hy] at e2 ⊢
    obtain ⟨x, hx⟩ : ∃ x, x = r &&& l := ⟨_, rfl⟩
    rw [← hx] at e4 ⊢
    have e5 : ((x : Int) == 0) = decide (x = 0) := by
      by_cases h : x = 0
      · rw [h]; rfl
      · rw [decide_eq_false h, beq_eq_false_iff_ne]; omega
    obtain ⟨b, hb⟩ : ∃ b, decide (x = 0) = b := ⟨_, rfl⟩
    rw [hb] at e5 ⊢
    clear hz hx hy hb h0 hz1 hp hr hl
    go_enter Tryd.func33, Tryd.ntmps33
    go_wp2
    go_quiet (fail)
    go_wp2
    go_ret2
    exact ⟨rfl, below_drewN (job_below w _ 47) _⟩
end Go.Proofs.YtlkbdhejfmljlaaDoor
