/- The walks of a map of regions: its small functions, and what is done with a row's region. -/
import Derived.Test.YtlhgafpidkcmcaaDoorIntAt
import Derived.Test.YtlhgafpidkcmcaaDoorKitRound
import Derived.Test.YtlhgafpidkcmcaaDoorKitDet
namespace Go.Proofs.YtlhgafpidkcmcaaDoor
open Go.RowKit
attribute [local go_sem] Oper.semAt_some

set_option maxRecDepth 100000 in
set_option maxHeartbeats 1000000 in
theorem one_any (r : Nat) (hr : r < 64) (w : World) :
    Calls Tryd.prog 14 #[.int .i64 (r : Int)] w fun e w' => e = .returned (.int .u64 ((2 ^ r : Nat) : Int)) ∧ w' = w := by
  have E : Hid (IntKind.u64.wrap ((2 : Int) ^ r) = ((2 ^ r : Nat) : Int)) := by
    have hp := In.pow_lt hr
    have e1 : (2 : Int) ^ r = ((2 ^ r : Nat) : Int) := (Int.natCast_pow 2 r).symm
    show _ = _
    rw [e1, IntKind.wrap_u64]
    generalize 2 ^ r = z at *
    omega
  go_enter Tryd.func14, Tryd.ntmps14
  go_wp2
  go_ret
  exact ⟨ret_int E.out, rfl⟩

set_option maxRecDepth 100000 in
set_option maxHeartbeats 1000000 in
theorem Region_any (row : Nat) (h : row < 4611686018427387904) (w : World) :
    Calls Tryd.prog 20 #[.int .i64 (row : Int)] w fun e w' => e = .returned (.int .i64 ((row / 4 : Nat) : Int)) ∧ w' = w := by
  go_enter Tryd.func20, Tryd.ntmps20
  go_wp2
  go_ret
  exact ⟨ret_int (by omega), rfl⟩

set_option maxRecDepth 100000 in
set_option maxHeartbeats 1000000 in
theorem Regions_any {w : World} {b n d : Nat} {u : Nat → Nat} (h : InAt w b n d u) (hn : 1 ≤ n ∧ n ≤ 256) :
    Calls Tryd.prog 21 #[.pointer (some ⟨b, 0, none⟩)] w fun e w' => e = .returned (.int .i64 (((n + 3) / 4 : Nat) : Int)) ∧ w' = w := by
  have c0 := h.c0
  clear h
  go_enter Tryd.func21, Tryd.ntmps21
  go_wp2
  go_ret
  exact ⟨ret_int (by omega), rfl⟩

set_option maxRecDepth 100000 in
set_option maxHeartbeats 1000000 in
theorem has_yes {w : World} {b n d : Nat} {u : Nat → Nat} (h : InAt w b n d u) (hn : 1 ≤ n ∧ n ≤ 256) (r : Nat) (hr : r < (n + 3) / 4) :
    Calls Tryd.prog 16 #[.pointer (some ⟨b, 0, none⟩), .int .i64 (r : Int)] w fun e w' => e = .returned (.bool true) ∧ w' = w := by
  have c := Regions_any h hn
  obtain ⟨m, hm⟩ : ∃ m, m = (n + 3) / 4 := ⟨_, rfl⟩
  rw [← hm] at c hr
  clear hm
  go_enter Tryd.func16, Tryd.ntmps16
  go_wp2_with fail
  refine c.mono ?_
  rintro e w' ⟨rfl, rfl⟩
  go_wp2
  go_ret
  exact ⟨rfl, rfl⟩

/-- a row's region is done something with -/
theorem in_yes {w : World} {b n d : Nat} {u : Nat → Nat} (h : InAt w b n d u) (row : Nat) (hr : row < n) (hn : n ≤ 256) (f : Nat) (cs : Array Value) (P : Int → World → Prop)
    (hf : Calls Tryd.prog f (#[.int .i64 ((row / 4 : Nat) : Int)] ++ cs) w fun e w' => ∃ k, e = .returned (.int .i64 k) ∧ P k w')
    (hcf : ∀ args W, (callFunc f args).run Tryd.prog W = .ok (.enter f args) W) :
    Calls Tryd.prog 12 #[.pointer (some ⟨b, 0, none⟩), .int .i64 (row : Int), .func (.func f) #[] cs] w fun e w' => ∃ k, e = .returned (.int .i64 k) ∧ P k w' := by
  have c0 := h.c0
  clear h
  go_enter Tryd.func12, Tryd.ntmps12
  go_wp2_with fail
  refine (Region_any row (by omega) _).mono ?_
  rintro e w' ⟨rfl, rfl⟩
  go_wp2_with fail
  refine hf.mono ?_
  rintro e w' ⟨k, rfl, hP⟩
  go_wp2
  go_ret
  exact ⟨k, rfl, hP⟩

set_option maxRecDepth 100000 in
set_option maxHeartbeats 1000000 in
theorem stale1_any {w : World} {b n d : Nat} {u : Nat → Nat} (h : InAt w b n d u) (hd : d < 18446744073709551616) (r : Nat) (hr : r < 64) (Bm Bs : Nat) (x : Bool) (cm : w.cell? ⟨Bm, 0, none⟩ = some (.pointer (some ⟨b, 0, none⟩)))
    (cs : w.cell? ⟨Bs, 0, none⟩ = some (.bool x)) (fs : w.frozen? ⟨Bs, 0, none⟩ = false) (n1 : Bs ≠ Bm) (n2 : Bs ≠ b) :
    Calls Tryd.prog 15 #[.int .i64 (r : Int), .pointer (some ⟨Bm, 0, none⟩), .pointer (some ⟨Bs, 0, none⟩)] w fun e w' => e = .returned (.int .i64 0) ∧ w'.cell? ⟨Bs, 0, none⟩ = some (.bool (d.testBit r)) ∧ Only (fun k => k = Bs) w w' := by
  have c1 := h.c1
  have HMX : Hid (Tryd.prog.follows .mixedOrders = true) := by show _ = _; kernel_rfl
  have E1 : Hid (bits .and .u64 (d : Int) ((2 ^ r : Nat) : Int) = ((d &&& 2 ^ r : Nat) : Int)) := u64_and_nat d (2 ^ r) hd (In.pow_lt hr)
  have E2 := In.and_none d r
  obtain ⟨p, hp⟩ : ∃ p, p = 2 ^ r := ⟨_, rfl⟩
  obtain ⟨q, hq⟩ : ∃ q, q = d &&& 2 ^ r := ⟨_, rfl⟩
  rw [← hq] at E2 E1
  rw [← hp] at E1
  have co := one_any r hr
  rw [← hp] at co
  obtain ⟨t, ht⟩ : ∃ t, t = d.testBit r := ⟨_, rfl⟩
  rw [← ht] at E2 ⊢
  have e1 := E1.out
  have HCO : Hid (∀ W, Calls Tryd.prog 14 #[.int .i64 (r : Int)] W fun e w' => e = .returned (.int .u64 (p : Int)) ∧ w' = W) := co
  clear h hp hq ht E1 co
  go_enter Tryd.func15, Tryd.ntmps15
  go_wp2_with fail
  refine wp_region_held (S := fun W => W.cell? ⟨Bm, 0, none⟩ = some (.pointer (some ⟨b, 0, none⟩)) ∧ W.cell? ⟨b, 1, none⟩ = some (.int .u64 (d : Int))) HMX.out ?_
  have hS : (fun W : World => W.cell? ⟨Bm, 0, none⟩ = some (.pointer (some ⟨b, 0, none⟩)) ∧ W.cell? ⟨b, 1, none⟩ = some (.int .u64 (d : Int))) w.drew := ⟨cm, c1⟩
  change wpAnyH _ _ _ _ _ _ _ _ w.drew
  refine held_quiet 0 (v := ?v0q1) rfl (by kernel_rfl) (fun _ _ _ h => h) (by assumption) rfl ?hy0q1 ?rest0q1
  case hy0q1 => (intro wS hSw; (try dsimp only at hSw); go_simp; try with_reducible rfl)
  try simp only [Act.put, List.setIfInBounds_toArray, List.set_cons_zero, List.set_cons_succ]
  refine held_quiet 1 (v := ?v1q2) rfl (by kernel_rfl) (fun _ _ _ h => h) (by assumption) rfl ?hy1q2 ?rest1q2
  case hy1q2 => (intro wS hSw; (try dsimp only at hSw); go_simp; try with_reducible rfl)
  try simp only [Act.put, List.setIfInBounds_toArray, List.set_cons_zero, List.set_cons_succ]
  refine held_quiet 2 (v := ?v2q3) rfl (by kernel_rfl) (fun _ _ _ h => h) (by assumption) rfl ?hy2q3 ?rest2q3
  case hy2q3 => (intro wS hSw; (try dsimp only at hSw); go_simp; try with_reducible rfl)
  try simp only [Act.put, List.setIfInBounds_toArray, List.set_cons_zero, List.set_cons_succ]
  refine held_quiet 3 (v := ?v3q4) rfl (by kernel_rfl) (fun _ _ _ h => h) (by assumption) rfl ?hy3q4 ?rest3q4
  case hy3q4 => (intro wS hSw; (try dsimp only at hSw); go_simp; try with_reducible rfl)
  try simp only [Act.put, List.setIfInBounds_toArray, List.set_cons_zero, List.set_cons_succ]
  refine held_quiet 4 (v := ?v4q5) rfl (by kernel_rfl) (fun _ _ _ h => h) (by assumption) rfl ?hy4q5 ?rest4q5
  case hy4q5 => (intro wS hSw; (try dsimp only at hSw); go_simp; try with_reducible rfl)
  try simp only [Act.put, List.setIfInBounds_toArray, List.set_cons_zero, List.set_cons_succ]
  refine held_one 5 rfl (by kernel_rfl) ?_
  go_wp2_with (go_at_call 14; refine (HCO.out _).mono ?_; rintro e w1 ⟨rfl, rfl⟩)
  try refine ⟨hS, ?_⟩
  refine held_quiet 6 (v := ?v6q6) rfl (by kernel_rfl) (fun _ _ _ h => h) (by assumption) rfl ?hy6q6 ?rest6q6
  case hy6q6 => (intro wS hSw; (try dsimp only at hSw); go_simp; try with_reducible rfl)
  try simp only [Act.put, List.setIfInBounds_toArray, List.set_cons_zero, List.set_cons_succ]
  refine held_quiet 7 (v := ?v7q7) rfl (by kernel_rfl) (fun _ _ _ h => h) (by assumption) rfl ?hy7q7 ?rest7q7
  case hy7q7 => (intro wS hSw; (try dsimp only at hSw); go_simp; try with_reducible rfl)
  try simp only [Act.put, List.setIfInBounds_toArray, List.set_cons_zero, List.set_cons_succ]
  refine held_one 8 rfl (by kernel_rfl) ?_
  go_wp2
  try refine ⟨⟨(World.cell?_setCell_other _ _ _ _ (fun e => by injection e with e1; exact n1 e1)).trans cm, (World.cell?_setCell_other _ _ _ _ (fun e => by injection e with e1; exact n2 e1)).trans c1⟩, ?_⟩
  refine held_done (by kernel_rfl) ?_
  go_wp2
  go_ret
  exact ⟨rfl, World.cell?_setCell_same w ⟨Bs, 0, none⟩ (.bool t) cs, (Only.setCell (fun k => k = Bs) w ⟨Bs, 0, none⟩ _ rfl).then (Only.drew (fun k => k = Bs) _)⟩

/-- what a walk behind a store has: the world that is left -/
theorem left_cell {w w1 : World} {a p : Addr} {v u : Value} (e : World.setCell w a v = w1) (h : w.cell? p = some u) (hne : a ≠ p) : w1.cell? p = some u := by
  rw [← e, World.cell?_setCell_other _ _ _ _ hne]; exact h
theorem left_same {w w1 : World} {a : Addr} {v u : Value} (e : World.setCell w a v = w1) (h : w.cell? a = some u) : w1.cell? a = some v := by
  rw [← e]; exact World.cell?_setCell_same _ _ _ h

set_option maxRecDepth 100000 in
set_option maxHeartbeats 1000000 in
theorem start1_any {w : World} {b n d : Nat} {u : Nat → Nat} (h : InAt w b n d u) (hd : d < 18446744073709551616) (r : Nat) (hr : r < 64) (hu : u r < 4611686018427387904) (Bm Bs : Nat) (x : Bool) (cm : w.cell? ⟨Bm, 0, none⟩ = some (.pointer (some ⟨b, 0, none⟩)))
    (cs : w.cell? ⟨Bs, 0, none⟩ = some (.bool x)) (fs : w.frozen? ⟨Bs, 0, none⟩ = false) (n1 : Bs ≠ Bm) (n2 : Bs ≠ b) (n3 : Bm ≠ b) :
    Calls Tryd.prog 13 #[.int .i64 (r : Int), .pointer (some ⟨Bm, 0, none⟩), .pointer (some ⟨Bs, 0, none⟩)] w fun e w' => e = .returned (.int .i64 0) ∧ InAt w' b n (In.setB d r) (In.upd u r (u r + 1)) ∧ w'.cell? ⟨Bs, 0, none⟩ = some (.bool (!d.testBit r)) ∧ Only (fun k => k = b ∨ k = Bs) w w' := by
  have c1 := h.c1
  have HI : Hid (InAt w b n d u) := h
  have HMX : Hid (Tryd.prog.follows .mixedOrders = true) := by show _ = _; kernel_rfl
  have E1 : Hid (bits .and .u64 (d : Int) ((2 ^ r : Nat) : Int) = ((d &&& 2 ^ r : Nat) : Int)) := u64_and_nat d (2 ^ r) hd (In.pow_lt hr)
  have E3 : Hid (bits .or .u64 (d : Int) ((2 ^ r : Nat) : Int) = ((In.setB d r : Nat) : Int)) := u64_or_nat d (2 ^ r) hd (In.pow_lt hr)
  have E2 := In.and_one d r
  obtain ⟨p, hp⟩ : ∃ p, p = 2 ^ r := ⟨_, rfl⟩
  obtain ⟨q, hq⟩ : ∃ q, q = d &&& 2 ^ r := ⟨_, rfl⟩
  obtain ⟨z, hz⟩ : ∃ z, z = In.setB d r := ⟨_, rfl⟩
  rw [← hq] at E2 E1
  rw [← hp] at E1 E3
  have co := one_any r hr
  rw [← hp] at co
  rw [← hz] at E3
  obtain ⟨t, ht⟩ : ∃ t, t = (!d.testBit r) := ⟨_, rfl⟩
  rw [← ht] at E2 ⊢
  have HZ : Hid (z = In.setB d r) := hz
  have e1 := E1.out
  have e3 := E3.out
  have HCO : Hid (∀ W, Calls Tryd.prog 14 #[.int .i64 (r : Int)] W fun e w' => e = .returned (.int .u64 (p : Int)) ∧ w' = W) := co
  obtain ⟨y, hy⟩ : ∃ y, y = u r := ⟨_, rfl⟩
  have HY : Hid (y = u r) := hy
  rw [← hy] at hu
  clear h hp hq ht E1 E3 co hz hy
  go_enter Tryd.func13, Tryd.ntmps13
  go_wp2_with fail
  refine wp_region_held (S := fun W => W.cell? ⟨Bm, 0, none⟩ = some (.pointer (some ⟨b, 0, none⟩)) ∧ W.cell? ⟨b, 1, none⟩ = some (.int .u64 (d : Int))) HMX.out ?_
  have hS : (fun W : World => W.cell? ⟨Bm, 0, none⟩ = some (.pointer (some ⟨b, 0, none⟩)) ∧ W.cell? ⟨b, 1, none⟩ = some (.int .u64 (d : Int))) w.drew := ⟨cm, c1⟩
  change wpAnyH _ _ _ _ _ _ _ _ w.drew
  refine held_quiet 0 (v := ?v0q8) rfl (by kernel_rfl) (fun _ _ _ h => h) (by assumption) rfl ?hy0q8 ?rest0q8
  case hy0q8 => (intro wS hSw; (try dsimp only at hSw); go_simp; try with_reducible rfl)
  try simp only [Act.put, List.setIfInBounds_toArray, List.set_cons_zero, List.set_cons_succ]
  refine held_quiet 1 (v := ?v1q9) rfl (by kernel_rfl) (fun _ _ _ h => h) (by assumption) rfl ?hy1q9 ?rest1q9
  case hy1q9 => (intro wS hSw; (try dsimp only at hSw); go_simp; try with_reducible rfl)
  try simp only [Act.put, List.setIfInBounds_toArray, List.set_cons_zero, List.set_cons_succ]
  refine held_quiet 2 (v := ?v2q10) rfl (by kernel_rfl) (fun _ _ _ h => h) (by assumption) rfl ?hy2q10 ?rest2q10
  case hy2q10 => (intro wS hSw; (try dsimp only at hSw); go_simp; try with_reducible rfl)
  try simp only [Act.put, List.setIfInBounds_toArray, List.set_cons_zero, List.set_cons_succ]
  refine held_quiet 3 (v := ?v3q11) rfl (by kernel_rfl) (fun _ _ _ h => h) (by assumption) rfl ?hy3q11 ?rest3q11
  case hy3q11 => (intro wS hSw; (try dsimp only at hSw); go_simp; try with_reducible rfl)
  try simp only [Act.put, List.setIfInBounds_toArray, List.set_cons_zero, List.set_cons_succ]
  refine held_quiet 4 (v := ?v4q12) rfl (by kernel_rfl) (fun _ _ _ h => h) (by assumption) rfl ?hy4q12 ?rest4q12
  case hy4q12 => (intro wS hSw; (try dsimp only at hSw); go_simp; try with_reducible rfl)
  try simp only [Act.put, List.setIfInBounds_toArray, List.set_cons_zero, List.set_cons_succ]
  refine held_one 5 rfl (by kernel_rfl) ?_
  go_wp2_with (go_at_call 14; refine (HCO.out _).mono ?_; rintro e w1 ⟨rfl, rfl⟩)
  try refine ⟨hS, ?_⟩
  refine held_quiet 6 (v := ?v6q13) rfl (by kernel_rfl) (fun _ _ _ h => h) (by assumption) rfl ?hy6q13 ?rest6q13
  case hy6q13 => (intro wS hSw; (try dsimp only at hSw); go_simp; try with_reducible rfl)
  try simp only [Act.put, List.setIfInBounds_toArray, List.set_cons_zero, List.set_cons_succ]
  refine held_quiet 7 (v := ?v7q14) rfl (by kernel_rfl) (fun _ _ _ h => h) (by assumption) rfl ?hy7q14 ?rest7q14
  case hy7q14 => (intro wS hSw; (try dsimp only at hSw); go_simp; try with_reducible rfl)
  try simp only [Act.put, List.setIfInBounds_toArray, List.set_cons_zero, List.set_cons_succ]
  refine held_one 8 rfl (by kernel_rfl) ?_
  go_wp2
  try refine ⟨⟨(World.cell?_setCell_other _ _ _ _ (fun e => by injection e with e1; exact n1 e1)).trans cm, (World.cell?_setCell_other _ _ _ _ (fun e => by injection e with e1; exact n2 e1)).trans c1⟩, ?_⟩
  refine held_done (by kernel_rfl) ?_
  generalize hw1 : World.setCell w _ _ = w1
  have I1 := HI.out.only (Only.setCell (fun k => k = Bs) w ⟨Bs, 0, none⟩ (.bool t) rfl) (fun e => n2 e.symm)
  have O1 : Hid (Only (fun k => k = b ∨ k = Bs) w w1) := by rw [← hw1]; exact Only.setCell _ w _ _ (.inr rfl)
  have cm1 := left_cell hw1 cm (fun e => by injection e with e1; exact n1 e1)
  have cs1 := left_same hw1 cs
  rw [hw1] at I1
  have c11 := I1.c1
  have f11 := I1.fz 1
  have HI1 : Hid (InAt w1 b n d u) := I1
  have CM1 : Hid (w1.cell? ⟨Bm, 0, none⟩ = some (.pointer (some ⟨b, 0, none⟩))) := cm1
  have CS1 : Hid (w1.cell? ⟨Bs, 0, none⟩ = some (.bool t)) := cs1
  clear I1 hw1 cm cs fs c1 hS cs1
  go_wp2_with fail
  refine wp_region_held (S := fun W => W.cell? ⟨Bm, 0, none⟩ = some (.pointer (some ⟨b, 0, none⟩))) HMX.out ?_
  have hS : (fun W : World => W.cell? ⟨Bm, 0, none⟩ = some (.pointer (some ⟨b, 0, none⟩))) w1.drew.drew := cm1
  change wpAnyH _ _ _ _ _ _ _ _ w1.drew.drew
  refine held_quiet 0 (v := ?v0q15) rfl (by kernel_rfl) (fun _ _ _ h => h) (by assumption) rfl ?hy0q15 ?rest0q15
  case hy0q15 => (intro wS hSw; (try dsimp only at hSw); go_simp; try with_reducible rfl)
  try simp only [Act.put, List.setIfInBounds_toArray, List.set_cons_zero, List.set_cons_succ]
  refine held_quiet 1 (v := ?v1q16) rfl (by kernel_rfl) (fun _ _ _ h => h) (by assumption) rfl ?hy1q16 ?rest1q16
  case hy1q16 => (intro wS hSw; (try dsimp only at hSw); go_simp; try with_reducible rfl)
  try simp only [Act.put, List.setIfInBounds_toArray, List.set_cons_zero, List.set_cons_succ]
  refine held_quiet 2 (v := ?v2q17) rfl (by kernel_rfl) (fun _ _ _ h => h) (by assumption) rfl ?hy2q17 ?rest2q17
  case hy2q17 => (intro wS hSw; (try dsimp only at hSw); go_simp; try with_reducible rfl)
  try simp only [Act.put, List.setIfInBounds_toArray, List.set_cons_zero, List.set_cons_succ]
  refine held_quiet 4 (v := ?v4q18) rfl (by kernel_rfl) (fun _ _ _ h => h) (by assumption) rfl ?hy4q18 ?rest4q18
  case hy4q18 => (intro wS hSw; (try dsimp only at hSw); go_simp; try with_reducible rfl)
  try simp only [Act.put, List.setIfInBounds_toArray, List.set_cons_zero, List.set_cons_succ]
  refine held_two 3 5 rfl rfl (by kernel_rfl) ?_ ?_
  · go_wp2
    try refine ⟨hS, ?_⟩
    refine held_one 5 rfl (by kernel_rfl) ?_
    go_wp2_with (go_at_call 14; refine (HCO.out _).mono ?_; rintro e w2 ⟨rfl, rfl⟩)
    try refine ⟨hS, ?_⟩
    refine held_quiet 6 (v := ?v6q19) rfl (by kernel_rfl) (fun _ _ _ h => h) (by assumption) rfl ?hy6q19 ?rest6q19
    case hy6q19 => (intro wS hSw; (try dsimp only at hSw); go_simp; try with_reducible rfl)
    try simp only [Act.put, List.setIfInBounds_toArray, List.set_cons_zero, List.set_cons_succ]
    refine held_quiet 7 (v := ?v7q20) rfl (by kernel_rfl) (fun _ _ _ h => h) (by assumption) rfl ?hy7q20 ?rest7q20
    case hy7q20 => (intro wS hSw; (try dsimp only at hSw); go_simp; try with_reducible rfl)
    try simp only [Act.put, List.setIfInBounds_toArray, List.set_cons_zero, List.set_cons_succ]
    refine held_quiet 8 (v := ?v8q21) rfl (by kernel_rfl) (fun _ _ _ h => h) (by assumption) rfl ?hy8q21 ?rest8q21
    case hy8q21 => (intro wS hSw; (try dsimp only at hSw); go_simp; try with_reducible rfl)
    try simp only [Act.put, List.setIfInBounds_toArray, List.set_cons_zero, List.set_cons_succ]
    refine held_one 9 rfl (by kernel_rfl) ?_
    go_wp2
    try refine ⟨(World.cell?_setCell_other _ _ _ _ (fun e => by injection e with e1; exact n3 e1.symm)).trans cm1, ?_⟩
    refine held_done (by kernel_rfl) ?_
    generalize hw2 : World.setCell w1 _ _ = w2
    have I2 := HI1.out.setD z
    rw [hw2] at I2
    have O2 : Hid (Only (fun k => k = b ∨ k = Bs) w w2) := O1.out.then (by rw [← hw2]; exact Only.setCell _ w1 _ _ (.inl rfl))
    have hri : (r : Int) < 64 := by omega
    have cm2 := left_cell hw2 CM1.out (fun e => by injection e with e1; exact n3 e1.symm)
    have CS2 : Hid (w2.cell? ⟨Bs, 0, none⟩ = some (.bool t)) := left_cell hw2 CS1.out (fun e => by injection e with e1; exact n2 e1.symm)
    have cu2 := I2.cu r hr
    have fu2 := I2.fz (2 + r)
    rw [← HY.out] at cu2
    have HI2 : Hid (InAt w2 b n z u) := I2
    clear I2 hw2 hS cm1 c11 f11
    go_wp2_with fail
    refine wp_region_held (S := fun W => W.cell? ⟨Bm, 0, none⟩ = some (.pointer (some ⟨b, 0, none⟩))) HMX.out ?_
    have hS2 : (fun W : World => W.cell? ⟨Bm, 0, none⟩ = some (.pointer (some ⟨b, 0, none⟩))) w2.drew.drew.drew := cm2
    change wpAnyH _ _ _ _ _ _ _ _ w2.drew.drew.drew
    refine held_quiet 0 (v := ?v0q22) rfl (by kernel_rfl) (fun _ _ _ h => h) (by assumption) rfl ?hy0q22 ?rest0q22
    case hy0q22 => (intro wS hSw; (try dsimp only at hSw); go_simp; try with_reducible rfl)
    try simp only [Act.put, List.setIfInBounds_toArray, List.set_cons_zero, List.set_cons_succ]
    refine held_quiet 1 (v := ?v1q23) rfl (by kernel_rfl) (fun _ _ _ h => h) (by assumption) rfl ?hy1q23 ?rest1q23
    case hy1q23 => (intro wS hSw; (try dsimp only at hSw); go_simp; try with_reducible rfl)
    try simp only [Act.put, List.setIfInBounds_toArray, List.set_cons_zero, List.set_cons_succ]
    refine held_quiet 2 (v := ?v2q24) rfl (by kernel_rfl) (fun _ _ _ h => h) (by assumption) rfl ?hy2q24 ?rest2q24
    case hy2q24 => (intro wS hSw; (try dsimp only at hSw); go_simp; try with_reducible rfl)
    try simp only [Act.put, List.setIfInBounds_toArray, List.set_cons_zero, List.set_cons_succ]
    refine held_quiet 3 (v := ?v3q25) rfl (by kernel_rfl) (fun _ _ _ h => h) (by assumption) rfl ?hy3q25 ?rest3q25
    case hy3q25 => (intro wS hSw; (try dsimp only at hSw); go_simp; try with_reducible rfl)
    try simp only [Act.put, List.setIfInBounds_toArray, List.set_cons_zero, List.set_cons_succ]
    refine held_quiet 4 (v := ?v4q26) rfl (by kernel_rfl) (fun _ _ _ h => h) (by assumption) rfl ?hy4q26 ?rest4q26
    case hy4q26 => (intro wS hSw; (try dsimp only at hSw); go_simp; try with_reducible rfl)
    try simp only [Act.put, List.setIfInBounds_toArray, List.set_cons_zero, List.set_cons_succ]
    refine held_quiet 7 (v := ?v7q27) rfl (by kernel_rfl) (fun _ _ _ h => h) (by assumption) rfl ?hy7q27 ?rest7q27
    case hy7q27 => (intro wS hSw; (try dsimp only at hSw); go_simp; try with_reducible rfl)
    try simp only [Act.put, List.setIfInBounds_toArray, List.set_cons_zero, List.set_cons_succ]
    refine held_quiet 8 (v := ?v8q28) rfl (by kernel_rfl) (fun _ _ _ h => h) (by assumption) rfl ?hy8q28 ?rest8q28
    case hy8q28 => (intro wS hSw; (try dsimp only at hSw); go_simp; try with_reducible rfl)
    try simp only [Act.put, List.setIfInBounds_toArray, List.set_cons_zero, List.set_cons_succ]
    refine held_one 5 rfl (by kernel_rfl) ?_
    go_wp2
    try refine ⟨hS2, ?_⟩
    refine held_quiet 6 (v := ?v6q29) rfl (by kernel_rfl) (fun _ _ _ h => h) (by assumption) rfl ?hy6q29 ?rest6q29
    case hy6q29 => (intro wS hSw; (try dsimp only at hSw); go_simp; try with_reducible rfl)
    try simp only [Act.put, List.setIfInBounds_toArray, List.set_cons_zero, List.set_cons_succ]
    refine held_quiet 9 (v := ?v9q30) rfl (by kernel_rfl) (fun _ _ _ h => h) (by assumption) rfl ?hy9q30 ?rest9q30
    case hy9q30 => (intro wS hSw; (try dsimp only at hSw); go_simp; try with_reducible rfl)
    try simp only [Act.put, List.setIfInBounds_toArray, List.set_cons_zero, List.set_cons_succ]
    refine held_one 10 rfl (by kernel_rfl) ?_
    go_wp2
    try refine ⟨(World.cell?_setCell_other _ _ _ _ (fun e => by injection e with e1; exact n3 e1.symm)).trans cm2, ?_⟩
    refine held_done (by kernel_rfl) ?_
    go_wp2
    go_ret
    refine ⟨rfl, ?_, ?_, ?_⟩
    · have I3 := HI2.out.setU hr (y + 1)
      rw [← HY.out, ← HZ.out, show (y : Int) + 1 = ((y + 1 : Nat) : Int) by omega]
      exact I3.drew.drew.drew
    · exact (World.cell?_setCell_other _ _ _ _ (fun e => by injection e with e1; exact n2 e1.symm)).trans CS2.out
    · exact O2.out.then (((Only.setCell (fun k => k = b ∨ k = Bs) w2 ⟨b, 2 + r, none⟩ _ (.inl rfl)).then (Only.drew _ _)).then ((Only.drew _ _).then (Only.drew _ _)))
  · go_wp2_with (go_at_call 14; refine (HCO.out _).mono ?_; rintro e w2 ⟨rfl, rfl⟩)
    try refine ⟨hS, ?_⟩
    refine held_one 3 rfl (by kernel_rfl) ?_
    go_wp2
    try refine ⟨hS, ?_⟩
    refine held_quiet 6 (v := ?v6q31) rfl (by kernel_rfl) (fun _ _ _ h => h) (by assumption) rfl ?hy6q31 ?rest6q31
    case hy6q31 => (intro wS hSw; (try dsimp only at hSw); go_simp; try with_reducible rfl)
    try simp only [Act.put, List.setIfInBounds_toArray, List.set_cons_zero, List.set_cons_succ]
    refine held_quiet 7 (v := ?v7q32) rfl (by kernel_rfl) (fun _ _ _ h => h) (by assumption) rfl ?hy7q32 ?rest7q32
    case hy7q32 => (intro wS hSw; (try dsimp only at hSw); go_simp; try with_reducible rfl)
    try simp only [Act.put, List.setIfInBounds_toArray, List.set_cons_zero, List.set_cons_succ]
    refine held_quiet 8 (v := ?v8q33) rfl (by kernel_rfl) (fun _ _ _ h => h) (by assumption) rfl ?hy8q33 ?rest8q33
    case hy8q33 => (intro wS hSw; (try dsimp only at hSw); go_simp; try with_reducible rfl)
    try simp only [Act.put, List.setIfInBounds_toArray, List.set_cons_zero, List.set_cons_succ]
    refine held_one 9 rfl (by kernel_rfl) ?_
    go_wp2
    try refine ⟨(World.cell?_setCell_other _ _ _ _ (fun e => by injection e with e1; exact n3 e1.symm)).trans cm1, ?_⟩
    refine held_done (by kernel_rfl) ?_
    generalize hw2 : World.setCell w1 _ _ = w2
    have I2 := HI1.out.setD z
    rw [hw2] at I2
    have O2 : Hid (Only (fun k => k = b ∨ k = Bs) w w2) := O1.out.then (by rw [← hw2]; exact Only.setCell _ w1 _ _ (.inl rfl))
    have hri : (r : Int) < 64 := by omega
    have cm2 := left_cell hw2 CM1.out (fun e => by injection e with e1; exact n3 e1.symm)
    have CS2 : Hid (w2.cell? ⟨Bs, 0, none⟩ = some (.bool t)) := left_cell hw2 CS1.out (fun e => by injection e with e1; exact n2 e1.symm)
    have cu2 := I2.cu r hr
    have fu2 := I2.fz (2 + r)
    rw [← HY.out] at cu2
    have HI2 : Hid (InAt w2 b n z u) := I2
    clear I2 hw2 hS cm1 c11 f11
    go_wp2_with fail
    refine wp_region_held (S := fun W => W.cell? ⟨Bm, 0, none⟩ = some (.pointer (some ⟨b, 0, none⟩))) HMX.out ?_
    have hS2 : (fun W : World => W.cell? ⟨Bm, 0, none⟩ = some (.pointer (some ⟨b, 0, none⟩))) w2.drew.drew.drew := cm2
    change wpAnyH _ _ _ _ _ _ _ _ w2.drew.drew.drew
    refine held_quiet 0 (v := ?v0q34) rfl (by kernel_rfl) (fun _ _ _ h => h) (by assumption) rfl ?hy0q34 ?rest0q34
    case hy0q34 => (intro wS hSw; (try dsimp only at hSw); go_simp; try with_reducible rfl)
    try simp only [Act.put, List.setIfInBounds_toArray, List.set_cons_zero, List.set_cons_succ]
    refine held_quiet 1 (v := ?v1q35) rfl (by kernel_rfl) (fun _ _ _ h => h) (by assumption) rfl ?hy1q35 ?rest1q35
    case hy1q35 => (intro wS hSw; (try dsimp only at hSw); go_simp; try with_reducible rfl)
    try simp only [Act.put, List.setIfInBounds_toArray, List.set_cons_zero, List.set_cons_succ]
    refine held_quiet 2 (v := ?v2q36) rfl (by kernel_rfl) (fun _ _ _ h => h) (by assumption) rfl ?hy2q36 ?rest2q36
    case hy2q36 => (intro wS hSw; (try dsimp only at hSw); go_simp; try with_reducible rfl)
    try simp only [Act.put, List.setIfInBounds_toArray, List.set_cons_zero, List.set_cons_succ]
    refine held_quiet 3 (v := ?v3q37) rfl (by kernel_rfl) (fun _ _ _ h => h) (by assumption) rfl ?hy3q37 ?rest3q37
    case hy3q37 => (intro wS hSw; (try dsimp only at hSw); go_simp; try with_reducible rfl)
    try simp only [Act.put, List.setIfInBounds_toArray, List.set_cons_zero, List.set_cons_succ]
    refine held_quiet 4 (v := ?v4q38) rfl (by kernel_rfl) (fun _ _ _ h => h) (by assumption) rfl ?hy4q38 ?rest4q38
    case hy4q38 => (intro wS hSw; (try dsimp only at hSw); go_simp; try with_reducible rfl)
    try simp only [Act.put, List.setIfInBounds_toArray, List.set_cons_zero, List.set_cons_succ]
    refine held_quiet 7 (v := ?v7q39) rfl (by kernel_rfl) (fun _ _ _ h => h) (by assumption) rfl ?hy7q39 ?rest7q39
    case hy7q39 => (intro wS hSw; (try dsimp only at hSw); go_simp; try with_reducible rfl)
    try simp only [Act.put, List.setIfInBounds_toArray, List.set_cons_zero, List.set_cons_succ]
    refine held_quiet 8 (v := ?v8q40) rfl (by kernel_rfl) (fun _ _ _ h => h) (by assumption) rfl ?hy8q40 ?rest8q40
    case hy8q40 => (intro wS hSw; (try dsimp only at hSw); go_simp; try with_reducible rfl)
    try simp only [Act.put, List.setIfInBounds_toArray, List.set_cons_zero, List.set_cons_succ]
    refine held_one 5 rfl (by kernel_rfl) ?_
    go_wp2
    try refine ⟨hS2, ?_⟩
    refine held_quiet 6 (v := ?v6q41) rfl (by kernel_rfl) (fun _ _ _ h => h) (by assumption) rfl ?hy6q41 ?rest6q41
    case hy6q41 => (intro wS hSw; (try dsimp only at hSw); go_simp; try with_reducible rfl)
    try simp only [Act.put, List.setIfInBounds_toArray, List.set_cons_zero, List.set_cons_succ]
    refine held_quiet 9 (v := ?v9q42) rfl (by kernel_rfl) (fun _ _ _ h => h) (by assumption) rfl ?hy9q42 ?rest9q42
    case hy9q42 => (intro wS hSw; (try dsimp only at hSw); go_simp; try with_reducible rfl)
    try simp only [Act.put, List.setIfInBounds_toArray, List.set_cons_zero, List.set_cons_succ]
    refine held_one 10 rfl (by kernel_rfl) ?_
    go_wp2
    try refine ⟨(World.cell?_setCell_other _ _ _ _ (fun e => by injection e with e1; exact n3 e1.symm)).trans cm2, ?_⟩
    refine held_done (by kernel_rfl) ?_
    go_wp2
    go_ret
    refine ⟨rfl, ?_, ?_, ?_⟩
    · have I3 := HI2.out.setU hr (y + 1)
      rw [← HY.out, ← HZ.out, show (y : Int) + 1 = ((y + 1 : Nat) : Int) by omega]
      exact I3.drew.drew.drew
    · exact (World.cell?_setCell_other _ _ _ _ (fun e => by injection e with e1; exact n2 e1.symm)).trans CS2.out
    · exact O2.out.then (((Only.setCell (fun k => k = b ∨ k = Bs) w2 ⟨b, 2 + r, none⟩ _ (.inl rfl)).then (Only.drew _ _)).then ((Only.drew _ _).then (Only.drew _ _)))
end Go.Proofs.YtlhgafpidkcmcaaDoor