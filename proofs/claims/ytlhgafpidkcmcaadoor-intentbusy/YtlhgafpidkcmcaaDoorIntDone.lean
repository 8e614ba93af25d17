/- The walks of a map of regions: what Done does with a row's region; a region is cleared. -/
import Derived.Test.YtlhgafpidkcmcaaDoorIntWalk
namespace Go.Proofs.YtlhgafpidkcmcaaDoor
open Go.RowKit
attribute [local go_sem] Oper.semAt_some

set_option maxRecDepth 100000 in
set_option maxHeartbeats 1000000 in
theorem done1_none {w : World} {b n d : Nat} {u : Nat → Nat} (h : InAt w b n d u) (r : Nat) (hr : r < 64) (hu : u r = 0) (Bm : Nat) (cm : w.cell? ⟨Bm, 0, none⟩ = some (.pointer (some ⟨b, 0, none⟩))) :
    Calls Tryd.prog 17 #[.int .i64 (r : Int), .pointer (some ⟨Bm, 0, none⟩)] w fun e w' => e = .returned (.int .i64 3) ∧ w' = w := by
  have c := h.cu r hr
  rw [hu] at c
  have hri : (r : Int) < 64 := by omega
  clear h hu
  go_enter Tryd.func17, Tryd.ntmps17
  go_wp2
  go_ret
  exact ⟨rfl, rfl⟩

set_option maxRecDepth 100000 in
set_option maxHeartbeats 1000000 in
theorem done1_yes {w : World} {b n d : Nat} {u : Nat → Nat} (h : InAt w b n d u) (r : Nat) (hr : r < 64) (y : Nat) (hy : u r = y + 1) (hu : y < 4611686018427387904) (Bm : Nat) (cm : w.cell? ⟨Bm, 0, none⟩ = some (.pointer (some ⟨b, 0, none⟩))) (n3 : Bm ≠ b) :
    Calls Tryd.prog 17 #[.int .i64 (r : Int), .pointer (some ⟨Bm, 0, none⟩)] w fun e w' => e = .returned (.int .i64 0) ∧ InAt w' b n d (In.upd u r y) ∧ Only (fun k => k = b) w w' := by
  have c := h.cu r hr
  have f := h.fz (2 + r)
  rw [hy] at c
  have hri : (r : Int) < 64 := by omega
  have HI : Hid (InAt w b n d u) := h
  have HMX : Hid (Tryd.prog.follows .mixedOrders = true) := by show _ = _; kernel_rfl
  clear h hy
  go_enter Tryd.func17, Tryd.ntmps17
  go_wp2_with fail
  refine wp_region_held (S := fun W => W.cell? ⟨Bm, 0, none⟩ = some (.pointer (some ⟨b, 0, none⟩))) HMX.out ?_
  have hS2 : (fun W : World => W.cell? ⟨Bm, 0, none⟩ = some (.pointer (some ⟨b, 0, none⟩))) w.drew := cm
  change wpAnyH _ _ _ _ _ _ _ _ w.drew
  refine held_quiet 0 (v := ?v0q1) rfl (by kernel_rfl) (fun _ _ _ h => h) (by assumption) rfl ?hy0q1 ?rest0q1
  case hy0q1 => (intro wS hSw; (try dsimp only at hSw); go_simp; try with_reducible rfl)
  try simp only [Act.put, List.setIfInBounds_toArray, List.set_cons_zero, List.set_cons_succ]
  refine held_quiet 1 (v := ?v1q2) rfl (by kernel_rfl) (fun _ _ _ h => h) (by assumption) rfl ?hy1q2 ?rest1q2
  case hy1q2 => (intro wS hSw; (try dsimp only at hSw); go_simp; try with_reducible rfl)
  try simp only [Act.put, List.setIfInBounds_toArray, List.set_cons_zero, List.set_cons_succ]
  refine held_quiet 2 (v := ?v2q3) rfl (by kernel_rfl) (fun _ _ _ h => h) (by assumption) rfl ?hy2q3 ?rest2q3
  case hy2q3 => (intro wS hSw; (try dsimp only at hSw); go_simp; try with_reducible rfl)
  try simp only [Act.put, List.setIfInBounds_toArray, List.set_cons_zero, List.set_cons_succ]
  refine held_quiet 3 (v := ?v3q4) rfl (by kernel_rfl) (fun _ _ _ h => h) (by assumption) rfl ?hy3q4 ?rest3q4
  case hy3q4 => (intro wS hSw; (try dsimp only at hSw); go_simp; try with_reducible rfl)
  try simp only [Act.put, List.setIfInBounds_toArray, List.set_cons_zero, List.set_cons_succ]
  refine held_quiet 4 (v := ?v4q5) rfl (by kernel_rfl) (fun _ _ _ h => h) (by assumption) rfl ?hy4q5 ?rest4q5
  case hy4q5 => (intro wS hSw; (try dsimp only at hSw); go_simp; try with_reducible rfl)
  try simp only [Act.put, List.setIfInBounds_toArray, List.set_cons_zero, List.set_cons_succ]
  refine held_quiet 7 (v := ?v7q6) rfl (by kernel_rfl) (fun _ _ _ h => h) (by assumption) rfl ?hy7q6 ?rest7q6
  case hy7q6 => (intro wS hSw; (try dsimp only at hSw); go_simp; try with_reducible rfl)
  try simp only [Act.put, List.setIfInBounds_toArray, List.set_cons_zero, List.set_cons_succ]
  refine held_quiet 8 (v := ?v8q7) rfl (by kernel_rfl) (fun _ _ _ h => h) (by assumption) rfl ?hy8q7 ?rest8q7
  case hy8q7 => (intro wS hSw; (try dsimp only at hSw); go_simp; try with_reducible rfl)
  try simp only [Act.put, List.setIfInBounds_toArray, List.set_cons_zero, List.set_cons_succ]
  refine held_one 5 rfl (by kernel_rfl) ?_
  go_wp2
  try refine ⟨hS2, ?_⟩
  refine held_quiet 6 (v := ?v6q8) rfl (by kernel_rfl) (fun _ _ _ h => h) (by assumption) rfl ?hy6q8 ?rest6q8
  case hy6q8 => (intro wS hSw; (try dsimp only at hSw); go_simp; try with_reducible rfl)
  try simp only [Act.put, List.setIfInBounds_toArray, List.set_cons_zero, List.set_cons_succ]
  refine held_quiet 9 (v := ?v9q9) rfl (by kernel_rfl) (fun _ _ _ h => h) (by assumption) rfl ?hy9q9 ?rest9q9
  case hy9q9 => (intro wS hSw; (try dsimp only at hSw); go_simp; try with_reducible rfl)
  try simp only [Act.put, List.setIfInBounds_toArray, List.set_cons_zero, List.set_cons_succ]
  refine held_one 10 rfl (by kernel_rfl) ?_
  go_wp2
  try refine ⟨(World.cell?_setCell_other _ _ _ _ (fun e => by injection e with e1; exact n3 e1.symm)).trans cm, ?_⟩
  refine held_done (by kernel_rfl) ?_
  go_wp2
  go_ret
  refine ⟨rfl, ?_, ?_⟩
  · have I3 := HI.out.setU hr y
    first | exact I3.drew | (simp only [show (y : Int) + 1 - 1 = (y : Int) by omega]; exact I3.drew)
  · exact (Only.setCell (fun k => k = b) w ⟨b, 2 + r, none⟩ _ rfl).then (Only.drew _ _)

set_option maxRecDepth 100000 in
set_option maxHeartbeats 1000000 in
theorem Clear_busy {w : World} {b n d : Nat} {u : Nat → Nat} (h : InAt w b n d u) (hn : 1 ≤ n ∧ n ≤ 256) (r : Nat) (hr : r < (n + 3) / 4) (hu : 0 < u r) :
    Calls Tryd.prog 8 #[.pointer (some ⟨b, 0, none⟩), .int .i64 (r : Int)] w fun e w' => e = .returned (.int .i64 5) ∧ w' = w := by
  have c := h.cu r (by omega)
  have hri : (r : Int) < 64 := by omega
  have ch := has_yes h hn r hr
  obtain ⟨y, hy⟩ : ∃ y, y = u r := ⟨_, rfl⟩
  rw [← hy] at c hu
  clear h hy hr hn
  go_enter Tryd.func8, Tryd.ntmps8
  go_wp2_with fail
  refine ch.mono ?_
  rintro e w' ⟨rfl, rfl⟩
  go_wp2
  go_ret
  exact ⟨rfl, rfl⟩

set_option maxRecDepth 100000 in
set_option maxHeartbeats 1000000 in
theorem Clear_idle {w : World} {b n d : Nat} {u : Nat → Nat} (h : InAt w b n d u) (hd : d < 18446744073709551616) (hn : 1 ≤ n ∧ n ≤ 256) (r : Nat) (hr : r < (n + 3) / 4) (hu : u r = 0) :
    Calls Tryd.prog 8 #[.pointer (some ⟨b, 0, none⟩), .int .i64 (r : Int)] w fun e w' => e = .returned (.int .i64 0) ∧ InAt w' b n (In.clrB d r) u ∧ Only (fun k => k = b) w w' := by
  have c := h.cu r (by omega)
  have c1 := h.c1
  have f1 := h.fz 1
  rw [hu] at c
  have hri : (r : Int) < 64 := by omega
  have ch := has_yes h hn r hr
  have HI : Hid (InAt w b n d u) := h
  have HMX : Hid (Tryd.prog.follows .mixedOrders = true) := by show _ = _; kernel_rfl
  have E3 : Hid (bits .andNot .u64 (d : Int) ((2 ^ r : Nat) : Int) = ((In.clrB d r : Nat) : Int)) := u64_andNot_nat d (2 ^ r) hd (In.pow_lt (by omega))
  have co := one_any r (by omega)
  obtain ⟨p, hp⟩ : ∃ p, p = 2 ^ r := ⟨_, rfl⟩
  obtain ⟨z, hz⟩ : ∃ z, z = In.clrB d r := ⟨_, rfl⟩
  rw [← hp] at E3 co
  rw [← hz] at E3
  have HZ : Hid (z = In.clrB d r) := hz
  have e3 := E3.out
  have HCO : Hid (∀ W, Calls Tryd.prog 14 #[.int .i64 (r : Int)] W fun e w' => e = .returned (.int .u64 (p : Int)) ∧ w' = W) := co
  clear h hp E3 co hz hu hr hn
  go_enter Tryd.func8, Tryd.ntmps8
  go_wp2_with fail
  refine ch.mono ?_
  rintro e w' ⟨rfl, rfl⟩
  clear ch
  go_wp2_with fail
  refine wp_region_held (S := fun _ => True) HMX.out ?_
  have hS : (fun _ : World => True) w'.drew := trivial
  change wpAnyH _ _ _ _ _ _ _ _ w'.drew
  refine held_quiet 0 (v := ?v0q10) rfl (by kernel_rfl) (fun _ _ _ h => h) (by assumption) rfl ?hy0q10 ?rest0q10
  case hy0q10 => (intro wS hSw; (try dsimp only at hSw); go_simp; try with_reducible rfl)
  try simp only [Act.put, List.setIfInBounds_toArray, List.set_cons_zero, List.set_cons_succ]
  refine held_quiet 1 (v := ?v1q11) rfl (by kernel_rfl) (fun _ _ _ h => h) (by assumption) rfl ?hy1q11 ?rest1q11
  case hy1q11 => (intro wS hSw; (try dsimp only at hSw); go_simp; try with_reducible rfl)
  try simp only [Act.put, List.setIfInBounds_toArray, List.set_cons_zero, List.set_cons_succ]
  refine held_quiet 2 (v := ?v2q12) rfl (by kernel_rfl) (fun _ _ _ h => h) (by assumption) rfl ?hy2q12 ?rest2q12
  case hy2q12 => (intro wS hSw; (try dsimp only at hSw); go_simp; try with_reducible rfl)
  try simp only [Act.put, List.setIfInBounds_toArray, List.set_cons_zero, List.set_cons_succ]
  refine held_quiet 4 (v := ?v4q13) rfl (by kernel_rfl) (fun _ _ _ h => h) (by assumption) rfl ?hy4q13 ?rest4q13
  case hy4q13 => (intro wS hSw; (try dsimp only at hSw); go_simp; try with_reducible rfl)
  try simp only [Act.put, List.setIfInBounds_toArray, List.set_cons_zero, List.set_cons_succ]
  refine held_two 3 5 rfl rfl (by kernel_rfl) ?_ ?_
  · go_wp2
    try refine ⟨trivial, ?_⟩
    refine held_one 5 rfl (by kernel_rfl) ?_
    go_wp2_with (go_at_call 14; refine (HCO.out _).mono ?_; rintro e w2 ⟨rfl, rfl⟩)
    try refine ⟨trivial, ?_⟩
    refine held_quiet 6 (v := ?v6q14) rfl (by kernel_rfl) (fun _ _ _ h => h) (by assumption) rfl ?hy6q14 ?rest6q14
    case hy6q14 => (intro wS hSw; (try dsimp only at hSw); go_simp; try with_reducible rfl)
    try simp only [Act.put, List.setIfInBounds_toArray, List.set_cons_zero, List.set_cons_succ]
    refine held_quiet 7 (v := ?v7q15) rfl (by kernel_rfl) (fun _ _ _ h => h) (by assumption) rfl ?hy7q15 ?rest7q15
    case hy7q15 => (intro wS hSw; (try dsimp only at hSw); go_simp; try with_reducible rfl)
    try simp only [Act.put, List.setIfInBounds_toArray, List.set_cons_zero, List.set_cons_succ]
    refine held_quiet 8 (v := ?v8q16) rfl (by kernel_rfl) (fun _ _ _ h => h) (by assumption) rfl ?hy8q16 ?rest8q16
    case hy8q16 => (intro wS hSw; (try dsimp only at hSw); go_simp; try with_reducible rfl)
    try simp only [Act.put, List.setIfInBounds_toArray, List.set_cons_zero, List.set_cons_succ]
    refine held_one 9 rfl (by kernel_rfl) ?_
    go_wp2
    try refine ⟨trivial, ?_⟩
    refine held_done (by kernel_rfl) ?_
    go_wp2
    go_ret
    refine ⟨rfl, ?_, (Only.setCell (fun k => k = b) w' ⟨b, 1, none⟩ _ rfl).then (Only.drew _ _)⟩
    have I := HI.out.setD z
    rw [← HZ.out]
    exact I.drew
  · go_wp2_with (go_at_call 14; refine (HCO.out _).mono ?_; rintro e w2 ⟨rfl, rfl⟩)
    try refine ⟨trivial, ?_⟩
    refine held_one 3 rfl (by kernel_rfl) ?_
    go_wp2
    try refine ⟨trivial, ?_⟩
    refine held_quiet 6 (v := ?v6q17) rfl (by kernel_rfl) (fun _ _ _ h => h) (by assumption) rfl ?hy6q17 ?rest6q17
    case hy6q17 => (intro wS hSw; (try dsimp only at hSw); go_simp; try with_reducible rfl)
    try simp only [Act.put, List.setIfInBounds_toArray, List.set_cons_zero, List.set_cons_succ]
    refine held_quiet 7 (v := ?v7q18) rfl (by kernel_rfl) (fun _ _ _ h => h) (by assumption) rfl ?hy7q18 ?rest7q18
    case hy7q18 => (intro wS hSw; (try dsimp only at hSw); go_simp; try with_reducible rfl)
    try simp only [Act.put, List.setIfInBounds_toArray, List.set_cons_zero, List.set_cons_succ]
    refine held_quiet 8 (v := ?v8q19) rfl (by kernel_rfl) (fun _ _ _ h => h) (by assumption) rfl ?hy8q19 ?rest8q19
    case hy8q19 => (intro wS hSw; (try dsimp only at hSw); go_simp; try with_reducible rfl)
    try simp only [Act.put, List.setIfInBounds_toArray, List.set_cons_zero, List.set_cons_succ]
    refine held_one 9 rfl (by kernel_rfl) ?_
    go_wp2
    try refine ⟨trivial, ?_⟩
    refine held_done (by kernel_rfl) ?_
    go_wp2
    go_ret
    refine ⟨rfl, ?_, (Only.setCell (fun k => k = b) w' ⟨b, 1, none⟩ _ rfl).then (Only.drew _ _)⟩
    have I := HI.out.setD z
    rw [← HZ.out]
    exact I.drew
end Go.Proofs.YtlhgafpidkcmcaaDoor
