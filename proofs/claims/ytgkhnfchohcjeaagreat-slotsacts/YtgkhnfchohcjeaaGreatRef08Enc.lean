/- The walks of the document's own Encode and Whole of a superblock. -/
import Derived.Test.YtgkhnfchohcjeaaGreatRef08May
import Derived.Test.YtgkhnfchohcjeaaGreatSupEnc
import Derived.Test.YtgkhnfchohcjeaaGreatSupDec
import Derived.Test.YtgkhnfchohcjeaaGreatMRefC
import Derived.Test.YtgkhnfchohcjeaaGreatRef02
namespace Go.Proofs.YtgkhnfchohcjeaaGreat
open Go.RowKit

set_option maxRecDepth 100000 in
set_option maxHeartbeats 1000000 in
theorem rWidths_any (w : World) :
    Calls Tryz.prog 48 #[] w fun e w' => e = .returned (.slice (some ⟨w.heap.size, 0, none⟩) 11 11) ∧ RowI .i64 w' (some ⟨w.heap.size, 0, none⟩) 11 (fun j => Sup.wL.getD j 0) ∧ Below w.heap.size w w' := by
  have HR : Hid (RowI .i64 (w.alloc (.cells #[.int .i64 4, .int .i64 8, .int .i64 8, .int .i64 1, .int .i64 1, .int .i64 1, .int .i64 2, .int .i64 1, .int .i64 2, .int .i64 1, .int .i64 2] 3)) (some ⟨w.heap.size, 0, none⟩) 11 (fun j => Sup.wL.getD j 0)) := RowI.new .i64 w Sup.wL _ _ rfl
  go_enter Tryz.func48, Tryz.ntmps48
  go_wp2
  go_ret
  exact ⟨rfl, HR.out, (Below.refl _ _).alloc (Nat.le_refl _) _⟩

set_option maxRecDepth 100000 in
set_option maxHeartbeats 4000000 in
theorem rEncode_no (s : Su) (hm : ¬ Sup.may s) (w : World) :
    Calls Tryz.prog 24 #[supV s] w fun e w' => e = .returned (.tuple #[.string (Sup.encT s), .int .i64 (Sup.encE s)]) ∧ Below w.heap.size w w' := by
  have hM := fun W => rMay_any s W
  have hb : Sup.mayB s = false := by simp [Sup.mayB, hm]
  have E : Hid (Sup.encT s = ⟨#[]⟩ ∧ Sup.encE s = 1) := by show _ ∧ _; simp [Sup.encT, Sup.encE, hb]
  rw [hb] at hM
  obtain ⟨uu, ev, role, c, k, r, cl, b, nw, g⟩ := s
  unfold supV at *
  dsimp only at hM ⊢
  clear hm hb
  go_enter Tryz.func24, Tryz.ntmps24
  go_wp2_with fail
  refine (hM _).mono ?_
  rintro e w1 ⟨rfl, hb1⟩
  have HB : Hid (Below w.heap.size w w1) := ((Below.refl w.heap.size w).alloc (Nat.le_refl _) _).trans (hb1.mono (by rw [World.size_alloc]; omega))
  clear hb1
  go_wp2
  go_ret2
  exact ⟨by rw [E.out.1, E.out.2]; rfl, HB.out⟩
set_option maxRecDepth 100000 in
set_option maxHeartbeats 8000000 in
theorem rEncode_on (uu ev role c k r b nw g : Nat) (hI : Su.In ⟨uu, ev, (role : Int), (c : Int), (k : Int), (r : Int), true, (b : Int), (nw : Int), (g : Int)⟩) (hm : Sup.may ⟨uu, ev, (role : Int), (c : Int), (k : Int), (r : Int), true, (b : Int), (nw : Int), (g : Int)⟩) (w : World) :
    Calls Tryz.prog 24 #[supV ⟨uu, ev, (role : Int), (c : Int), (k : Int), (r : Int), true, (b : Int), (nw : Int), (g : Int)⟩] w fun e w' => e = .returned (.tuple #[.string (Sup.encT ⟨uu, ev, (role : Int), (c : Int), (k : Int), (r : Int), true, (b : Int), (nw : Int), (g : Int)⟩), .int .i64 (Sup.encE ⟨uu, ev, (role : Int), (c : Int), (k : Int), (r : Int), true, (b : Int), (nw : Int), (g : Int)⟩)]) ∧ Below w.heap.size w w' := by
  have hM := fun W => rMay_any ⟨uu, ev, (role : Int), (c : Int), (k : Int), (r : Int), true, (b : Int), (nw : Int), (g : Int)⟩ W
  have hF := Sup.Fit.of_may hm hI.uu hI.ev
  have hb : Sup.mayB ⟨uu, ev, (role : Int), (c : Int), (k : Int), (r : Int), true, (b : Int), (nw : Int), (g : Int)⟩ = true := by simp [Sup.mayB, hm]
  rw [hb] at hM
  have EN : Sup.nums Sup.magic ⟨uu, ev, (role : Int), (c : Int), (k : Int), (r : Int), true, (b : Int), (nw : Int), (g : Int)⟩ = [827610706, uu, ev, role, c, k, r, 1, b, nw, g] := by simp [Sup.nums, Sup.magic]
  have hP := fun (x y : Option Addr) (cx cy : Nat) (W : World) (hx : RowI .u64 W x 11 (fun j => ((Sup.nums Sup.magic ⟨uu, ev, (role : Int), (c : Int), (k : Int), (r : Int), true, (b : Int), (nw : Int), (g : Int)⟩).getD j 0 : Nat))) (hy : RowI .i64 W y 11 (fun j => Sup.wL.getD j 0)) => refEncode_any (Sup.nums Sup.magic ⟨uu, ev, (role : Int), (c : Int), (k : Int), (r : Int), true, (b : Int), (nw : Int), (g : Int)⟩) Sup.wL (by rw [Sup.nums_length]; decide) (by decide) hF.lt x y cx cy W hx hy
  rw [Sup.encE_fit hF] at hP
  obtain ⟨q, hq⟩ : ∃ q, Pk.encS (Sup.nums Sup.magic ⟨uu, ev, (role : Int), (c : Int), (k : Int), (r : Int), true, (b : Int), (nw : Int), (g : Int)⟩) Sup.wL = q := ⟨_, rfl⟩
  have hqs : q.size = 31 := by rw [← hq]; exact Sup.encS_size hF
  rw [hq] at hP
  have ES : Hid (Sup.encT ⟨uu, ev, (role : Int), (c : Int), (k : Int), (r : Int), true, (b : Int), (nw : Int), (g : Int)⟩ = Crc.sealB q 64 ∧ Sup.encE ⟨uu, ev, (role : Int), (c : Int), (k : Int), (r : Int), true, (b : Int), (nw : Int), (g : Int)⟩ = 0) := by show _ ∧ _; rw [← hq]; simp [Sup.encT, Sup.encE, hb, Sup.secT]
  have hS := fun W => refSeal_yes q 64 (by decide) (by decide) (by omega) W
  rw [show (Sup.nums Sup.magic ⟨uu, ev, (role : Int), (c : Int), (k : Int), (r : Int), true, (b : Int), (nw : Int), (g : Int)⟩).length = 11 from rfl, show Sup.wL.length = 11 from rfl] at hP
  rw [EN] at hP
  have HP : Hid _ := hP
  have HR : Hid (∀ W : World, RowI .u64 (W.alloc (.cells #[.int .u64 827610706, .int .u64 (uu : Int), .int .u64 (ev : Int), .int .u64 (role : Int), .int .u64 (c : Int), .int .u64 (k : Int), .int .u64 (r : Int), .int .u64 1, .int .u64 (b : Int), .int .u64 (nw : Int), .int .u64 (g : Int)] 28)) (some ⟨W.heap.size, 0, none⟩) 11 (fun j => (([827610706, uu, ev, role, c, k, r, 1, b, nw, g]).getD j 0 : Nat))) := fun W => RowI.newN .u64 W [827610706, uu, ev, role, c, k, r, 1, b, nw, g] #[.int .u64 827610706, .int .u64 (uu : Int), .int .u64 (ev : Int), .int .u64 (role : Int), .int .u64 (c : Int), .int .u64 (k : Int), .int .u64 (r : Int), .int .u64 1, .int .u64 (b : Int), .int .u64 (nw : Int), .int .u64 (g : Int)] _ rfl
  have w_role : IntKind.u64.wrap (role : Int) = (role : Int) := by have := hF.role.2; rw [IntKind.wrap_u64]; simp only at this; omega
  have w_c : IntKind.u64.wrap (c : Int) = (c : Int) := by have := hF.c.2; rw [IntKind.wrap_u64]; simp only at this; omega
  have w_k : IntKind.u64.wrap (k : Int) = (k : Int) := by have := hF.k.2; rw [IntKind.wrap_u64]; simp only at this; omega
  have w_r : IntKind.u64.wrap (r : Int) = (r : Int) := by have := hF.r.2; rw [IntKind.wrap_u64]; simp only at this; omega
  have w_b : IntKind.u64.wrap (b : Int) = (b : Int) := by have := hF.b.2; rw [IntKind.wrap_u64]; simp only at this; omega
  have w_nw : IntKind.u64.wrap (nw : Int) = (nw : Int) := by have := hF.nw.2; rw [IntKind.wrap_u64]; simp only at this; omega
  have w_g : IntKind.u64.wrap (g : Int) = (g : Int) := by have := hF.g.2; rw [IntKind.wrap_u64]; simp only at this; omega
  have HN : Hid _ := SupAt.new w ⟨uu, ev, (role : Int), (c : Int), (k : Int), (r : Int), true, (b : Int), (nw : Int), (g : Int)⟩ 39
  have HMX : Hid (Tryz.prog.follows .mixedOrders = true) := by show _ = _; kernel_rfl
  have HW := rWidths_any
  unfold supV at *
  dsimp only at hM ⊢
  clear hm hb hI hF hq EN hP
  go_enter Tryz.func24, Tryz.ntmps24
  go_wp2_with fail
  refine (hM _).mono ?_
  rintro e w1 ⟨rfl, hb1⟩
  have HB : Hid (Below w.heap.size w w1) := ((Below.refl w.heap.size w).alloc (Nat.le_refl _) _).trans (hb1.mono (by rw [World.size_alloc]; omega))
  have hs1 := SupAt.below (show SupAt _ w.heap.size 0 ⟨uu, ev, (role : Int), (c : Int), (k : Int), (r : Int), true, (b : Int), (nw : Int), (g : Int)⟩ from HN.out) hb1 (by rw [World.size_alloc]; omega)
  have HS1 : Hid (SupAt w1 w.heap.size 0 ⟨uu, ev, (role : Int), (c : Int), (k : Int), (r : Int), true, (b : Int), (nw : Int), (g : Int)⟩) := hs1
  obtain ⟨m0, m1, m2, m3, m4, m5, m6, m7, m8, m9⟩ := hs1
  simp only [Nat.zero_add] at m1 m2 m3 m4 m5 m6 m7 m8 m9
  have lt1 : w.heap.size < w1.heap.size := World.block_lt_of_cell? w1 _ m0
  clear hb1 HN
  go_wp2_with fail
  refine wp_region_held (S := fun W => W.cell? ⟨w.heap.size, 0, none⟩ = some (.int .u64 (uu : Int)) ∧ W.cell? ⟨w.heap.size, 1, none⟩ = some (.int .u64 (ev : Int)) ∧ W.cell? ⟨w.heap.size, 2, none⟩ = some (.int .i64 (role : Int)) ∧ W.cell? ⟨w.heap.size, 3, none⟩ = some (.int .i64 (c : Int)) ∧ W.cell? ⟨w.heap.size, 4, none⟩ = some (.int .i64 (k : Int)) ∧ W.cell? ⟨w.heap.size, 5, none⟩ = some (.int .i64 (r : Int)) ∧ W.cell? ⟨w.heap.size, 6, none⟩ = some (.bool true) ∧ W.cell? ⟨w.heap.size, 7, none⟩ = some (.int .i64 (b : Int)) ∧ W.cell? ⟨w.heap.size, 8, none⟩ = some (.int .i64 (nw : Int)) ∧ W.cell? ⟨w.heap.size, 9, none⟩ = some (.int .i64 (g : Int))) HMX.out ?_
  have hS0 : (fun W : World => W.cell? ⟨w.heap.size, 0, none⟩ = some (.int .u64 (uu : Int)) ∧ W.cell? ⟨w.heap.size, 1, none⟩ = some (.int .u64 (ev : Int)) ∧ W.cell? ⟨w.heap.size, 2, none⟩ = some (.int .i64 (role : Int)) ∧ W.cell? ⟨w.heap.size, 3, none⟩ = some (.int .i64 (c : Int)) ∧ W.cell? ⟨w.heap.size, 4, none⟩ = some (.int .i64 (k : Int)) ∧ W.cell? ⟨w.heap.size, 5, none⟩ = some (.int .i64 (r : Int)) ∧ W.cell? ⟨w.heap.size, 6, none⟩ = some (.bool true) ∧ W.cell? ⟨w.heap.size, 7, none⟩ = some (.int .i64 (b : Int)) ∧ W.cell? ⟨w.heap.size, 8, none⟩ = some (.int .i64 (nw : Int)) ∧ W.cell? ⟨w.heap.size, 9, none⟩ = some (.int .i64 (g : Int))) w1.drew := ⟨m0, m1, m2, m3, m4, m5, m6, m7, m8, m9⟩
  clear m0 m1 m2 m3 m4 m5 m6 m7 m8 m9
  change wpAnyH _ _ _ _ _ _ _ _ w1.drew
  refine held_quiet 0 (v := ?v0q1) rfl (by kernel_rfl) (fun _ _ _ h => h) (by assumption) rfl ?hy0q1 ?rest0q1
  case hy0q1 => (intro wS hSw; (try dsimp only at hSw); go_simp; try with_reducible rfl)
  try simp only [Act.put, List.setIfInBounds_toArray, List.set_cons_zero, List.set_cons_succ]
  refine held_quiet 1 (v := ?v1q2) rfl (by kernel_rfl) (fun _ _ _ h => h) (by assumption) rfl ?hy1q2 ?rest1q2
  case hy1q2 => (intro wS hSw; (try dsimp only at hSw); go_simp; try with_reducible rfl)
  try simp only [Act.put, List.setIfInBounds_toArray, List.set_cons_zero, List.set_cons_succ]
  refine held_quiet 2 (v := ?v2q3) rfl (by kernel_rfl) (fun _ _ _ h => h) (by assumption) rfl ?hy2q3 ?rest2q3
  case hy2q3 => (intro wS hSw; (try dsimp only at hSw); go_simp; try with_reducible rfl)
  try simp only [Act.put, List.setIfInBounds_toArray, List.set_cons_zero, List.set_cons_succ]
  refine held_quiet 3 (v := ?v3q4) rfl (by kernel_rfl) (fun _ _ _ h => h) (by assumption) rfl ?hy3q4 ?rest3q4
  case hy3q4 => (intro wS hSw; (try dsimp only at hSw); go_simp; try with_reducible rfl)
  try simp only [Act.put, List.setIfInBounds_toArray, List.set_cons_zero, List.set_cons_succ]
  refine held_quiet 4 (v := ?v4q5) rfl (by kernel_rfl) (fun _ _ _ h => h) (by assumption) rfl ?hy4q5 ?rest4q5
  case hy4q5 => (intro wS hSw; (try dsimp only at hSw); go_simp; try with_reducible rfl)
  try simp only [Act.put, List.setIfInBounds_toArray, List.set_cons_zero, List.set_cons_succ]
  refine held_quiet 5 (v := ?v5q6) rfl (by kernel_rfl) (fun _ _ _ h => h) (by assumption) rfl ?hy5q6 ?rest5q6
  case hy5q6 => (intro wS hSw; (try dsimp only at hSw); go_simp; try with_reducible rfl)
  try simp only [Act.put, List.setIfInBounds_toArray, List.set_cons_zero, List.set_cons_succ]
  refine held_quiet 6 (v := ?v6q7) rfl (by kernel_rfl) (fun _ _ _ h => h) (by assumption) rfl ?hy6q7 ?rest6q7
  case hy6q7 => (intro wS hSw; (try dsimp only at hSw); go_simp; try with_reducible rfl)
  try simp only [Act.put, List.setIfInBounds_toArray, List.set_cons_zero, List.set_cons_succ]
  refine held_quiet 7 (v := ?v7q8) rfl (by kernel_rfl) (fun _ _ _ h => h) (by assumption) rfl ?hy7q8 ?rest7q8
  case hy7q8 => (intro wS hSw; (try dsimp only at hSw); go_simp; try with_reducible rfl)
  try simp only [Act.put, List.setIfInBounds_toArray, List.set_cons_zero, List.set_cons_succ]
  refine held_quiet 8 (v := ?v8q9) rfl (by kernel_rfl) (fun _ _ _ h => h) (by assumption) rfl ?hy8q9 ?rest8q9
  case hy8q9 => (intro wS hSw; (try dsimp only at hSw); go_simp; try with_reducible rfl)
  try simp only [Act.put, List.setIfInBounds_toArray, List.set_cons_zero, List.set_cons_succ]
  refine held_quiet 9 (v := ?v9q10) rfl (by kernel_rfl) (fun _ _ _ h => h) (by assumption) rfl ?hy9q10 ?rest9q10
  case hy9q10 => (intro wS hSw; (try dsimp only at hSw); go_simp; try with_reducible rfl)
  try simp only [Act.put, List.setIfInBounds_toArray, List.set_cons_zero, List.set_cons_succ]
  refine held_quiet 10 (v := ?v10q11) rfl (by kernel_rfl) (fun _ _ _ h => h) (by assumption) rfl ?hy10q11 ?rest10q11
  case hy10q11 => (intro wS hSw; (try dsimp only at hSw); go_simp; try with_reducible rfl)
  try simp only [Act.put, List.setIfInBounds_toArray, List.set_cons_zero, List.set_cons_succ]
  refine held_quiet 11 (v := ?v11q12) rfl (by kernel_rfl) (fun _ _ _ h => h) (by assumption) rfl ?hy11q12 ?rest11q12
  case hy11q12 => (intro wS hSw; (try dsimp only at hSw); go_simp; try with_reducible rfl)
  try simp only [Act.put, List.setIfInBounds_toArray, List.set_cons_zero, List.set_cons_succ]
  refine held_quiet 12 (v := ?v12q13) rfl (by kernel_rfl) (fun _ _ _ h => h) (by assumption) rfl ?hy12q13 ?rest12q13
  case hy12q13 => (intro wS hSw; (try dsimp only at hSw); go_simp; try with_reducible rfl)
  try simp only [Act.put, List.setIfInBounds_toArray, List.set_cons_zero, List.set_cons_succ]
  refine held_quiet 13 (v := ?v13q14) rfl (by kernel_rfl) (fun _ _ _ h => h) (by assumption) rfl ?hy13q14 ?rest13q14
  case hy13q14 => (intro wS hSw; (try dsimp only at hSw); go_simp; try with_reducible rfl)
  try simp only [Act.put, List.setIfInBounds_toArray, List.set_cons_zero, List.set_cons_succ]
  refine held_quiet 14 (v := ?v14q15) rfl (by kernel_rfl) (fun _ _ _ h => h) (by assumption) rfl ?hy14q15 ?rest14q15
  case hy14q15 => (intro wS hSw; (try dsimp only at hSw); go_simp; try with_reducible rfl)
  try simp only [Act.put, List.setIfInBounds_toArray, List.set_cons_zero, List.set_cons_succ]
  refine held_quiet 15 (v := ?v15q16) rfl (by kernel_rfl) (fun _ _ _ h => h) (by assumption) rfl ?hy15q16 ?rest15q16
  case hy15q16 => (intro wS hSw; (try dsimp only at hSw); go_simp; try with_reducible rfl)
  try simp only [Act.put, List.setIfInBounds_toArray, List.set_cons_zero, List.set_cons_succ]
  refine held_quiet 16 (v := ?v16q17) rfl (by kernel_rfl) (fun _ _ _ h => h) (by assumption) rfl ?hy16q17 ?rest16q17
  case hy16q17 => (intro wS hSw; (try dsimp only at hSw); go_simp; try with_reducible rfl)
  try simp only [Act.put, List.setIfInBounds_toArray, List.set_cons_zero, List.set_cons_succ]
  refine held_quiet 17 (v := ?v17q18) rfl (by kernel_rfl) (fun _ _ _ h => h) (by assumption) rfl ?hy17q18 ?rest17q18
  case hy17q18 => (intro wS hSw; (try dsimp only at hSw); go_simp; try with_reducible rfl)
  try simp only [Act.put, List.setIfInBounds_toArray, List.set_cons_zero, List.set_cons_succ]
  refine held_quiet 18 (v := ?v18q19) rfl (by kernel_rfl) (fun _ _ _ h => h) (by assumption) rfl ?hy18q19 ?rest18q19
  case hy18q19 => (intro wS hSw; (try dsimp only at hSw); go_simp; try with_reducible rfl)
  try simp only [Act.put, List.setIfInBounds_toArray, List.set_cons_zero, List.set_cons_succ]
  refine held_quiet 19 (v := ?v19q20) rfl (by kernel_rfl) (fun _ _ _ h => h) (by assumption) rfl ?hy19q20 ?rest19q20
  case hy19q20 => (intro wS hSw; (try dsimp only at hSw); go_simp; try with_reducible rfl)
  try simp only [Act.put, List.setIfInBounds_toArray, List.set_cons_zero, List.set_cons_succ]
  refine held_quiet 20 (v := ?v20q21) rfl (by kernel_rfl) (fun _ _ _ h => h) (by assumption) rfl ?hy20q21 ?rest20q21
  case hy20q21 => (intro wS hSw; (try dsimp only at hSw); go_simp; try with_reducible rfl)
  try simp only [Act.put, List.setIfInBounds_toArray, List.set_cons_zero, List.set_cons_succ]
  refine held_quiet 21 (v := ?v21q22) rfl (by kernel_rfl) (fun _ _ _ h => h) (by assumption) rfl ?hy21q22 ?rest21q22
  case hy21q22 => (intro wS hSw; (try dsimp only at hSw); go_simp; try with_reducible rfl)
  try simp only [Act.put, List.setIfInBounds_toArray, List.set_cons_zero, List.set_cons_succ]
  refine held_quiet 22 (v := ?v22q23) rfl (by kernel_rfl) (fun _ _ _ h => h) (by assumption) rfl ?hy22q23 ?rest22q23
  case hy22q23 => (intro wS hSw; (try dsimp only at hSw); go_simp; try with_reducible rfl)
  try simp only [Act.put, List.setIfInBounds_toArray, List.set_cons_zero, List.set_cons_succ]
  refine held_quiet 23 (v := ?v23q24) rfl (by kernel_rfl) (fun _ _ _ h => h) (by assumption) rfl ?hy23q24 ?rest23q24
  case hy23q24 => (intro wS hSw; (try dsimp only at hSw); go_simp; try with_reducible rfl)
  try simp only [Act.put, List.setIfInBounds_toArray, List.set_cons_zero, List.set_cons_succ]
  refine held_quiet 24 (v := ?v24q25) rfl (by kernel_rfl) (fun _ _ _ h => h) (by assumption) rfl ?hy24q25 ?rest24q25
  case hy24q25 => (intro wS hSw; (try dsimp only at hSw); go_simp; try with_reducible rfl)
  try simp only [Act.put, List.setIfInBounds_toArray, List.set_cons_zero, List.set_cons_succ]
  refine held_quiet 25 (v := ?v25q26) rfl (by kernel_rfl) (fun _ _ _ h => h) (by assumption) rfl ?hy25q26 ?rest25q26
  case hy25q26 => (intro wS hSw; (try dsimp only at hSw); go_simp; try with_reducible rfl)
  try simp only [Act.put, List.setIfInBounds_toArray, List.set_cons_zero, List.set_cons_succ]
  refine held_quiet 26 (v := ?v26q27) rfl (by kernel_rfl) (fun _ _ _ h => h) (by assumption) rfl ?hy26q27 ?rest26q27
  case hy26q27 => (intro wS hSw; (try dsimp only at hSw); go_simp; try with_reducible rfl)
  try simp only [Act.put, List.setIfInBounds_toArray, List.set_cons_zero, List.set_cons_succ]
  refine held_quiet 27 (v := ?v27q28) rfl (by kernel_rfl) (fun _ _ _ h => h) (by assumption) rfl ?hy27q28 ?rest27q28
  case hy27q28 => (intro wS hSw; (try dsimp only at hSw); go_simp; try with_reducible rfl)
  try simp only [Act.put, List.setIfInBounds_toArray, List.set_cons_zero, List.set_cons_succ]
  refine held_quiet 28 (v := ?v28q29) rfl (by kernel_rfl) (fun _ _ _ h => h) (by assumption) rfl ?hy28q29 ?rest28q29
  case hy28q29 => (intro wS hSw; (try dsimp only at hSw); go_simp; try with_reducible rfl)
  try simp only [Act.put, List.setIfInBounds_toArray, List.set_cons_zero, List.set_cons_succ]
  refine held_two 29 30 rfl rfl (by kernel_rfl) ?_ ?_
  · go_wp2
    try refine ⟨HS1.out, ?_⟩
    have HBa : Hid (Below w1.heap.size w1 (w1.alloc (.cells #[.int .u64 827610706, .int .u64 (uu : Int), .int .u64 (ev : Int), .int .u64 (role : Int), .int .u64 (c : Int), .int .u64 (k : Int), .int .u64 (r : Int), .int .u64 1, .int .u64 (b : Int), .int .u64 (nw : Int), .int .u64 (g : Int)] 28))) := (Below.refl _ _).alloc (Nat.le_refl _) _
    have ra := HR.out w1
    generalize (w1.alloc (.cells #[.int .u64 827610706, .int .u64 (uu : Int), .int .u64 (ev : Int), .int .u64 (role : Int), .int .u64 (c : Int), .int .u64 (k : Int), .int .u64 (r : Int), .int .u64 1, .int .u64 (b : Int), .int .u64 (nw : Int), .int .u64 (g : Int)] 28)) = wa at *
    have hSa := SupAt.below HS1.out HBa.out lt1
    have HSA : Hid (SupAt wa w.heap.size 0 ⟨uu, ev, (role : Int), (c : Int), (k : Int), (r : Int), true, (b : Int), (nw : Int), (g : Int)⟩) := hSa
    have HRA : Hid _ := ra
    clear ra hS0 hSa
    refine held_one 30 rfl (by kernel_rfl) ?_
    go_wp2_with fail
    refine (HW _).mono ?_
    rintro e wc ⟨rfl, rc, hbc⟩
    have hbc : Below wa.heap.size wa wc := (Below.refl _ wa).drew.trans hbc
    have HRC : Hid _ := RowI.below HRA.out hbc
    have HRD : Hid _ := rc
    have HSC : Hid (SupAt wc w.heap.size 0 ⟨uu, ev, (role : Int), (c : Int), (k : Int), (r : Int), true, (b : Int), (nw : Int), (g : Int)⟩) := SupAt.below HSA.out hbc (SupAt.lt HSA.out)
    have HBC : Hid (Below w1.heap.size w1 wc) := HBa.out.trans (hbc.mono HBa.out.size)
    clear rc hbc HRA HSA HBa
    go_wp2
    try refine ⟨HSC.out, ?_⟩
    have hE := HP.out _ _ 11 11 wc HRC.out HRD.out
    clear HRC HRD HR
    refine held_one 31 rfl (by kernel_rfl) ?_
    go_wp2_with fail
    refine hE.mono ?_
    rintro e we ⟨rfl, hbe⟩
    have hSe := SupAt.below HSC.out hbe (SupAt.lt HSC.out)
    have HBE : Hid (Below w1.heap.size w1 we) := HBC.out.trans (hbe.mono HBC.out.size)
    clear hbe hE HSC HBC
    go_wp2
    try refine ⟨hSe, ?_⟩
    refine held_quiet 32 (v := ?v32q30) rfl (by kernel_rfl) (fun _ _ _ h => h) (by assumption) rfl ?hy32q30 ?rest32q30
    case hy32q30 => (intro wS hSw; (try dsimp only at hSw); go_simp; try with_reducible rfl)
    try simp only [Act.put, List.setIfInBounds_toArray, List.set_cons_zero, List.set_cons_succ]
    refine held_quiet 33 (v := ?v33q31) rfl (by kernel_rfl) (fun _ _ _ h => h) (by assumption) rfl ?hy33q31 ?rest33q31
    case hy33q31 => (intro wS hSw; (try dsimp only at hSw); go_simp; try with_reducible rfl)
    try simp only [Act.put, List.setIfInBounds_toArray, List.set_cons_zero, List.set_cons_succ]
    refine held_quiet 34 (v := ?v34q32) rfl (by kernel_rfl) (fun _ _ _ h => h) (by assumption) rfl ?hy34q32 ?rest34q32
    case hy34q32 => (intro wS hSw; (try dsimp only at hSw); go_simp; try with_reducible rfl)
    try simp only [Act.put, List.setIfInBounds_toArray, List.set_cons_zero, List.set_cons_succ]
    refine held_quiet 35 (v := ?v35q33) rfl (by kernel_rfl) (fun _ _ _ h => h) (by assumption) rfl ?hy35q33 ?rest35q33
    case hy35q33 => (intro wS hSw; (try dsimp only at hSw); go_simp; try with_reducible rfl)
    try simp only [Act.put, List.setIfInBounds_toArray, List.set_cons_zero, List.set_cons_succ]
    refine held_quiet 36 (v := ?v36q34) rfl (by kernel_rfl) (fun _ _ _ h => h) (by assumption) rfl ?hy36q34 ?rest36q34
    case hy36q34 => (intro wS hSw; (try dsimp only at hSw); go_simp; try with_reducible rfl)
    try simp only [Act.put, List.setIfInBounds_toArray, List.set_cons_zero, List.set_cons_succ]
    refine held_done (by kernel_rfl) ?_
    clear hSe
    go_wp2_with fail
    refine (hS _).mono ?_
    rintro e wf ⟨rfl, hbf⟩
    have HBF : Hid (Below we.heap.size we wf) := hbf
    clear hbf
    go_wp2
    go_ret2
    exact ⟨by rw [ES.out.1, ES.out.2]; rfl, below4 HB.out HBE.out HBF.out (Below.refl _ _)⟩
  · go_wp2_with fail
    refine (HW _).mono ?_
    rintro e wb ⟨rfl, rb, hbb⟩
    have hbb : Below w1.heap.size w1 wb := (Below.refl _ w1).drew.trans hbb
    have HBB : Hid (Below w1.heap.size w1 wb) := hbb
    have HSB : Hid (SupAt wb w.heap.size 0 ⟨uu, ev, (role : Int), (c : Int), (k : Int), (r : Int), true, (b : Int), (nw : Int), (g : Int)⟩) := SupAt.below HS1.out hbb lt1
    have HRB : Hid _ := rb
    clear rb hbb hS0
    go_wp2
    try refine ⟨HSB.out, ?_⟩
    refine held_one 29 rfl (by kernel_rfl) ?_
    go_wp2
    have HBC : Hid (Below w1.heap.size w1 (wb.alloc (.cells #[.int .u64 827610706, .int .u64 (uu : Int), .int .u64 (ev : Int), .int .u64 (role : Int), .int .u64 (c : Int), .int .u64 (k : Int), .int .u64 (r : Int), .int .u64 1, .int .u64 (b : Int), .int .u64 (nw : Int), .int .u64 (g : Int)] 28))) := HBB.out.alloc HBB.out.size _
    have HSC : Hid (SupAt (wb.alloc (.cells #[.int .u64 827610706, .int .u64 (uu : Int), .int .u64 (ev : Int), .int .u64 (role : Int), .int .u64 (c : Int), .int .u64 (k : Int), .int .u64 (r : Int), .int .u64 1, .int .u64 (b : Int), .int .u64 (nw : Int), .int .u64 (g : Int)] 28)) w.heap.size 0 ⟨uu, ev, (role : Int), (c : Int), (k : Int), (r : Int), true, (b : Int), (nw : Int), (g : Int)⟩) := SupAt.below HSB.out ((Below.refl _ wb).alloc (Nat.le_refl _) _) (SupAt.lt HSB.out)
    have HRC : Hid _ := HR.out wb
    have HRD : Hid _ := RowI.below HRB.out ((Below.refl wb.heap.size wb).alloc (Nat.le_refl _) (.cells #[.int .u64 827610706, .int .u64 (uu : Int), .int .u64 (ev : Int), .int .u64 (role : Int), .int .u64 (c : Int), .int .u64 (k : Int), .int .u64 (r : Int), .int .u64 1, .int .u64 (b : Int), .int .u64 (nw : Int), .int .u64 (g : Int)] 28))
    clear HRB HSB HBB
    try refine ⟨HSC.out, ?_⟩
    generalize (wb.alloc (.cells #[.int .u64 827610706, .int .u64 (uu : Int), .int .u64 (ev : Int), .int .u64 (role : Int), .int .u64 (c : Int), .int .u64 (k : Int), .int .u64 (r : Int), .int .u64 1, .int .u64 (b : Int), .int .u64 (nw : Int), .int .u64 (g : Int)] 28)) = wc at *
    have hE := HP.out _ _ 11 11 wc HRC.out HRD.out
    clear HRC HRD HR
    refine held_one 31 rfl (by kernel_rfl) ?_
    go_wp2_with fail
    refine hE.mono ?_
    rintro e we ⟨rfl, hbe⟩
    have hSe := SupAt.below HSC.out hbe (SupAt.lt HSC.out)
    have HBE : Hid (Below w1.heap.size w1 we) := HBC.out.trans (hbe.mono HBC.out.size)
    clear hbe hE HSC HBC
    go_wp2
    try refine ⟨hSe, ?_⟩
    refine held_quiet 32 (v := ?v32q35) rfl (by kernel_rfl) (fun _ _ _ h => h) (by assumption) rfl ?hy32q35 ?rest32q35
    case hy32q35 => (intro wS hSw; (try dsimp only at hSw); go_simp; try with_reducible rfl)
    try simp only [Act.put, List.setIfInBounds_toArray, List.set_cons_zero, List.set_cons_succ]
    refine held_quiet 33 (v := ?v33q36) rfl (by kernel_rfl) (fun _ _ _ h => h) (by assumption) rfl ?hy33q36 ?rest33q36
    case hy33q36 => (intro wS hSw; (try dsimp only at hSw); go_simp; try with_reducible rfl)
    try simp only [Act.put, List.setIfInBounds_toArray, List.set_cons_zero, List.set_cons_succ]
    refine held_quiet 34 (v := ?v34q37) rfl (by kernel_rfl) (fun _ _ _ h => h) (by assumption) rfl ?hy34q37 ?rest34q37
    case hy34q37 => (intro wS hSw; (try dsimp only at hSw); go_simp; try with_reducible rfl)
    try simp only [Act.put, List.setIfInBounds_toArray, List.set_cons_zero, List.set_cons_succ]
    refine held_quiet 35 (v := ?v35q38) rfl (by kernel_rfl) (fun _ _ _ h => h) (by assumption) rfl ?hy35q38 ?rest35q38
    case hy35q38 => (intro wS hSw; (try dsimp only at hSw); go_simp; try with_reducible rfl)
    try simp only [Act.put, List.setIfInBounds_toArray, List.set_cons_zero, List.set_cons_succ]
    refine held_quiet 36 (v := ?v36q39) rfl (by kernel_rfl) (fun _ _ _ h => h) (by assumption) rfl ?hy36q39 ?rest36q39
    case hy36q39 => (intro wS hSw; (try dsimp only at hSw); go_simp; try with_reducible rfl)
    try simp only [Act.put, List.setIfInBounds_toArray, List.set_cons_zero, List.set_cons_succ]
    refine held_done (by kernel_rfl) ?_
    clear hSe
    go_wp2_with fail
    refine (hS _).mono ?_
    rintro e wf ⟨rfl, hbf⟩
    have HBF : Hid (Below we.heap.size we wf) := hbf
    clear hbf
    go_wp2
    go_ret2
    exact ⟨by rw [ES.out.1, ES.out.2]; rfl, below4 HB.out HBE.out HBF.out (Below.refl _ _)⟩
set_option maxRecDepth 100000 in
set_option maxHeartbeats 8000000 in
theorem rEncode_off (uu ev role c k r b nw g : Nat) (hI : Su.In ⟨uu, ev, (role : Int), (c : Int), (k : Int), (r : Int), false, (b : Int), (nw : Int), (g : Int)⟩) (hm : Sup.may ⟨uu, ev, (role : Int), (c : Int), (k : Int), (r : Int), false, (b : Int), (nw : Int), (g : Int)⟩) (w : World) :
    Calls Tryz.prog 24 #[supV ⟨uu, ev, (role : Int), (c : Int), (k : Int), (r : Int), false, (b : Int), (nw : Int), (g : Int)⟩] w fun e w' => e = .returned (.tuple #[.string (Sup.encT ⟨uu, ev, (role : Int), (c : Int), (k : Int), (r : Int), false, (b : Int), (nw : Int), (g : Int)⟩), .int .i64 (Sup.encE ⟨uu, ev, (role : Int), (c : Int), (k : Int), (r : Int), false, (b : Int), (nw : Int), (g : Int)⟩)]) ∧ Below w.heap.size w w' := by
  have hM := fun W => rMay_any ⟨uu, ev, (role : Int), (c : Int), (k : Int), (r : Int), false, (b : Int), (nw : Int), (g : Int)⟩ W
  have hF := Sup.Fit.of_may hm hI.uu hI.ev
  have hb : Sup.mayB ⟨uu, ev, (role : Int), (c : Int), (k : Int), (r : Int), false, (b : Int), (nw : Int), (g : Int)⟩ = true := by simp [Sup.mayB, hm]
  rw [hb] at hM
  have EN : Sup.nums Sup.magic ⟨uu, ev, (role : Int), (c : Int), (k : Int), (r : Int), false, (b : Int), (nw : Int), (g : Int)⟩ = [827610706, uu, ev, role, c, k, r, 0, b, nw, g] := by simp [Sup.nums, Sup.magic]
  have hP := fun (x y : Option Addr) (cx cy : Nat) (W : World) (hx : RowI .u64 W x 11 (fun j => ((Sup.nums Sup.magic ⟨uu, ev, (role : Int), (c : Int), (k : Int), (r : Int), false, (b : Int), (nw : Int), (g : Int)⟩).getD j 0 : Nat))) (hy : RowI .i64 W y 11 (fun j => Sup.wL.getD j 0)) => refEncode_any (Sup.nums Sup.magic ⟨uu, ev, (role : Int), (c : Int), (k : Int), (r : Int), false, (b : Int), (nw : Int), (g : Int)⟩) Sup.wL (by rw [Sup.nums_length]; decide) (by decide) hF.lt x y cx cy W hx hy
  rw [Sup.encE_fit hF] at hP
  obtain ⟨q, hq⟩ : ∃ q, Pk.encS (Sup.nums Sup.magic ⟨uu, ev, (role : Int), (c : Int), (k : Int), (r : Int), false, (b : Int), (nw : Int), (g : Int)⟩) Sup.wL = q := ⟨_, rfl⟩
  have hqs : q.size = 31 := by rw [← hq]; exact Sup.encS_size hF
  rw [hq] at hP
  have ES : Hid (Sup.encT ⟨uu, ev, (role : Int), (c : Int), (k : Int), (r : Int), false, (b : Int), (nw : Int), (g : Int)⟩ = Crc.sealB q 64 ∧ Sup.encE ⟨uu, ev, (role : Int), (c : Int), (k : Int), (r : Int), false, (b : Int), (nw : Int), (g : Int)⟩ = 0) := by show _ ∧ _; rw [← hq]; simp [Sup.encT, Sup.encE, hb, Sup.secT]
  have hS := fun W => refSeal_yes q 64 (by decide) (by decide) (by omega) W
  rw [show (Sup.nums Sup.magic ⟨uu, ev, (role : Int), (c : Int), (k : Int), (r : Int), false, (b : Int), (nw : Int), (g : Int)⟩).length = 11 from rfl, show Sup.wL.length = 11 from rfl] at hP
  rw [EN] at hP
  have HP : Hid _ := hP
  have HR : Hid (∀ W : World, RowI .u64 (W.alloc (.cells #[.int .u64 827610706, .int .u64 (uu : Int), .int .u64 (ev : Int), .int .u64 (role : Int), .int .u64 (c : Int), .int .u64 (k : Int), .int .u64 (r : Int), .int .u64 0, .int .u64 (b : Int), .int .u64 (nw : Int), .int .u64 (g : Int)] 28)) (some ⟨W.heap.size, 0, none⟩) 11 (fun j => (([827610706, uu, ev, role, c, k, r, 0, b, nw, g]).getD j 0 : Nat))) := fun W => RowI.newN .u64 W [827610706, uu, ev, role, c, k, r, 0, b, nw, g] #[.int .u64 827610706, .int .u64 (uu : Int), .int .u64 (ev : Int), .int .u64 (role : Int), .int .u64 (c : Int), .int .u64 (k : Int), .int .u64 (r : Int), .int .u64 0, .int .u64 (b : Int), .int .u64 (nw : Int), .int .u64 (g : Int)] _ rfl
  have w_role : IntKind.u64.wrap (role : Int) = (role : Int) := by have := hF.role.2; rw [IntKind.wrap_u64]; simp only at this; omega
  have w_c : IntKind.u64.wrap (c : Int) = (c : Int) := by have := hF.c.2; rw [IntKind.wrap_u64]; simp only at this; omega
  have w_k : IntKind.u64.wrap (k : Int) = (k : Int) := by have := hF.k.2; rw [IntKind.wrap_u64]; simp only at this; omega
  have w_r : IntKind.u64.wrap (r : Int) = (r : Int) := by have := hF.r.2; rw [IntKind.wrap_u64]; simp only at this; omega
  have w_b : IntKind.u64.wrap (b : Int) = (b : Int) := by have := hF.b.2; rw [IntKind.wrap_u64]; simp only at this; omega
  have w_nw : IntKind.u64.wrap (nw : Int) = (nw : Int) := by have := hF.nw.2; rw [IntKind.wrap_u64]; simp only at this; omega
  have w_g : IntKind.u64.wrap (g : Int) = (g : Int) := by have := hF.g.2; rw [IntKind.wrap_u64]; simp only at this; omega
  have HN : Hid _ := SupAt.new w ⟨uu, ev, (role : Int), (c : Int), (k : Int), (r : Int), false, (b : Int), (nw : Int), (g : Int)⟩ 39
  have HMX : Hid (Tryz.prog.follows .mixedOrders = true) := by show _ = _; kernel_rfl
  have HW := rWidths_any
  unfold supV at *
  dsimp only at hM ⊢
  clear hm hb hI hF hq EN hP
  go_enter Tryz.func24, Tryz.ntmps24
  go_wp2_with fail
  refine (hM _).mono ?_
  rintro e w1 ⟨rfl, hb1⟩
  have HB : Hid (Below w.heap.size w w1) := ((Below.refl w.heap.size w).alloc (Nat.le_refl _) _).trans (hb1.mono (by rw [World.size_alloc]; omega))
  have hs1 := SupAt.below (show SupAt _ w.heap.size 0 ⟨uu, ev, (role : Int), (c : Int), (k : Int), (r : Int), false, (b : Int), (nw : Int), (g : Int)⟩ from HN.out) hb1 (by rw [World.size_alloc]; omega)
  have HS1 : Hid (SupAt w1 w.heap.size 0 ⟨uu, ev, (role : Int), (c : Int), (k : Int), (r : Int), false, (b : Int), (nw : Int), (g : Int)⟩) := hs1
  obtain ⟨m0, m1, m2, m3, m4, m5, m6, m7, m8, m9⟩ := hs1
  simp only [Nat.zero_add] at m1 m2 m3 m4 m5 m6 m7 m8 m9
  have lt1 : w.heap.size < w1.heap.size := World.block_lt_of_cell? w1 _ m0
  clear hb1 HN
  go_wp2_with fail
  refine wp_region_held (S := fun W => W.cell? ⟨w.heap.size, 0, none⟩ = some (.int .u64 (uu : Int)) ∧ W.cell? ⟨w.heap.size, 1, none⟩ = some (.int .u64 (ev : Int)) ∧ W.cell? ⟨w.heap.size, 2, none⟩ = some (.int .i64 (role : Int)) ∧ W.cell? ⟨w.heap.size, 3, none⟩ = some (.int .i64 (c : Int)) ∧ W.cell? ⟨w.heap.size, 4, none⟩ = some (.int .i64 (k : Int)) ∧ W.cell? ⟨w.heap.size, 5, none⟩ = some (.int .i64 (r : Int)) ∧ W.cell? ⟨w.heap.size, 6, none⟩ = some (.bool false) ∧ W.cell? ⟨w.heap.size, 7, none⟩ = some (.int .i64 (b : Int)) ∧ W.cell? ⟨w.heap.size, 8, none⟩ = some (.int .i64 (nw : Int)) ∧ W.cell? ⟨w.heap.size, 9, none⟩ = some (.int .i64 (g : Int))) HMX.out ?_
  have hS0 : (fun W : World => W.cell? ⟨w.heap.size, 0, none⟩ = some (.int .u64 (uu : Int)) ∧ W.cell? ⟨w.heap.size, 1, none⟩ = some (.int .u64 (ev : Int)) ∧ W.cell? ⟨w.heap.size, 2, none⟩ = some (.int .i64 (role : Int)) ∧ W.cell? ⟨w.heap.size, 3, none⟩ = some (.int .i64 (c : Int)) ∧ W.cell? ⟨w.heap.size, 4, none⟩ = some (.int .i64 (k : Int)) ∧ W.cell? ⟨w.heap.size, 5, none⟩ = some (.int .i64 (r : Int)) ∧ W.cell? ⟨w.heap.size, 6, none⟩ = some (.bool false) ∧ W.cell? ⟨w.heap.size, 7, none⟩ = some (.int .i64 (b : Int)) ∧ W.cell? ⟨w.heap.size, 8, none⟩ = some (.int .i64 (nw : Int)) ∧ W.cell? ⟨w.heap.size, 9, none⟩ = some (.int .i64 (g : Int))) w1.drew := ⟨m0, m1, m2, m3, m4, m5, m6, m7, m8, m9⟩
  clear m0 m1 m2 m3 m4 m5 m6 m7 m8 m9
  change wpAnyH _ _ _ _ _ _ _ _ w1.drew
  refine held_quiet 0 (v := ?v0q40) rfl (by kernel_rfl) (fun _ _ _ h => h) (by assumption) rfl ?hy0q40 ?rest0q40
  case hy0q40 => (intro wS hSw; (try dsimp only at hSw); go_simp; try with_reducible rfl)
  try simp only [Act.put, List.setIfInBounds_toArray, List.set_cons_zero, List.set_cons_succ]
  refine held_quiet 1 (v := ?v1q41) rfl (by kernel_rfl) (fun _ _ _ h => h) (by assumption) rfl ?hy1q41 ?rest1q41
  case hy1q41 => (intro wS hSw; (try dsimp only at hSw); go_simp; try with_reducible rfl)
  try simp only [Act.put, List.setIfInBounds_toArray, List.set_cons_zero, List.set_cons_succ]
  refine held_quiet 2 (v := ?v2q42) rfl (by kernel_rfl) (fun _ _ _ h => h) (by assumption) rfl ?hy2q42 ?rest2q42
  case hy2q42 => (intro wS hSw; (try dsimp only at hSw); go_simp; try with_reducible rfl)
  try simp only [Act.put, List.setIfInBounds_toArray, List.set_cons_zero, List.set_cons_succ]
  refine held_quiet 3 (v := ?v3q43) rfl (by kernel_rfl) (fun _ _ _ h => h) (by assumption) rfl ?hy3q43 ?rest3q43
  case hy3q43 => (intro wS hSw; (try dsimp only at hSw); go_simp; try with_reducible rfl)
  try simp only [Act.put, List.setIfInBounds_toArray, List.set_cons_zero, List.set_cons_succ]
  refine held_quiet 4 (v := ?v4q44) rfl (by kernel_rfl) (fun _ _ _ h => h) (by assumption) rfl ?hy4q44 ?rest4q44
  case hy4q44 => (intro wS hSw; (try dsimp only at hSw); go_simp; try with_reducible rfl)
  try simp only [Act.put, List.setIfInBounds_toArray, List.set_cons_zero, List.set_cons_succ]
  refine held_quiet 5 (v := ?v5q45) rfl (by kernel_rfl) (fun _ _ _ h => h) (by assumption) rfl ?hy5q45 ?rest5q45
  case hy5q45 => (intro wS hSw; (try dsimp only at hSw); go_simp; try with_reducible rfl)
  try simp only [Act.put, List.setIfInBounds_toArray, List.set_cons_zero, List.set_cons_succ]
  refine held_quiet 6 (v := ?v6q46) rfl (by kernel_rfl) (fun _ _ _ h => h) (by assumption) rfl ?hy6q46 ?rest6q46
  case hy6q46 => (intro wS hSw; (try dsimp only at hSw); go_simp; try with_reducible rfl)
  try simp only [Act.put, List.setIfInBounds_toArray, List.set_cons_zero, List.set_cons_succ]
  refine held_quiet 7 (v := ?v7q47) rfl (by kernel_rfl) (fun _ _ _ h => h) (by assumption) rfl ?hy7q47 ?rest7q47
  case hy7q47 => (intro wS hSw; (try dsimp only at hSw); go_simp; try with_reducible rfl)
  try simp only [Act.put, List.setIfInBounds_toArray, List.set_cons_zero, List.set_cons_succ]
  refine held_quiet 8 (v := ?v8q48) rfl (by kernel_rfl) (fun _ _ _ h => h) (by assumption) rfl ?hy8q48 ?rest8q48
  case hy8q48 => (intro wS hSw; (try dsimp only at hSw); go_simp; try with_reducible rfl)
  try simp only [Act.put, List.setIfInBounds_toArray, List.set_cons_zero, List.set_cons_succ]
  refine held_quiet 9 (v := ?v9q49) rfl (by kernel_rfl) (fun _ _ _ h => h) (by assumption) rfl ?hy9q49 ?rest9q49
  case hy9q49 => (intro wS hSw; (try dsimp only at hSw); go_simp; try with_reducible rfl)
  try simp only [Act.put, List.setIfInBounds_toArray, List.set_cons_zero, List.set_cons_succ]
  refine held_quiet 10 (v := ?v10q50) rfl (by kernel_rfl) (fun _ _ _ h => h) (by assumption) rfl ?hy10q50 ?rest10q50
  case hy10q50 => (intro wS hSw; (try dsimp only at hSw); go_simp; try with_reducible rfl)
  try simp only [Act.put, List.setIfInBounds_toArray, List.set_cons_zero, List.set_cons_succ]
  refine held_quiet 11 (v := ?v11q51) rfl (by kernel_rfl) (fun _ _ _ h => h) (by assumption) rfl ?hy11q51 ?rest11q51
  case hy11q51 => (intro wS hSw; (try dsimp only at hSw); go_simp; try with_reducible rfl)
  try simp only [Act.put, List.setIfInBounds_toArray, List.set_cons_zero, List.set_cons_succ]
  refine held_quiet 12 (v := ?v12q52) rfl (by kernel_rfl) (fun _ _ _ h => h) (by assumption) rfl ?hy12q52 ?rest12q52
  case hy12q52 => (intro wS hSw; (try dsimp only at hSw); go_simp; try with_reducible rfl)
  try simp only [Act.put, List.setIfInBounds_toArray, List.set_cons_zero, List.set_cons_succ]
  refine held_quiet 13 (v := ?v13q53) rfl (by kernel_rfl) (fun _ _ _ h => h) (by assumption) rfl ?hy13q53 ?rest13q53
  case hy13q53 => (intro wS hSw; (try dsimp only at hSw); go_simp; try with_reducible rfl)
  try simp only [Act.put, List.setIfInBounds_toArray, List.set_cons_zero, List.set_cons_succ]
  refine held_quiet 14 (v := ?v14q54) rfl (by kernel_rfl) (fun _ _ _ h => h) (by assumption) rfl ?hy14q54 ?rest14q54
  case hy14q54 => (intro wS hSw; (try dsimp only at hSw); go_simp; try with_reducible rfl)
  try simp only [Act.put, List.setIfInBounds_toArray, List.set_cons_zero, List.set_cons_succ]
  refine held_quiet 15 (v := ?v15q55) rfl (by kernel_rfl) (fun _ _ _ h => h) (by assumption) rfl ?hy15q55 ?rest15q55
  case hy15q55 => (intro wS hSw; (try dsimp only at hSw); go_simp; try with_reducible rfl)
  try simp only [Act.put, List.setIfInBounds_toArray, List.set_cons_zero, List.set_cons_succ]
  refine held_quiet 16 (v := ?v16q56) rfl (by kernel_rfl) (fun _ _ _ h => h) (by assumption) rfl ?hy16q56 ?rest16q56
  case hy16q56 => (intro wS hSw; (try dsimp only at hSw); go_simp; try with_reducible rfl)
  try simp only [Act.put, List.setIfInBounds_toArray, List.set_cons_zero, List.set_cons_succ]
  refine held_quiet 17 (v := ?v17q57) rfl (by kernel_rfl) (fun _ _ _ h => h) (by assumption) rfl ?hy17q57 ?rest17q57
  case hy17q57 => (intro wS hSw; (try dsimp only at hSw); go_simp; try with_reducible rfl)
  try simp only [Act.put, List.setIfInBounds_toArray, List.set_cons_zero, List.set_cons_succ]
  refine held_quiet 18 (v := ?v18q58) rfl (by kernel_rfl) (fun _ _ _ h => h) (by assumption) rfl ?hy18q58 ?rest18q58
  case hy18q58 => (intro wS hSw; (try dsimp only at hSw); go_simp; try with_reducible rfl)
  try simp only [Act.put, List.setIfInBounds_toArray, List.set_cons_zero, List.set_cons_succ]
  refine held_quiet 19 (v := ?v19q59) rfl (by kernel_rfl) (fun _ _ _ h => h) (by assumption) rfl ?hy19q59 ?rest19q59
  case hy19q59 => (intro wS hSw; (try dsimp only at hSw); go_simp; try with_reducible rfl)
  try simp only [Act.put, List.setIfInBounds_toArray, List.set_cons_zero, List.set_cons_succ]
  refine held_quiet 20 (v := ?v20q60) rfl (by kernel_rfl) (fun _ _ _ h => h) (by assumption) rfl ?hy20q60 ?rest20q60
  case hy20q60 => (intro wS hSw; (try dsimp only at hSw); go_simp; try with_reducible rfl)
  try simp only [Act.put, List.setIfInBounds_toArray, List.set_cons_zero, List.set_cons_succ]
  refine held_quiet 21 (v := ?v21q61) rfl (by kernel_rfl) (fun _ _ _ h => h) (by assumption) rfl ?hy21q61 ?rest21q61
  case hy21q61 => (intro wS hSw; (try dsimp only at hSw); go_simp; try with_reducible rfl)
  try simp only [Act.put, List.setIfInBounds_toArray, List.set_cons_zero, List.set_cons_succ]
  refine held_quiet 22 (v := ?v22q62) rfl (by kernel_rfl) (fun _ _ _ h => h) (by assumption) rfl ?hy22q62 ?rest22q62
  case hy22q62 => (intro wS hSw; (try dsimp only at hSw); go_simp; try with_reducible rfl)
  try simp only [Act.put, List.setIfInBounds_toArray, List.set_cons_zero, List.set_cons_succ]
  refine held_quiet 23 (v := ?v23q63) rfl (by kernel_rfl) (fun _ _ _ h => h) (by assumption) rfl ?hy23q63 ?rest23q63
  case hy23q63 => (intro wS hSw; (try dsimp only at hSw); go_simp; try with_reducible rfl)
  try simp only [Act.put, List.setIfInBounds_toArray, List.set_cons_zero, List.set_cons_succ]
  refine held_quiet 24 (v := ?v24q64) rfl (by kernel_rfl) (fun _ _ _ h => h) (by assumption) rfl ?hy24q64 ?rest24q64
  case hy24q64 => (intro wS hSw; (try dsimp only at hSw); go_simp; try with_reducible rfl)
  try simp only [Act.put, List.setIfInBounds_toArray, List.set_cons_zero, List.set_cons_succ]
  refine held_quiet 25 (v := ?v25q65) rfl (by kernel_rfl) (fun _ _ _ h => h) (by assumption) rfl ?hy25q65 ?rest25q65
  case hy25q65 => (intro wS hSw; (try dsimp only at hSw); go_simp; try with_reducible rfl)
  try simp only [Act.put, List.setIfInBounds_toArray, List.set_cons_zero, List.set_cons_succ]
  refine held_quiet 26 (v := ?v26q66) rfl (by kernel_rfl) (fun _ _ _ h => h) (by assumption) rfl ?hy26q66 ?rest26q66
  case hy26q66 => (intro wS hSw; (try dsimp only at hSw); go_simp; try with_reducible rfl)
  try simp only [Act.put, List.setIfInBounds_toArray, List.set_cons_zero, List.set_cons_succ]
  refine held_quiet 27 (v := ?v27q67) rfl (by kernel_rfl) (fun _ _ _ h => h) (by assumption) rfl ?hy27q67 ?rest27q67
  case hy27q67 => (intro wS hSw; (try dsimp only at hSw); go_simp; try with_reducible rfl)
  try simp only [Act.put, List.setIfInBounds_toArray, List.set_cons_zero, List.set_cons_succ]
  refine held_quiet 28 (v := ?v28q68) rfl (by kernel_rfl) (fun _ _ _ h => h) (by assumption) rfl ?hy28q68 ?rest28q68
  case hy28q68 => (intro wS hSw; (try dsimp only at hSw); go_simp; try with_reducible rfl)
  try simp only [Act.put, List.setIfInBounds_toArray, List.set_cons_zero, List.set_cons_succ]
  refine held_two 29 30 rfl rfl (by kernel_rfl) ?_ ?_
  · go_wp2
    try refine ⟨HS1.out, ?_⟩
    have HBa : Hid (Below w1.heap.size w1 (w1.alloc (.cells #[.int .u64 827610706, .int .u64 (uu : Int), .int .u64 (ev : Int), .int .u64 (role : Int), .int .u64 (c : Int), .int .u64 (k : Int), .int .u64 (r : Int), .int .u64 0, .int .u64 (b : Int), .int .u64 (nw : Int), .int .u64 (g : Int)] 28))) := (Below.refl _ _).alloc (Nat.le_refl _) _
    have ra := HR.out w1
    generalize (w1.alloc (.cells #[.int .u64 827610706, .int .u64 (uu : Int), .int .u64 (ev : Int), .int .u64 (role : Int), .int .u64 (c : Int), .int .u64 (k : Int), .int .u64 (r : Int), .int .u64 0, .int .u64 (b : Int), .int .u64 (nw : Int), .int .u64 (g : Int)] 28)) = wa at *
    have hSa := SupAt.below HS1.out HBa.out lt1
    have HSA : Hid (SupAt wa w.heap.size 0 ⟨uu, ev, (role : Int), (c : Int), (k : Int), (r : Int), false, (b : Int), (nw : Int), (g : Int)⟩) := hSa
    have HRA : Hid _ := ra
    clear ra hS0 hSa
    refine held_one 30 rfl (by kernel_rfl) ?_
    go_wp2_with fail
    refine (HW _).mono ?_
    rintro e wc ⟨rfl, rc, hbc⟩
    have hbc : Below wa.heap.size wa wc := (Below.refl _ wa).drew.trans hbc
    have HRC : Hid _ := RowI.below HRA.out hbc
    have HRD : Hid _ := rc
    have HSC : Hid (SupAt wc w.heap.size 0 ⟨uu, ev, (role : Int), (c : Int), (k : Int), (r : Int), false, (b : Int), (nw : Int), (g : Int)⟩) := SupAt.below HSA.out hbc (SupAt.lt HSA.out)
    have HBC : Hid (Below w1.heap.size w1 wc) := HBa.out.trans (hbc.mono HBa.out.size)
    clear rc hbc HRA HSA HBa
    go_wp2
    try refine ⟨HSC.out, ?_⟩
    have hE := HP.out _ _ 11 11 wc HRC.out HRD.out
    clear HRC HRD HR
    refine held_one 31 rfl (by kernel_rfl) ?_
    go_wp2_with fail
    refine hE.mono ?_
    rintro e we ⟨rfl, hbe⟩
    have hSe := SupAt.below HSC.out hbe (SupAt.lt HSC.out)
    have HBE : Hid (Below w1.heap.size w1 we) := HBC.out.trans (hbe.mono HBC.out.size)
    clear hbe hE HSC HBC
    go_wp2
    try refine ⟨hSe, ?_⟩
    refine held_quiet 32 (v := ?v32q69) rfl (by kernel_rfl) (fun _ _ _ h => h) (by assumption) rfl ?hy32q69 ?rest32q69
    case hy32q69 => (intro wS hSw; (try dsimp only at hSw); go_simp; try with_reducible rfl)
    try simp only [Act.put, List.setIfInBounds_toArray, List.set_cons_zero, List.set_cons_succ]
    refine held_quiet 33 (v := ?v33q70) rfl (by kernel_rfl) (fun _ _ _ h => h) (by assumption) rfl ?hy33q70 ?rest33q70
    case hy33q70 => (intro wS hSw; (try dsimp only at hSw); go_simp; try with_reducible rfl)
    try simp only [Act.put, List.setIfInBounds_toArray, List.set_cons_zero, List.set_cons_succ]
    refine held_quiet 34 (v := ?v34q71) rfl (by kernel_rfl) (fun _ _ _ h => h) (by assumption) rfl ?hy34q71 ?rest34q71
    case hy34q71 => (intro wS hSw; (try dsimp only at hSw); go_simp; try with_reducible rfl)
    try simp only [Act.put, List.setIfInBounds_toArray, List.set_cons_zero, List.set_cons_succ]
    refine held_quiet 35 (v := ?v35q72) rfl (by kernel_rfl) (fun _ _ _ h => h) (by assumption) rfl ?hy35q72 ?rest35q72
    case hy35q72 => (intro wS hSw; (try dsimp only at hSw); go_simp; try with_reducible rfl)
    try simp only [Act.put, List.setIfInBounds_toArray, List.set_cons_zero, List.set_cons_succ]
    refine held_quiet 36 (v := ?v36q73) rfl (by kernel_rfl) (fun _ _ _ h => h) (by assumption) rfl ?hy36q73 ?rest36q73
    case hy36q73 => (intro wS hSw; (try dsimp only at hSw); go_simp; try with_reducible rfl)
    try simp only [Act.put, List.setIfInBounds_toArray, List.set_cons_zero, List.set_cons_succ]
    refine held_done (by kernel_rfl) ?_
    clear hSe
    go_wp2_with fail
    refine (hS _).mono ?_
    rintro e wf ⟨rfl, hbf⟩
    have HBF : Hid (Below we.heap.size we wf) := hbf
    clear hbf
    go_wp2
    go_ret2
    exact ⟨by rw [ES.out.1, ES.out.2]; rfl, below4 HB.out HBE.out HBF.out (Below.refl _ _)⟩
  · go_wp2_with fail
    refine (HW _).mono ?_
    rintro e wb ⟨rfl, rb, hbb⟩
    have hbb : Below w1.heap.size w1 wb := (Below.refl _ w1).drew.trans hbb
    have HBB : Hid (Below w1.heap.size w1 wb) := hbb
    have HSB : Hid (SupAt wb w.heap.size 0 ⟨uu, ev, (role : Int), (c : Int), (k : Int), (r : Int), false, (b : Int), (nw : Int), (g : Int)⟩) := SupAt.below HS1.out hbb lt1
    have HRB : Hid _ := rb
    clear rb hbb hS0
    go_wp2
    try refine ⟨HSB.out, ?_⟩
    refine held_one 29 rfl (by kernel_rfl) ?_
    go_wp2
    have HBC : Hid (Below w1.heap.size w1 (wb.alloc (.cells #[.int .u64 827610706, .int .u64 (uu : Int), .int .u64 (ev : Int), .int .u64 (role : Int), .int .u64 (c : Int), .int .u64 (k : Int), .int .u64 (r : Int), .int .u64 0, .int .u64 (b : Int), .int .u64 (nw : Int), .int .u64 (g : Int)] 28))) := HBB.out.alloc HBB.out.size _
    have HSC : Hid (SupAt (wb.alloc (.cells #[.int .u64 827610706, .int .u64 (uu : Int), .int .u64 (ev : Int), .int .u64 (role : Int), .int .u64 (c : Int), .int .u64 (k : Int), .int .u64 (r : Int), .int .u64 0, .int .u64 (b : Int), .int .u64 (nw : Int), .int .u64 (g : Int)] 28)) w.heap.size 0 ⟨uu, ev, (role : Int), (c : Int), (k : Int), (r : Int), false, (b : Int), (nw : Int), (g : Int)⟩) := SupAt.below HSB.out ((Below.refl _ wb).alloc (Nat.le_refl _) _) (SupAt.lt HSB.out)
    have HRC : Hid _ := HR.out wb
    have HRD : Hid _ := RowI.below HRB.out ((Below.refl wb.heap.size wb).alloc (Nat.le_refl _) (.cells #[.int .u64 827610706, .int .u64 (uu : Int), .int .u64 (ev : Int), .int .u64 (role : Int), .int .u64 (c : Int), .int .u64 (k : Int), .int .u64 (r : Int), .int .u64 0, .int .u64 (b : Int), .int .u64 (nw : Int), .int .u64 (g : Int)] 28))
    clear HRB HSB HBB
    try refine ⟨HSC.out, ?_⟩
    generalize (wb.alloc (.cells #[.int .u64 827610706, .int .u64 (uu : Int), .int .u64 (ev : Int), .int .u64 (role : Int), .int .u64 (c : Int), .int .u64 (k : Int), .int .u64 (r : Int), .int .u64 0, .int .u64 (b : Int), .int .u64 (nw : Int), .int .u64 (g : Int)] 28)) = wc at *
    have hE := HP.out _ _ 11 11 wc HRC.out HRD.out
    clear HRC HRD HR
    refine held_one 31 rfl (by kernel_rfl) ?_
    go_wp2_with fail
    refine hE.mono ?_
    rintro e we ⟨rfl, hbe⟩
    have hSe := SupAt.below HSC.out hbe (SupAt.lt HSC.out)
    have HBE : Hid (Below w1.heap.size w1 we) := HBC.out.trans (hbe.mono HBC.out.size)
    clear hbe hE HSC HBC
    go_wp2
    try refine ⟨hSe, ?_⟩
    refine held_quiet 32 (v := ?v32q74) rfl (by kernel_rfl) (fun _ _ _ h => h) (by assumption) rfl ?hy32q74 ?rest32q74
    case hy32q74 => (intro wS hSw; (try dsimp only at hSw); go_simp; try with_reducible rfl)
    try simp only [Act.put, List.setIfInBounds_toArray, List.set_cons_zero, List.set_cons_succ]
    refine held_quiet 33 (v := ?v33q75) rfl (by kernel_rfl) (fun _ _ _ h => h) (by assumption) rfl ?hy33q75 ?rest33q75
    case hy33q75 => (intro wS hSw; (try dsimp only at hSw); go_simp; try with_reducible rfl)
    try simp only [Act.put, List.setIfInBounds_toArray, List.set_cons_zero, List.set_cons_succ]
    refine held_quiet 34 (v := ?v34q76) rfl (by kernel_rfl) (fun _ _ _ h => h) (by assumption) rfl ?hy34q76 ?rest34q76
    case hy34q76 => (intro wS hSw; (try dsimp only at hSw); go_simp; try with_reducible rfl)
    try simp only [Act.put, List.setIfInBounds_toArray, List.set_cons_zero, List.set_cons_succ]
    refine held_quiet 35 (v := ?v35q77) rfl (by kernel_rfl) (fun _ _ _ h => h) (by assumption) rfl ?hy35q77 ?rest35q77
    case hy35q77 => (intro wS hSw; (try dsimp only at hSw); go_simp; try with_reducible rfl)
    try simp only [Act.put, List.setIfInBounds_toArray, List.set_cons_zero, List.set_cons_succ]
    refine held_quiet 36 (v := ?v36q78) rfl (by kernel_rfl) (fun _ _ _ h => h) (by assumption) rfl ?hy36q78 ?rest36q78
    case hy36q78 => (intro wS hSw; (try dsimp only at hSw); go_simp; try with_reducible rfl)
    try simp only [Act.put, List.setIfInBounds_toArray, List.set_cons_zero, List.set_cons_succ]
    refine held_done (by kernel_rfl) ?_
    clear hSe
    go_wp2_with fail
    refine (hS _).mono ?_
    rintro e wf ⟨rfl, hbf⟩
    have HBF : Hid (Below we.heap.size we wf) := hbf
    clear hbf
    go_wp2
    go_ret2
    exact ⟨by rw [ES.out.1, ES.out.2]; rfl, below4 HB.out HBE.out HBF.out (Below.refl _ _)⟩

theorem rEncode8_any (s : Su) (hI : s.In) (w : World) :
    Calls Tryz.prog 24 #[supV s] w fun e w' => e = .returned (.tuple #[.string (Sup.encT s), .int .i64 (Sup.encE s)]) ∧ Below w.heap.size w w' := by
  by_cases hm : Sup.may s
  case neg => exact rEncode_no s hm w
  obtain ⟨uu, ev, role, c, k, r, cl, b, nw, g⟩ := s
  obtain ⟨⟨_, ⟨⟨c1, _⟩, ⟨k1, _⟩, r1, _⟩⟩, n1, o1, ⟨b1, _⟩, ⟨g1, _⟩, _⟩ := id hm
  dsimp only at c1 k1 r1 n1 o1 b1 g1
  obtain ⟨role, rfl⟩ := Int.eq_ofNat_of_zero_le (show 0 ≤ role by omega)
  obtain ⟨c, rfl⟩ := Int.eq_ofNat_of_zero_le (show 0 ≤ c by omega)
  obtain ⟨k, rfl⟩ := Int.eq_ofNat_of_zero_le (show 0 ≤ k by omega)
  obtain ⟨r, rfl⟩ := Int.eq_ofNat_of_zero_le (show 0 ≤ r by omega)
  obtain ⟨b, rfl⟩ := Int.eq_ofNat_of_zero_le (show 0 ≤ b by omega)
  obtain ⟨nw, rfl⟩ := Int.eq_ofNat_of_zero_le (show 0 ≤ nw by omega)
  obtain ⟨g, rfl⟩ := Int.eq_ofNat_of_zero_le (show 0 ≤ g by omega)
  cases cl
  · exact rEncode_off uu ev role c k r b nw g hI hm w
  · exact rEncode_on uu ev role c k r b nw g hI hm w
end Go.Proofs.YtgkhnfchohcjeaaGreat
