/- The walks of a ring's nodes: one leaves its ring, one follows another, a ring of none. -/
import Derived.Test.YtmmhfkohfijlaaaLrMem
import Derived.Test.YtmmhfkohfijlaaaKitRound
import Derived.BigRegion
namespace Go.Proofs.Ytmmhfkohfijlaaa
open Go.RowKit Go.Maps
attribute [local go_sem] Oper.semAt_some

set_option maxRecDepth 100000 in
set_option maxHeartbeats 2000000 in
theorem leave_any {w : World} {l : List Nat} {A B : Nat → Nat} {V : Nat → Int × Nat} (h : Lr.Nodes w l A B V) {x : Nat} (hx : x ∈ l) (ha : A x ∈ l) (hb : B x ∈ l) (na : A x ≠ x) (nb : B x ≠ x) :
    Calls Try.prog 33 #[.pointer (some ⟨x, 0, none⟩)] w fun e w' => e = .returned (.tuple #[]) ∧ Lr.Nodes w' l (Lr.upd A (B x) (A x)) (Lr.upd B (A x) (B x)) V ∧ Only (fun k => k ∈ l) w w' := by
  have c0 := h.c0 hx
  have c1 := h.c1 hx
  have cp := h.c1 ha
  have cq := h.c0 hb
  have fp := h.fz ha 1
  have H : Hid (Lr.Nodes w l A B V) := h
  have HA : Hid (A x ∈ l) := ha
  have HB : Hid (B x ∈ l) := hb
  obtain ⟨p, hp⟩ : ∃ p, p = A x := ⟨_, rfl⟩
  obtain ⟨q, hq⟩ : ∃ q, q = B x := ⟨_, rfl⟩
  rw [← hp] at HA c0 cp fp na ⊢
  rw [← hq] at HB c1 cq nb ⊢
  have HMX : Hid (Try.prog.follows .mixedOrders = true) := by show _ = _; kernel_rfl
  clear h ha hb hp hq hx
  go_enter Try.func33, Try.ntmps33
  go_wp2_with fail
  refine wp_region_held (S := fun W => W.cell? ⟨x, 0, none⟩ = some (.pointer (some ⟨p, 0, none⟩)) ∧ W.cell? ⟨x, 1, none⟩ = some (.pointer (some ⟨q, 0, none⟩))) HMX.out ?_
  have hS : (fun W : World => W.cell? ⟨x, 0, none⟩ = some (.pointer (some ⟨p, 0, none⟩)) ∧ W.cell? ⟨x, 1, none⟩ = some (.pointer (some ⟨q, 0, none⟩))) w.drew := ⟨c0, c1⟩
  change wpAnyH _ _ _ _ _ _ _ _ w.drew
  refine held_quiet 0 (v := ?v0q1) rfl (by kernel_rfl) (fun _ _ _ h => h) (by assumption) rfl ?hy0q1 ?rest0q1
  case hy0q1 => (intro wS hSw; (try dsimp only at hSw); go_simp; try with_reducible rfl)
  try simp only [Act.put, List.setIfInBounds_toArray, List.set_cons_zero, List.set_cons_succ]
  refine held_quiet 1 (v := ?v1q2) rfl (by kernel_rfl) (fun _ _ _ h => h) (by assumption) rfl ?hy1q2 ?rest1q2
  case hy1q2 => (intro wS hSw; (try dsimp only at hSw); go_simp; try with_reducible rfl)
  try simp only [Act.put, List.setIfInBounds_toArray, List.set_cons_zero, List.set_cons_succ]
  refine held_quiet 2 (v := ?v2q3) rfl (by kernel_rfl) (fun _ _ _ h => h) (by assumption) rfl ?hy2q3 ?rest2q3
  case hy2q3 => (intro wS hSw; (try dsimp only at hSw); go_simp; try with_reducible rfl)
  try simp only [Act.put, List.setIfInBounds_toArray, List.set_cons_zero, List.set_cons_succ]
  refine held_quiet 3 (v := ?v3q4) rfl (by kernel_rfl) (fun _ _ _ h => h) (by assumption) rfl ?hy3q4 ?rest3q4
  case hy3q4 => (intro wS hSw; (try dsimp only at hSw); go_simp; try with_reducible rfl)
  try simp only [Act.put, List.setIfInBounds_toArray, List.set_cons_zero, List.set_cons_succ]
  refine held_quiet 4 (v := ?v4q5) rfl (by kernel_rfl) (fun _ _ _ h => h) (by assumption) rfl ?hy4q5 ?rest4q5
  case hy4q5 => (intro wS hSw; (try dsimp only at hSw); go_simp; try with_reducible rfl)
  try simp only [Act.put, List.setIfInBounds_toArray, List.set_cons_zero, List.set_cons_succ]
  refine held_quiet 5 (v := ?v5q6) rfl (by kernel_rfl) (fun _ _ _ h => h) (by assumption) rfl ?hy5q6 ?rest5q6
  case hy5q6 => (intro wS hSw; (try dsimp only at hSw); go_simp; try with_reducible rfl)
  try simp only [Act.put, List.setIfInBounds_toArray, List.set_cons_zero, List.set_cons_succ]
  refine held_quiet 6 (v := ?v6q7) rfl (by kernel_rfl) (fun _ _ _ h => h) (by assumption) rfl ?hy6q7 ?rest6q7
  case hy6q7 => (intro wS hSw; (try dsimp only at hSw); go_simp; try with_reducible rfl)
  try simp only [Act.put, List.setIfInBounds_toArray, List.set_cons_zero, List.set_cons_succ]
  refine held_quiet 7 (v := ?v7q8) rfl (by kernel_rfl) (fun _ _ _ h => h) (by assumption) rfl ?hy7q8 ?rest7q8
  case hy7q8 => (intro wS hSw; (try dsimp only at hSw); go_simp; try with_reducible rfl)
  try simp only [Act.put, List.setIfInBounds_toArray, List.set_cons_zero, List.set_cons_succ]
  refine held_quiet 8 (v := ?v8q9) rfl (by kernel_rfl) (fun _ _ _ h => h) (by assumption) rfl ?hy8q9 ?rest8q9
  case hy8q9 => (intro wS hSw; (try dsimp only at hSw); go_simp; try with_reducible rfl)
  try simp only [Act.put, List.setIfInBounds_toArray, List.set_cons_zero, List.set_cons_succ]
  refine held_quiet 9 (v := ?v9q10) rfl (by kernel_rfl) (fun _ _ _ h => h) (by assumption) rfl ?hy9q10 ?rest9q10
  case hy9q10 => (intro wS hSw; (try dsimp only at hSw); go_simp; try with_reducible rfl)
  try simp only [Act.put, List.setIfInBounds_toArray, List.set_cons_zero, List.set_cons_succ]
  refine held_quiet 10 (v := ?v10q11) rfl (by kernel_rfl) (fun _ _ _ h => h) (by assumption) rfl ?hy10q11 ?rest10q11
  case hy10q11 => (intro wS hSw; (try dsimp only at hSw); go_simp; try with_reducible rfl)
  try simp only [Act.put, List.setIfInBounds_toArray, List.set_cons_zero, List.set_cons_succ]
  refine held_quiet 11 (v := ?v11q12) rfl (by kernel_rfl) (fun _ _ _ h => h) (by assumption) rfl ?hy11q12 ?rest11q12
  case hy11q12 => (intro wS hSw; (try dsimp only at hSw); go_simp; try with_reducible rfl)
  try simp only [Act.put, List.setIfInBounds_toArray, List.set_cons_zero, List.set_cons_succ]
  refine held_quiet 12 (v := ?v12q13) rfl (by kernel_rfl) (fun _ _ _ h => h) (by assumption) rfl ?hy12q13 ?rest12q13
  case hy12q13 => (intro wS hSw; (try dsimp only at hSw); go_simp; try with_reducible rfl)
  try simp only [Act.put, List.setIfInBounds_toArray, List.set_cons_zero, List.set_cons_succ]
  refine held_quiet 13 (v := ?v13q14) rfl (by kernel_rfl) (fun _ _ _ h => h) (by assumption) rfl ?hy13q14 ?rest13q14
  case hy13q14 => (intro wS hSw; (try dsimp only at hSw); go_simp; try with_reducible rfl)
  try simp only [Act.put, List.setIfInBounds_toArray, List.set_cons_zero, List.set_cons_succ]
  refine held_quiet 14 (v := ?v14q15) rfl (by kernel_rfl) (fun _ _ _ h => h) (by assumption) rfl ?hy14q15 ?rest14q15
  case hy14q15 => (intro wS hSw; (try dsimp only at hSw); go_simp; try with_reducible rfl)
  try simp only [Act.put, List.setIfInBounds_toArray, List.set_cons_zero, List.set_cons_succ]
  refine held_quiet 15 (v := ?v15q16) rfl (by kernel_rfl) (fun _ _ _ h => h) (by assumption) rfl ?hy15q16 ?rest15q16
  case hy15q16 => (intro wS hSw; (try dsimp only at hSw); go_simp; try with_reducible rfl)
  try simp only [Act.put, List.setIfInBounds_toArray, List.set_cons_zero, List.set_cons_succ]
  refine held_quiet 16 (v := ?v16q17) rfl (by kernel_rfl) (fun _ _ _ h => h) (by assumption) rfl ?hy16q17 ?rest16q17
  case hy16q17 => (intro wS hSw; (try dsimp only at hSw); go_simp; try with_reducible rfl)
  try simp only [Act.put, List.setIfInBounds_toArray, List.set_cons_zero, List.set_cons_succ]
  refine held_quiet 17 (v := ?v17q18) rfl (by kernel_rfl) (fun _ _ _ h => h) (by assumption) rfl ?hy17q18 ?rest17q18
  case hy17q18 => (intro wS hSw; (try dsimp only at hSw); go_simp; try with_reducible rfl)
  try simp only [Act.put, List.setIfInBounds_toArray, List.set_cons_zero, List.set_cons_succ]
  refine held_one 18 rfl (by kernel_rfl) ?_
  go_wp2
  have hN1 := (H.out.setB HA.out q).drew
  have hO1 : Only (fun k => k ∈ l) w (World.drew (World.setCell w ⟨p, 1, none⟩ (.pointer (some ⟨q, 0, none⟩)))) := (Only.setCell _ _ _ _ HA.out).then (Only.drew _ _)
  have s0 : (World.drew (World.setCell w ⟨p, 1, none⟩ (.pointer (some ⟨q, 0, none⟩)))).cell? ⟨x, 0, none⟩ = some (.pointer (some ⟨p, 0, none⟩)) := (World.cell?_setCell_other _ _ _ _ (fun e => by injection e with e1; exact na e1)).trans c0
  have s1 : (World.drew (World.setCell w ⟨p, 1, none⟩ (.pointer (some ⟨q, 0, none⟩)))).cell? ⟨x, 1, none⟩ = some (.pointer (some ⟨q, 0, none⟩)) := (World.cell?_setCell_other _ _ _ _ (fun e => by injection e with e1; exact na e1)).trans c1
  generalize e1 : World.drew (World.setCell w ⟨p, 1, none⟩ (.pointer (some ⟨q, 0, none⟩))) = w1 at hN1 hO1 s0 s1 ⊢
  try refine ⟨⟨s0, s1⟩, ?_⟩
  have hS : (fun W : World => W.cell? ⟨x, 0, none⟩ = some (.pointer (some ⟨p, 0, none⟩)) ∧ W.cell? ⟨x, 1, none⟩ = some (.pointer (some ⟨q, 0, none⟩))) w1 := ⟨s0, s1⟩
  have cq1 := hN1.c0 HB.out
  have fq1 := hN1.fz HB.out 0
  have HN1 : Hid (Lr.Nodes w1 l A (Lr.upd B p q) V) := hN1
  have HO1 : Hid (Only (fun k => k ∈ l) w w1) := hO1
  clear hN1 hO1 e1 c0 c1 cp cq fp
  refine held_quiet 19 (v := ?v19q19) rfl (by kernel_rfl) (fun _ _ _ h => h) (by assumption) rfl ?hy19q19 ?rest19q19
  case hy19q19 => (intro wS hSw; (try dsimp only at hSw); go_simp; try with_reducible rfl)
  try simp only [Act.put, List.setIfInBounds_toArray, List.set_cons_zero, List.set_cons_succ]
  refine held_quiet 20 (v := ?v20q20) rfl (by kernel_rfl) (fun _ _ _ h => h) (by assumption) rfl ?hy20q20 ?rest20q20
  case hy20q20 => (intro wS hSw; (try dsimp only at hSw); go_simp; try with_reducible rfl)
  try simp only [Act.put, List.setIfInBounds_toArray, List.set_cons_zero, List.set_cons_succ]
  refine held_one 21 rfl (by kernel_rfl) ?_
  go_wp2
  have hN2 := HN1.out.setA HB.out p
  have hO2 : Only (fun k => k ∈ l) w (World.setCell w1 ⟨q, 0, none⟩ (.pointer (some ⟨p, 0, none⟩))) := HO1.out.then (Only.setCell _ _ _ _ HB.out)
  have t0 : (World.setCell w1 ⟨q, 0, none⟩ (.pointer (some ⟨p, 0, none⟩))).cell? ⟨x, 0, none⟩ = some (.pointer (some ⟨p, 0, none⟩)) := (World.cell?_setCell_other _ _ _ _ (fun e => by injection e with e1; exact nb e1)).trans s0
  have t1 : (World.setCell w1 ⟨q, 0, none⟩ (.pointer (some ⟨p, 0, none⟩))).cell? ⟨x, 1, none⟩ = some (.pointer (some ⟨q, 0, none⟩)) := (World.cell?_setCell_other _ _ _ _ (fun e => by injection e with e1; exact nb e1)).trans s1
  generalize e2 : World.setCell w1 ⟨q, 0, none⟩ (.pointer (some ⟨p, 0, none⟩)) = w2 at hN2 hO2 t0 t1 ⊢
  try refine ⟨⟨t0, t1⟩, ?_⟩
  refine held_done (by kernel_rfl) ?_
  go_wp2
  go_end0
  exact ⟨rfl, hN2, hO2⟩

/-- a node whose two pointers are written -/
theorem node_new {w : World} {x : Nat} {a b : Value} {v : Int × Nat} (h : w.heap[x]? = some (.cells #[a, b, .int .i64 v.1, .int .i64 (v.2 : Nat)] 59 (0, 0))) (m q : Nat) :
    ((w.setCell ⟨x, 0, none⟩ (.pointer (some ⟨m, 0, none⟩))).setCell ⟨x, 1, none⟩ (.pointer (some ⟨q, 0, none⟩))).heap[x]? = some (.cells (Lr.nodeC m q v) 59 (0, 0)) :=
  heap_setCell_same _ x 1 _ _ _ (heap_setCell_same w x 0 _ _ (.pointer (some ⟨m, 0, none⟩)) h)

set_option maxRecDepth 100000 in
set_option maxHeartbeats 2000000 in
theorem follow_any {w : World} {l : List Nat} {A B : Nat → Nat} {V : Nat → Int × Nat} (h : Lr.Nodes w l A B V) {x m : Nat} (hm : m ∈ l) (hb : B m ∈ l) (hx : x ∉ l) {a b : Value} {v : Int × Nat}
    (hn : w.heap[x]? = some (.cells #[a, b, .int .i64 v.1, .int .i64 (v.2 : Nat)] 59 (0, 0))) :
    Calls Try.prog 34 #[.pointer (some ⟨x, 0, none⟩), .pointer (some ⟨m, 0, none⟩)] w fun e w' => e = .returned (.tuple #[]) ∧
      Lr.Nodes w' (x :: l) (Lr.upd (Lr.upd A x m) (B m) x) (Lr.upd (Lr.upd B x (B m)) m x) (Lr.upd V x v) ∧ Only (fun k => k ∈ x :: l) w w' := by
  have c1 := h.c1 hm
  have d0 : w.cell? ⟨x, 0, none⟩ = some a := by rw [cell_of_row w x 0 _ _ _ hn]; rfl
  have d1 : w.cell? ⟨x, 1, none⟩ = some b := by rw [cell_of_row w x 1 _ _ _ hn]; rfl
  have f0 : w.frozen? ⟨x, 0, none⟩ = false := frozen_of_row w x 0 _ _ hn
  have f1 : w.frozen? ⟨x, 1, none⟩ = false := frozen_of_row w x 1 _ _ hn
  have nm : m ≠ x := fun e => hx (by rw [← e]; exact hm)
  have nq : B m ≠ x := fun e => hx (by rw [← e]; exact hb)
  have H : Hid (Lr.Nodes w l A B V) := h
  have HM : Hid (m ∈ l) := hm
  have HB : Hid (B m ∈ l) := hb
  have HX : Hid (x ∉ l) := hx
  obtain ⟨q, hq⟩ : ∃ q, q = B m := ⟨_, rfl⟩
  rw [← hq] at HB c1 nq ⊢
  have HN : Hid (Lr.Nodes ((w.setCell ⟨x, 0, none⟩ (.pointer (some ⟨m, 0, none⟩))).setCell ⟨x, 1, none⟩ (.pointer (some ⟨q, 0, none⟩))) (x :: l) (Lr.upd A x m) (Lr.upd B x q) (Lr.upd V x v)) := by
    have ho : Only (fun k => k = x) w ((w.setCell ⟨x, 0, none⟩ (.pointer (some ⟨m, 0, none⟩))).setCell ⟨x, 1, none⟩ (.pointer (some ⟨q, 0, none⟩))) := (Only.setCell (fun k => k = x) _ _ _ rfl).then (Only.setCell (fun k => k = x) _ _ _ rfl)
    have hne : ∀ y ∈ l, y ≠ x := fun y hy e => hx (by rw [← e]; exact hy)
    refine Lr.Nodes.cons ((h.only ho hne).congr (fun y hy => Lr.upd_other _ _ (hne y hy)) (fun y hy => Lr.upd_other _ _ (hne y hy)) (fun y hy => Lr.upd_other _ _ (hne y hy))) ?_
    rw [Lr.upd_same, Lr.upd_same, Lr.upd_same]
    exact node_new hn m q
  have HMX : Hid (Try.prog.follows .mixedOrders = true) := by show _ = _; kernel_rfl
  have HO : Hid (Only (fun k => k ∈ x :: l) w ((w.setCell ⟨x, 0, none⟩ (.pointer (some ⟨m, 0, none⟩))).setCell ⟨x, 1, none⟩ (.pointer (some ⟨q, 0, none⟩)))) := (Only.setCell _ _ _ _ (by simp)).then (Only.setCell _ _ _ _ (by simp))
  clear h hm hb hx hn hq
  go_enter Try.func34, Try.ntmps34
  go_wp2_with fail
  generalize eW : World.setCell (World.setCell w ⟨x, 0, none⟩ (.pointer (some ⟨m, 0, none⟩))) ⟨x, 1, none⟩ (.pointer (some ⟨q, 0, none⟩)) = w1 at HN HO ⊢
  have e0 := HN.out.c0 (List.mem_cons_self ..)
  have e1 := HN.out.c1 (List.mem_cons_self ..)
  rw [Lr.upd_same] at e0 e1
  have g1 := HN.out.c1 (List.mem_cons_of_mem x HM.out)
  have g2 := HN.out.fz (List.mem_cons_of_mem x HM.out) 1
  clear c1 d0 d1 f0 f1 eW
  refine wp_region_held (S := fun W => W.cell? ⟨x, 0, none⟩ = some (.pointer (some ⟨m, 0, none⟩)) ∧ W.cell? ⟨x, 1, none⟩ = some (.pointer (some ⟨q, 0, none⟩))) HMX.out ?_
  have hS : (fun W : World => W.cell? ⟨x, 0, none⟩ = some (.pointer (some ⟨m, 0, none⟩)) ∧ W.cell? ⟨x, 1, none⟩ = some (.pointer (some ⟨q, 0, none⟩))) w1.drew := ⟨e0, e1⟩
  change wpAnyH _ _ _ _ _ _ _ _ w1.drew
  refine held_quiet 0 (v := ?v0q21) rfl (by kernel_rfl) (fun _ _ _ h => h) (by assumption) rfl ?hy0q21 ?rest0q21
  case hy0q21 => (intro wS hSw; (try dsimp only at hSw); go_simp; try with_reducible rfl)
  try simp only [Act.put, List.setIfInBounds_toArray, List.set_cons_zero, List.set_cons_succ]
  refine held_quiet 1 (v := ?v1q22) rfl (by kernel_rfl) (fun _ _ _ h => h) (by assumption) rfl ?hy1q22 ?rest1q22
  case hy1q22 => (intro wS hSw; (try dsimp only at hSw); go_simp; try with_reducible rfl)
  try simp only [Act.put, List.setIfInBounds_toArray, List.set_cons_zero, List.set_cons_succ]
  refine held_quiet 2 (v := ?v2q23) rfl (by kernel_rfl) (fun _ _ _ h => h) (by assumption) rfl ?hy2q23 ?rest2q23
  case hy2q23 => (intro wS hSw; (try dsimp only at hSw); go_simp; try with_reducible rfl)
  try simp only [Act.put, List.setIfInBounds_toArray, List.set_cons_zero, List.set_cons_succ]
  refine held_quiet 3 (v := ?v3q24) rfl (by kernel_rfl) (fun _ _ _ h => h) (by assumption) rfl ?hy3q24 ?rest3q24
  case hy3q24 => (intro wS hSw; (try dsimp only at hSw); go_simp; try with_reducible rfl)
  try simp only [Act.put, List.setIfInBounds_toArray, List.set_cons_zero, List.set_cons_succ]
  refine held_quiet 4 (v := ?v4q25) rfl (by kernel_rfl) (fun _ _ _ h => h) (by assumption) rfl ?hy4q25 ?rest4q25
  case hy4q25 => (intro wS hSw; (try dsimp only at hSw); go_simp; try with_reducible rfl)
  try simp only [Act.put, List.setIfInBounds_toArray, List.set_cons_zero, List.set_cons_succ]
  refine held_quiet 5 (v := ?v5q26) rfl (by kernel_rfl) (fun _ _ _ h => h) (by assumption) rfl ?hy5q26 ?rest5q26
  case hy5q26 => (intro wS hSw; (try dsimp only at hSw); go_simp; try with_reducible rfl)
  try simp only [Act.put, List.setIfInBounds_toArray, List.set_cons_zero, List.set_cons_succ]
  refine held_quiet 6 (v := ?v6q27) rfl (by kernel_rfl) (fun _ _ _ h => h) (by assumption) rfl ?hy6q27 ?rest6q27
  case hy6q27 => (intro wS hSw; (try dsimp only at hSw); go_simp; try with_reducible rfl)
  try simp only [Act.put, List.setIfInBounds_toArray, List.set_cons_zero, List.set_cons_succ]
  refine held_quiet 7 (v := ?v7q28) rfl (by kernel_rfl) (fun _ _ _ h => h) (by assumption) rfl ?hy7q28 ?rest7q28
  case hy7q28 => (intro wS hSw; (try dsimp only at hSw); go_simp; try with_reducible rfl)
  try simp only [Act.put, List.setIfInBounds_toArray, List.set_cons_zero, List.set_cons_succ]
  refine held_quiet 8 (v := ?v8q29) rfl (by kernel_rfl) (fun _ _ _ h => h) (by assumption) rfl ?hy8q29 ?rest8q29
  case hy8q29 => (intro wS hSw; (try dsimp only at hSw); go_simp; try with_reducible rfl)
  try simp only [Act.put, List.setIfInBounds_toArray, List.set_cons_zero, List.set_cons_succ]
  refine held_quiet 9 (v := ?v9q30) rfl (by kernel_rfl) (fun _ _ _ h => h) (by assumption) rfl ?hy9q30 ?rest9q30
  case hy9q30 => (intro wS hSw; (try dsimp only at hSw); go_simp; try with_reducible rfl)
  try simp only [Act.put, List.setIfInBounds_toArray, List.set_cons_zero, List.set_cons_succ]
  refine held_quiet 10 (v := ?v10q31) rfl (by kernel_rfl) (fun _ _ _ h => h) (by assumption) rfl ?hy10q31 ?rest10q31
  case hy10q31 => (intro wS hSw; (try dsimp only at hSw); go_simp; try with_reducible rfl)
  try simp only [Act.put, List.setIfInBounds_toArray, List.set_cons_zero, List.set_cons_succ]
  refine held_quiet 11 (v := ?v11q32) rfl (by kernel_rfl) (fun _ _ _ h => h) (by assumption) rfl ?hy11q32 ?rest11q32
  case hy11q32 => (intro wS hSw; (try dsimp only at hSw); go_simp; try with_reducible rfl)
  try simp only [Act.put, List.setIfInBounds_toArray, List.set_cons_zero, List.set_cons_succ]
  refine held_one 12 rfl (by kernel_rfl) ?_
  go_wp2
  have hN1 := (HN.out.setB (List.mem_cons_of_mem x HM.out) x).drew
  have hO1 : Only (fun k => k ∈ x :: l) w (World.drew (World.setCell w1 ⟨m, 1, none⟩ (.pointer (some ⟨x, 0, none⟩)))) := HO.out.then ((Only.setCell _ _ _ _ (List.mem_cons_of_mem x HM.out)).then (Only.drew _ _))
  have s0 : (World.drew (World.setCell w1 ⟨m, 1, none⟩ (.pointer (some ⟨x, 0, none⟩)))).cell? ⟨x, 0, none⟩ = some (.pointer (some ⟨m, 0, none⟩)) := (World.cell?_setCell_other _ _ _ _ (fun e => by injection e with e1; exact nm e1)).trans e0
  have s1 : (World.drew (World.setCell w1 ⟨m, 1, none⟩ (.pointer (some ⟨x, 0, none⟩)))).cell? ⟨x, 1, none⟩ = some (.pointer (some ⟨q, 0, none⟩)) := (World.cell?_setCell_other _ _ _ _ (fun e => by injection e with e1; exact nm e1)).trans e1
  generalize ew : World.drew (World.setCell w1 ⟨m, 1, none⟩ (.pointer (some ⟨x, 0, none⟩))) = w2 at hN1 hO1 s0 s1 ⊢
  try refine ⟨⟨s0, s1⟩, ?_⟩
  have hS : (fun W : World => W.cell? ⟨x, 0, none⟩ = some (.pointer (some ⟨m, 0, none⟩)) ∧ W.cell? ⟨x, 1, none⟩ = some (.pointer (some ⟨q, 0, none⟩))) w2 := ⟨s0, s1⟩
  have cq1 := hN1.c0 (List.mem_cons_of_mem x HB.out)
  have fq1 := hN1.fz (List.mem_cons_of_mem x HB.out) 0
  have HN1 : Hid (Lr.Nodes w2 (x :: l) (Lr.upd A x m) (Lr.upd (Lr.upd B x q) m x) (Lr.upd V x v)) := hN1
  have HO1 : Hid (Only (fun k => k ∈ x :: l) w w2) := hO1
  clear hN1 hO1 ew e0 e1 g1 g2
  refine held_quiet 13 (v := ?v13q33) rfl (by kernel_rfl) (fun _ _ _ h => h) (by assumption) rfl ?hy13q33 ?rest13q33
  case hy13q33 => (intro wS hSw; (try dsimp only at hSw); go_simp; try with_reducible rfl)
  try simp only [Act.put, List.setIfInBounds_toArray, List.set_cons_zero, List.set_cons_succ]
  refine held_quiet 14 (v := ?v14q34) rfl (by kernel_rfl) (fun _ _ _ h => h) (by assumption) rfl ?hy14q34 ?rest14q34
  case hy14q34 => (intro wS hSw; (try dsimp only at hSw); go_simp; try with_reducible rfl)
  try simp only [Act.put, List.setIfInBounds_toArray, List.set_cons_zero, List.set_cons_succ]
  refine held_one 15 rfl (by kernel_rfl) ?_
  go_wp2
  have hN2 := HN1.out.setA (List.mem_cons_of_mem x HB.out) x
  have hO2 : Only (fun k => k ∈ x :: l) w (World.setCell w2 ⟨q, 0, none⟩ (.pointer (some ⟨x, 0, none⟩))) := HO1.out.then (Only.setCell _ _ _ _ (List.mem_cons_of_mem x HB.out))
  have t0 : (World.setCell w2 ⟨q, 0, none⟩ (.pointer (some ⟨x, 0, none⟩))).cell? ⟨x, 0, none⟩ = some (.pointer (some ⟨m, 0, none⟩)) := (World.cell?_setCell_other _ _ _ _ (fun e => by injection e with e1; exact nq e1)).trans s0
  have t1 : (World.setCell w2 ⟨q, 0, none⟩ (.pointer (some ⟨x, 0, none⟩))).cell? ⟨x, 1, none⟩ = some (.pointer (some ⟨q, 0, none⟩)) := (World.cell?_setCell_other _ _ _ _ (fun e => by injection e with e1; exact nq e1)).trans s1
  generalize e2 : World.setCell w2 ⟨q, 0, none⟩ (.pointer (some ⟨x, 0, none⟩)) = w3 at hN2 hO2 t0 t1 ⊢
  try refine ⟨⟨t0, t1⟩, ?_⟩
  refine held_done (by kernel_rfl) ?_
  go_wp2
  go_end0
  exact ⟨rfl, hN2, hO2⟩

set_option maxRecDepth 100000 in
set_option maxHeartbeats 1000000 in
theorem ring_new (w : World) : Calls Try.prog 21 #[] w fun e w' => e = .returned (.pointer (some ⟨w.heap.size, 0, none⟩)) ∧
    Lr.Nodes w' [w.heap.size] (fun _ => w.heap.size) (fun _ => w.heap.size) (fun _ => (0, 0)) ∧ Below w.heap.size w w' := by
  go_enter Try.func21, Try.ntmps21
  go_wp2
  go_ret
  refine ⟨rfl, fun x hx => ?_, (Below.refl _ w).alloc (Nat.le_refl _) _⟩
  obtain rfl := List.mem_singleton.1 hx
  exact World.alloc_heap_new w _
end Go.Proofs.Ytmmhfkohfijlaaa
