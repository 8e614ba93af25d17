/- The walk of one call at both lists: they answer alike. -/
import Derived.Test.YtmmhfkohfijlaaaLrDuo
namespace Go.Proofs.Ytmmhfkohfijlaaa
open Go.RowKit Lr
attribute [local go_sem] Oper.semAt_some

/-- what the law's own call at both lists leaves -/
def DoesAns (w : World) (D : Nat → Prop) (p rp room : Nat) (l : L) (kind key : Int) (e : Ending) (w' : World) : Prop :=
  e = .returned (.bool true) ∧ Duo w' (Plus D w.heap.size) p rp room (actL l kind key room) (actL l kind key room) ∧ Only D w w'

/-- both lists behind the box of the call -/
structure DoesIn (w W : World) (D : Nat → Prop) (p rp room : Nat) (l : L) (b : Nat) (kind key : Int) : Prop where
  duo : Duo W D p rp room l l
  box : W.heap[b]? = some (.cells #[.int .i64 kind, .int .i64 key] 30 (0, 0))
  out : ¬ D b
  lt : b < W.heap.size
  only : Only D w W
  size : w.heap.size ≤ W.heap.size
theorem does_start {w : World} {D : Nat → Prop} {p rp room : Nat} {l : L} (h : Duo w D p rp room l l) (hD : ∀ k, D k → k < w.heap.size) (kind key : Int) :
    DoesIn w (w.alloc (.cells #[.int .i64 kind, .int .i64 key] 30)) D p rp room l w.heap.size kind key :=
  ⟨h.below ((Below.refl w.heap.size w).alloc (Nat.le_refl _) _), World.alloc_heap_new w _, fun hk => Nat.lt_irrefl _ (hD _ hk), by simp, Only.alloc _ _ _, by simp⟩
theorem DoesIn.c0 {w W : World} {D : Nat → Prop} {p rp room : Nat} {l : L} {b : Nat} {kind key : Int} (h : DoesIn w W D p rp room l b kind key) : W.cell? ⟨b, 0, none⟩ = some (.int .i64 kind) := by rw [cell_of_row W b 0 _ _ _ h.box]; rfl
theorem DoesIn.c1 {w W : World} {D : Nat → Prop} {p rp room : Nat} {l : L} {b : Nat} {kind key : Int} (h : DoesIn w W D p rp room l b kind key) : W.cell? ⟨b, 1, none⟩ = some (.int .i64 key) := by rw [cell_of_row W b 1 _ _ _ h.box]; rfl
/-- behind the first call the box stands -/
theorem DoesIn.later {w W w1 : World} {D : Nat → Prop} {p rp room : Nat} {l : L} {b : Nat} {kind key : Int} (h : DoesIn w W D p rp room l b kind key) (ho : Only D W w1) : w1.cell? ⟨b, 1, none⟩ = some (.int .i64 key) :=
  (World.cell?_of_block (a := ⟨b, 1, none⟩) (ho.block b h.lt h.out)).trans h.c1
/-- behind both calls -/
theorem DoesIn.done {w W w1 w2 : World} {D : Nat → Prop} {p rp room : Nat} {l l' : L} {b : Nat} {kind key : Int} (h : DoesIn w W D p rp room l b kind key) (h1 : Only D W w1) (h2 : Only (Plus D W.heap.size) w1 w2) (hd : Duo w2 (Plus (Plus D W.heap.size) w1.heap.size) p rp room l' l') :
    Duo w2 (Plus D w.heap.size) p rp room l' l' ∧ Only D w w2 := by
  have hs := h.size
  have hs1 := h1.size
  refine ⟨hd.mono fun k hk _ => ?_, h.only.then (h1.trans h2)⟩
  rcases hk with (hk | hk) | hk
  · exact .inl hk
  · exact .inr (Nat.le_trans hs hk)
  · exact .inr (Nat.le_trans hs (Nat.le_trans hs1 hk))

set_option maxRecDepth 100000 in
set_option maxHeartbeats 4000000 in
theorem does_put {w : World} {D : Nat → Prop} {p rp room : Nat} {l : L} (h : Duo w D p rp room l l) (hD : ∀ k, D k → k < w.heap.size) (key : Int) (hk : Ok key) :
    Calls Try.prog 11 #[.pointer (some ⟨p, 0, none⟩), .pointer (some ⟨rp, 0, none⟩), .agg #[.int .i64 0, .int .i64 key]] w (DoesAns w D p rp room l 0 key) := by
  have hs := does_start h hD 0 key
  have c0 := hs.c0
  have c1 := hs.c1
  obtain ⟨b, hb⟩ : ∃ b, b = w.heap.size := ⟨_, rfl⟩
  have HS : Hid (DoesIn w (w.alloc (.cells #[.int .i64 0, .int .i64 key] 30)) D p rp room l b 0 key) := by rw [hb]; exact hs
  have HL : Hid (l.length ≤ 1000) := h.len
  have HK : Hid (Ok key) := hk
  clear h hs hD hk
  go_enter Try.func11, Try.ntmps11
  go_wp2_with fail
  rw [← hb]
  rw [← hb] at c0 c1
  generalize eW : w.alloc (.cells #[.int .i64 0, .int .i64 key] 30) = W at HS c0 c1 ⊢
  clear eW hb
  refine (HS.out.duo.prog (Q := fun e => e = .returned (.tuple #[.int .i64 (putG room l key), .bool (putW room l key), .int .i64 (putE room l key : Nat)])) (fun F hF => Put_any hF HK.out)).mono ?_
  rintro e w1 ⟨rfl, hd1, ho1⟩
  have HD1 : Hid (Duo w1 (Plus D W.heap.size) p rp room (put room l key) l) := hd1
  have HO1 : Hid (Only D W w1) := ho1
  have cb := HS.out.later ho1
  obtain ⟨G, hG⟩ : ∃ G, G = putG room l key := ⟨_, rfl⟩
  obtain ⟨V, hV⟩ : ∃ V, V = putW room l key := ⟨_, rfl⟩
  obtain ⟨E, hE⟩ : ∃ E, E = putE room l key := ⟨_, rfl⟩
  rw [← hG, ← hV, ← hE]
  have HV : Hid (G = putG room l key ∧ V = putW room l key ∧ E = putE room l key) := ⟨hG, hV, hE⟩
  clear hd1 ho1 c0 c1 hG hV hE
  go_wp2_with fail
  have hdoc := HD1.out.doc (Q := fun e => e = .returned (.tuple #[.int .i64 (putG room l key), .bool (putW room l key), .int .i64 (putE room l key : Nat)])) (fun G hG => rPut14_any hG HL.out key)
  rw [← HV.out.1, ← HV.out.2.1, ← HV.out.2.2] at hdoc
  refine hdoc.mono ?_
  rintro e w2 ⟨rfl, hd2, ho2⟩
  have HF := HS.out.done HO1.out ho2 hd2
  have HFIN : Hid (Duo w2 (Plus D w.heap.size) p rp room (put room l key) (put room l key) ∧ Only D w w2) := HF
  clear hdoc hd2 ho2 HF cb
  go_wp2
  go_ret
  exact ⟨rfl, HFIN.out.1, HFIN.out.2⟩

set_option maxRecDepth 100000 in
set_option maxHeartbeats 4000000 in
theorem does_get {w : World} {D : Nat → Prop} {p rp room : Nat} {l : L} (h : Duo w D p rp room l l) (hD : ∀ k, D k → k < w.heap.size) (key : Int) (hk : Ok key) :
    Calls Try.prog 11 #[.pointer (some ⟨p, 0, none⟩), .pointer (some ⟨rp, 0, none⟩), .agg #[.int .i64 1, .int .i64 key]] w (DoesAns w D p rp room l 1 key) := by
  have HMX : Hid (Try.prog.follows .mixedOrders = true) := by show _ = _; kernel_rfl
  have hs := does_start h hD 1 key
  have c0 := hs.c0
  have c1 := hs.c1
  obtain ⟨b, hb⟩ : ∃ b, b = w.heap.size := ⟨_, rfl⟩
  have HS : Hid (DoesIn w (w.alloc (.cells #[.int .i64 1, .int .i64 key] 30)) D p rp room l b 1 key) := by rw [hb]; exact hs
  have HL : Hid (l.length ≤ 1000) := h.len
  have HK : Hid (Ok key) := hk
  clear h hs hD hk
  go_enter Try.func11, Try.ntmps11
  go_wp2_with fail
  rw [← hb]
  rw [← hb] at c0 c1
  generalize eW : w.alloc (.cells #[.int .i64 1, .int .i64 key] 30) = W at HS c0 c1 ⊢
  clear eW hb
  refine wp_region_held (S := fun X => X.cell? ⟨b, 1, none⟩ = some (.int .i64 key)) HMX.out ?_
  have hS : (fun X : World => X.cell? ⟨b, 1, none⟩ = some (.int .i64 key)) W.drew := c1
  change wpAnyH _ _ _ _ _ _ _ _ W.drew
  obtain ⟨V, hV⟩ : ∃ V, V = Lr.has l key := ⟨_, rfl⟩
  have hpr := (HS.out.duo.below ((Below.refl _ W).drew)).prog (Q := fun e => e = .returned (.bool (Lr.has l key))) (fun F hF => Get_any hF HK.out)
  rw [← hV] at hpr
  have HPR : Hid (Calls Try.prog 20 #[.pointer (some ⟨p, 0, none⟩), .int .i64 key] W.drew fun e w' => e = .returned (.bool V) ∧ Duo w' (Plus D W.heap.size) p rp room (Lr.get l key) l ∧ Only D W.drew w') := hpr
  have HV : Hid (V = Lr.has l key) := hV
  clear hpr hV c0
  refine held_quiet 0 (v := ?v0q1) rfl (by kernel_rfl) (fun _ _ _ h => h) (by assumption) rfl ?hy0q1 ?rest0q1
  case hy0q1 => (intro wS hSw; (try dsimp only at hSw); go_simp; try with_reducible rfl)
  try simp only [Act.put, List.setIfInBounds_toArray, List.set_cons_zero, List.set_cons_succ]
  refine held_quiet 1 (v := ?v1q2) rfl (by kernel_rfl) (fun _ _ _ h => h) (by assumption) rfl ?hy1q2 ?rest1q2
  case hy1q2 => (intro wS hSw; (try dsimp only at hSw); go_simp; try with_reducible rfl)
  try simp only [Act.put, List.setIfInBounds_toArray, List.set_cons_zero, List.set_cons_succ]
  refine held_quiet 2 (v := ?v2q3) rfl (by kernel_rfl) (fun _ _ _ h => h) (by assumption) rfl ?hy2q3 ?rest2q3
  case hy2q3 => (intro wS hSw; (try dsimp only at hSw); go_simp; try with_reducible rfl)
  try simp only [Act.put, List.setIfInBounds_toArray, List.set_cons_zero, List.set_cons_succ]
  refine held_quiet 4 (v := ?v4q4) rfl (by kernel_rfl) (fun _ _ _ h => h) (by assumption) rfl ?hy4q4 ?rest4q4
  case hy4q4 => (intro wS hSw; (try dsimp only at hSw); go_simp; try with_reducible rfl)
  try simp only [Act.put, List.setIfInBounds_toArray, List.set_cons_zero, List.set_cons_succ]
  refine held_quiet 5 (v := ?v5q5) rfl (by kernel_rfl) (fun _ _ _ h => h) (by assumption) rfl ?hy5q5 ?rest5q5
  case hy5q5 => (intro wS hSw; (try dsimp only at hSw); go_simp; try with_reducible rfl)
  try simp only [Act.put, List.setIfInBounds_toArray, List.set_cons_zero, List.set_cons_succ]
  refine held_quiet 6 (v := ?v6q6) rfl (by kernel_rfl) (fun _ _ _ h => h) (by assumption) rfl ?hy6q6 ?rest6q6
  case hy6q6 => (intro wS hSw; (try dsimp only at hSw); go_simp; try with_reducible rfl)
  try simp only [Act.put, List.setIfInBounds_toArray, List.set_cons_zero, List.set_cons_succ]
  refine held_one 3 rfl (by kernel_rfl) ?_
  go_wp2_with (go_at_call 20; refine HPR.out.mono ?_; rintro e w1 ⟨rfl, hd1, ho1⟩)
  have HD1 : Hid (Duo w1 (Plus D W.heap.size) p rp room (Lr.get l key) l) := hd1
  have ho1' : Only D W w1 := (Only.drew D W).then ho1
  have HO1 : Hid (Only D W w1) := ho1'
  have cb := HS.out.later ho1'
  try refine ⟨cb, ?_⟩
  have hS : (fun X : World => X.cell? ⟨b, 1, none⟩ = some (.int .i64 key)) w1 := cb
  have hdoc := HD1.out.doc (Q := fun e => e = .returned (.bool (Lr.has l key))) (fun G hG => rGet14_any hG HL.out key)
  rw [← HV.out] at hdoc
  have HDOC : Hid (Calls Try.prog 23 #[.pointer (some ⟨rp, 0, none⟩), .int .i64 key] w1 fun e w' => e = .returned (.bool V) ∧ Duo w' (Plus (Plus D W.heap.size) w1.heap.size) p rp room (Lr.get l key) (Lr.get l key) ∧ Only (Plus D W.heap.size) w1 w') := hdoc
  clear hd1 ho1 ho1' hdoc c1 HPR
  refine held_one 7 rfl (by kernel_rfl) ?_
  go_wp2_with (go_at_call 23; refine HDOC.out.mono ?_; rintro e w2 ⟨rfl, hd2, ho2⟩)
  have cb2 : w2.cell? ⟨b, 1, none⟩ = some (.int .i64 key) := (World.cell?_of_block (a := ⟨b, 1, none⟩) (ho2.block b (Nat.lt_of_lt_of_le HS.out.lt HO1.out.size) (fun hk => by rcases hk with hk | hk; exact HS.out.out hk; have := HS.out.lt; omega))).trans cb
  try refine ⟨cb2, ?_⟩
  have hS : (fun X : World => X.cell? ⟨b, 1, none⟩ = some (.int .i64 key)) w2 := cb2
  have HFIN : Hid (Duo w2 (Plus D w.heap.size) p rp room (Lr.get l key) (Lr.get l key) ∧ Only D w w2) := HS.out.done HO1.out ho2 hd2
  clear hd2 ho2 HDOC
  refine held_quiet 8 (v := ?v8q7) rfl (by kernel_rfl) (fun _ _ _ h => h) (by assumption) rfl ?hy8q7 ?rest8q7
  case hy8q7 => (intro wS hSw; (try dsimp only at hSw); go_simp; try with_reducible rfl)
  try simp only [Act.put, List.setIfInBounds_toArray, List.set_cons_zero, List.set_cons_succ]
  refine held_quiet 9 (v := ?v9q8) rfl (by kernel_rfl) (fun _ _ _ h => h) (by assumption) rfl ?hy9q8 ?rest9q8
  case hy9q8 => (intro wS hSw; (try dsimp only at hSw); go_simp; try with_reducible rfl)
  try simp only [Act.put, List.setIfInBounds_toArray, List.set_cons_zero, List.set_cons_succ]
  refine held_done (by kernel_rfl) ?_
  go_wp2
  go_ret
  exact ⟨rfl, HFIN.out.1, HFIN.out.2⟩

set_option maxRecDepth 100000 in
set_option maxHeartbeats 4000000 in
theorem does_pin {w : World} {D : Nat → Prop} {p rp room : Nat} {l : L} (h : Duo w D p rp room l l) (hD : ∀ k, D k → k < w.heap.size) (key : Int) (hk : Ok key) (hq : pins l key < 1000000000) :
    Calls Try.prog 11 #[.pointer (some ⟨p, 0, none⟩), .pointer (some ⟨rp, 0, none⟩), .agg #[.int .i64 2, .int .i64 key]] w (DoesAns w D p rp room l 2 key) := by
  have HQ : Hid (pins l key < 1000000000) := hq
  clear hq
  have HMX : Hid (Try.prog.follows .mixedOrders = true) := by show _ = _; kernel_rfl
  have hs := does_start h hD 2 key
  have c0 := hs.c0
  have c1 := hs.c1
  obtain ⟨b, hb⟩ : ∃ b, b = w.heap.size := ⟨_, rfl⟩
  have HS : Hid (DoesIn w (w.alloc (.cells #[.int .i64 2, .int .i64 key] 30)) D p rp room l b 2 key) := by rw [hb]; exact hs
  have HL : Hid (l.length ≤ 1000) := h.len
  have HK : Hid (Ok key) := hk
  clear h hs hD hk
  go_enter Try.func11, Try.ntmps11
  go_wp2_with fail
  rw [← hb]
  rw [← hb] at c0 c1
  generalize eW : w.alloc (.cells #[.int .i64 2, .int .i64 key] 30) = W at HS c0 c1 ⊢
  clear eW hb
  refine wp_region_held (S := fun X => X.cell? ⟨b, 1, none⟩ = some (.int .i64 key)) HMX.out ?_
  have hS : (fun X : World => X.cell? ⟨b, 1, none⟩ = some (.int .i64 key)) W.drew := c1
  change wpAnyH _ _ _ _ _ _ _ _ W.drew
  obtain ⟨V, hV⟩ : ∃ V, V = pinE l key := ⟨_, rfl⟩
  have hpr := (HS.out.duo.below ((Below.refl _ W).drew)).prog (Q := fun e => e = .returned (.int .i64 (pinE l key : Nat))) (fun F hF => (Pin_any hF HK.out HQ.out).mono fun _ _ ⟨a, b, c⟩ => ⟨a, b.mono fun _ h => .inl h, c⟩)
  rw [← hV] at hpr
  have HPR : Hid (Calls Try.prog 17 #[.pointer (some ⟨p, 0, none⟩), .int .i64 key] W.drew fun e w' => e = .returned (.int .i64 (V : Nat)) ∧ Duo w' (Plus D W.heap.size) p rp room (pin l key) l ∧ Only D W.drew w') := hpr
  have HV : Hid (V = pinE l key) := hV
  clear hpr hV c0
  refine held_quiet 0 (v := ?v0q9) rfl (by kernel_rfl) (fun _ _ _ h => h) (by assumption) rfl ?hy0q9 ?rest0q9
  case hy0q9 => (intro wS hSw; (try dsimp only at hSw); go_simp; try with_reducible rfl)
  try simp only [Act.put, List.setIfInBounds_toArray, List.set_cons_zero, List.set_cons_succ]
  refine held_quiet 1 (v := ?v1q10) rfl (by kernel_rfl) (fun _ _ _ h => h) (by assumption) rfl ?hy1q10 ?rest1q10
  case hy1q10 => (intro wS hSw; (try dsimp only at hSw); go_simp; try with_reducible rfl)
  try simp only [Act.put, List.setIfInBounds_toArray, List.set_cons_zero, List.set_cons_succ]
  refine held_quiet 2 (v := ?v2q11) rfl (by kernel_rfl) (fun _ _ _ h => h) (by assumption) rfl ?hy2q11 ?rest2q11
  case hy2q11 => (intro wS hSw; (try dsimp only at hSw); go_simp; try with_reducible rfl)
  try simp only [Act.put, List.setIfInBounds_toArray, List.set_cons_zero, List.set_cons_succ]
  refine held_quiet 4 (v := ?v4q12) rfl (by kernel_rfl) (fun _ _ _ h => h) (by assumption) rfl ?hy4q12 ?rest4q12
  case hy4q12 => (intro wS hSw; (try dsimp only at hSw); go_simp; try with_reducible rfl)
  try simp only [Act.put, List.setIfInBounds_toArray, List.set_cons_zero, List.set_cons_succ]
  refine held_quiet 5 (v := ?v5q13) rfl (by kernel_rfl) (fun _ _ _ h => h) (by assumption) rfl ?hy5q13 ?rest5q13
  case hy5q13 => (intro wS hSw; (try dsimp only at hSw); go_simp; try with_reducible rfl)
  try simp only [Act.put, List.setIfInBounds_toArray, List.set_cons_zero, List.set_cons_succ]
  refine held_quiet 6 (v := ?v6q14) rfl (by kernel_rfl) (fun _ _ _ h => h) (by assumption) rfl ?hy6q14 ?rest6q14
  case hy6q14 => (intro wS hSw; (try dsimp only at hSw); go_simp; try with_reducible rfl)
  try simp only [Act.put, List.setIfInBounds_toArray, List.set_cons_zero, List.set_cons_succ]
  refine held_one 3 rfl (by kernel_rfl) ?_
  go_wp2_with (go_at_call 17; refine HPR.out.mono ?_; rintro e w1 ⟨rfl, hd1, ho1⟩)
  have HD1 : Hid (Duo w1 (Plus D W.heap.size) p rp room (pin l key) l) := hd1
  have ho1' : Only D W w1 := (Only.drew D W).then ho1
  have HO1 : Hid (Only D W w1) := ho1'
  have cb := HS.out.later ho1'
  try refine ⟨cb, ?_⟩
  have hS : (fun X : World => X.cell? ⟨b, 1, none⟩ = some (.int .i64 key)) w1 := cb
  have hdoc := HD1.out.doc (Q := fun e => e = .returned (.int .i64 (pinE l key : Nat))) (fun G hG => (rPin14_any hG HL.out key HQ.out).mono fun _ _ ⟨a, b, c⟩ => ⟨a, b.mono fun _ h => .inl h, c⟩)
  rw [← HV.out] at hdoc
  have HDOC : Hid (Calls Try.prog 24 #[.pointer (some ⟨rp, 0, none⟩), .int .i64 key] w1 fun e w' => e = .returned (.int .i64 (V : Nat)) ∧ Duo w' (Plus (Plus D W.heap.size) w1.heap.size) p rp room (pin l key) (pin l key) ∧ Only (Plus D W.heap.size) w1 w') := hdoc
  clear hd1 ho1 ho1' hdoc c1 HPR
  refine held_one 7 rfl (by kernel_rfl) ?_
  go_wp2_with (go_at_call 24; refine HDOC.out.mono ?_; rintro e w2 ⟨rfl, hd2, ho2⟩)
  have cb2 : w2.cell? ⟨b, 1, none⟩ = some (.int .i64 key) := (World.cell?_of_block (a := ⟨b, 1, none⟩) (ho2.block b (Nat.lt_of_lt_of_le HS.out.lt HO1.out.size) (fun hk => by rcases hk with hk | hk; exact HS.out.out hk; have := HS.out.lt; omega))).trans cb
  try refine ⟨cb2, ?_⟩
  have hS : (fun X : World => X.cell? ⟨b, 1, none⟩ = some (.int .i64 key)) w2 := cb2
  have HFIN : Hid (Duo w2 (Plus D w.heap.size) p rp room (pin l key) (pin l key) ∧ Only D w w2) := HS.out.done HO1.out ho2 hd2
  clear hd2 ho2 HDOC
  refine held_quiet 8 (v := ?v8q15) rfl (by kernel_rfl) (fun _ _ _ h => h) (by assumption) rfl ?hy8q15 ?rest8q15
  case hy8q15 => (intro wS hSw; (try dsimp only at hSw); go_simp; try with_reducible rfl)
  try simp only [Act.put, List.setIfInBounds_toArray, List.set_cons_zero, List.set_cons_succ]
  refine held_quiet 9 (v := ?v9q16) rfl (by kernel_rfl) (fun _ _ _ h => h) (by assumption) rfl ?hy9q16 ?rest9q16
  case hy9q16 => (intro wS hSw; (try dsimp only at hSw); go_simp; try with_reducible rfl)
  try simp only [Act.put, List.setIfInBounds_toArray, List.set_cons_zero, List.set_cons_succ]
  refine held_done (by kernel_rfl) ?_
  go_wp2
  go_ret
  exact ⟨rfl, HFIN.out.1, HFIN.out.2⟩

set_option maxRecDepth 100000 in
set_option maxHeartbeats 4000000 in
theorem does_unpin {w : World} {D : Nat → Prop} {p rp room : Nat} {l : L} (h : Duo w D p rp room l l) (hD : ∀ k, D k → k < w.heap.size) (key : Int) (hk : Ok key) (hq : pins l key < 1000000000) :
    Calls Try.prog 11 #[.pointer (some ⟨p, 0, none⟩), .pointer (some ⟨rp, 0, none⟩), .agg #[.int .i64 3, .int .i64 key]] w (DoesAns w D p rp room l 3 key) := by
  have HQ : Hid (pins l key < 1000000000) := hq
  clear hq
  have HMX : Hid (Try.prog.follows .mixedOrders = true) := by show _ = _; kernel_rfl
  have hs := does_start h hD 3 key
  have c0 := hs.c0
  have c1 := hs.c1
  obtain ⟨b, hb⟩ : ∃ b, b = w.heap.size := ⟨_, rfl⟩
  have HS : Hid (DoesIn w (w.alloc (.cells #[.int .i64 3, .int .i64 key] 30)) D p rp room l b 3 key) := by rw [hb]; exact hs
  have HL : Hid (l.length ≤ 1000) := h.len
  have HK : Hid (Ok key) := hk
  clear h hs hD hk
  go_enter Try.func11, Try.ntmps11
  go_wp2_with fail
  rw [← hb]
  rw [← hb] at c0 c1
  generalize eW : w.alloc (.cells #[.int .i64 3, .int .i64 key] 30) = W at HS c0 c1 ⊢
  clear eW hb
  refine wp_region_held (S := fun X => X.cell? ⟨b, 1, none⟩ = some (.int .i64 key)) HMX.out ?_
  have hS : (fun X : World => X.cell? ⟨b, 1, none⟩ = some (.int .i64 key)) W.drew := c1
  change wpAnyH _ _ _ _ _ _ _ _ W.drew
  obtain ⟨V, hV⟩ : ∃ V, V = unpinE l key := ⟨_, rfl⟩
  have hpr := (HS.out.duo.below ((Below.refl _ W).drew)).prog (Q := fun e => e = .returned (.int .i64 (unpinE l key : Nat))) (fun F hF => (Unpin_any hF HK.out (by have := HQ.out; omega)).mono fun _ _ ⟨a, b, c⟩ => ⟨a, b.mono fun _ h => .inl h, c⟩)
  rw [← hV] at hpr
  have HPR : Hid (Calls Try.prog 19 #[.pointer (some ⟨p, 0, none⟩), .int .i64 key] W.drew fun e w' => e = .returned (.int .i64 (V : Nat)) ∧ Duo w' (Plus D W.heap.size) p rp room (unpin l key) l ∧ Only D W.drew w') := hpr
  have HV : Hid (V = unpinE l key) := hV
  clear hpr hV c0
  refine held_quiet 0 (v := ?v0q17) rfl (by kernel_rfl) (fun _ _ _ h => h) (by assumption) rfl ?hy0q17 ?rest0q17
  case hy0q17 => (intro wS hSw; (try dsimp only at hSw); go_simp; try with_reducible rfl)
  try simp only [Act.put, List.setIfInBounds_toArray, List.set_cons_zero, List.set_cons_succ]
  refine held_quiet 1 (v := ?v1q18) rfl (by kernel_rfl) (fun _ _ _ h => h) (by assumption) rfl ?hy1q18 ?rest1q18
  case hy1q18 => (intro wS hSw; (try dsimp only at hSw); go_simp; try with_reducible rfl)
  try simp only [Act.put, List.setIfInBounds_toArray, List.set_cons_zero, List.set_cons_succ]
  refine held_quiet 2 (v := ?v2q19) rfl (by kernel_rfl) (fun _ _ _ h => h) (by assumption) rfl ?hy2q19 ?rest2q19
  case hy2q19 => (intro wS hSw; (try dsimp only at hSw); go_simp; try with_reducible rfl)
  try simp only [Act.put, List.setIfInBounds_toArray, List.set_cons_zero, List.set_cons_succ]
  refine held_quiet 4 (v := ?v4q20) rfl (by kernel_rfl) (fun _ _ _ h => h) (by assumption) rfl ?hy4q20 ?rest4q20
  case hy4q20 => (intro wS hSw; (try dsimp only at hSw); go_simp; try with_reducible rfl)
  try simp only [Act.put, List.setIfInBounds_toArray, List.set_cons_zero, List.set_cons_succ]
  refine held_quiet 5 (v := ?v5q21) rfl (by kernel_rfl) (fun _ _ _ h => h) (by assumption) rfl ?hy5q21 ?rest5q21
  case hy5q21 => (intro wS hSw; (try dsimp only at hSw); go_simp; try with_reducible rfl)
  try simp only [Act.put, List.setIfInBounds_toArray, List.set_cons_zero, List.set_cons_succ]
  refine held_quiet 6 (v := ?v6q22) rfl (by kernel_rfl) (fun _ _ _ h => h) (by assumption) rfl ?hy6q22 ?rest6q22
  case hy6q22 => (intro wS hSw; (try dsimp only at hSw); go_simp; try with_reducible rfl)
  try simp only [Act.put, List.setIfInBounds_toArray, List.set_cons_zero, List.set_cons_succ]
  refine held_one 3 rfl (by kernel_rfl) ?_
  go_wp2_with (go_at_call 19; refine HPR.out.mono ?_; rintro e w1 ⟨rfl, hd1, ho1⟩)
  have HD1 : Hid (Duo w1 (Plus D W.heap.size) p rp room (unpin l key) l) := hd1
  have ho1' : Only D W w1 := (Only.drew D W).then ho1
  have HO1 : Hid (Only D W w1) := ho1'
  have cb := HS.out.later ho1'
  try refine ⟨cb, ?_⟩
  have hS : (fun X : World => X.cell? ⟨b, 1, none⟩ = some (.int .i64 key)) w1 := cb
  have hdoc := HD1.out.doc (Q := fun e => e = .returned (.int .i64 (unpinE l key : Nat))) (fun G hG => (rUnpin14_any hG HL.out key (by have := HQ.out; omega)).mono fun _ _ ⟨a, b, c⟩ => ⟨a, b.mono fun _ h => .inl h, c⟩)
  rw [← HV.out] at hdoc
  have HDOC : Hid (Calls Try.prog 25 #[.pointer (some ⟨rp, 0, none⟩), .int .i64 key] w1 fun e w' => e = .returned (.int .i64 (V : Nat)) ∧ Duo w' (Plus (Plus D W.heap.size) w1.heap.size) p rp room (unpin l key) (unpin l key) ∧ Only (Plus D W.heap.size) w1 w') := hdoc
  clear hd1 ho1 ho1' hdoc c1 HPR
  refine held_one 7 rfl (by kernel_rfl) ?_
  go_wp2_with (go_at_call 25; refine HDOC.out.mono ?_; rintro e w2 ⟨rfl, hd2, ho2⟩)
  have cb2 : w2.cell? ⟨b, 1, none⟩ = some (.int .i64 key) := (World.cell?_of_block (a := ⟨b, 1, none⟩) (ho2.block b (Nat.lt_of_lt_of_le HS.out.lt HO1.out.size) (fun hk => by rcases hk with hk | hk; exact HS.out.out hk; have := HS.out.lt; omega))).trans cb
  try refine ⟨cb2, ?_⟩
  have hS : (fun X : World => X.cell? ⟨b, 1, none⟩ = some (.int .i64 key)) w2 := cb2
  have HFIN : Hid (Duo w2 (Plus D w.heap.size) p rp room (unpin l key) (unpin l key) ∧ Only D w w2) := HS.out.done HO1.out ho2 hd2
  clear hd2 ho2 HDOC
  refine held_quiet 8 (v := ?v8q23) rfl (by kernel_rfl) (fun _ _ _ h => h) (by assumption) rfl ?hy8q23 ?rest8q23
  case hy8q23 => (intro wS hSw; (try dsimp only at hSw); go_simp; try with_reducible rfl)
  try simp only [Act.put, List.setIfInBounds_toArray, List.set_cons_zero, List.set_cons_succ]
  refine held_quiet 9 (v := ?v9q24) rfl (by kernel_rfl) (fun _ _ _ h => h) (by assumption) rfl ?hy9q24 ?rest9q24
  case hy9q24 => (intro wS hSw; (try dsimp only at hSw); go_simp; try with_reducible rfl)
  try simp only [Act.put, List.setIfInBounds_toArray, List.set_cons_zero, List.set_cons_succ]
  refine held_done (by kernel_rfl) ?_
  go_wp2
  go_ret
  exact ⟨rfl, HFIN.out.1, HFIN.out.2⟩

set_option maxRecDepth 100000 in
set_option maxHeartbeats 4000000 in
theorem does_drop {w : World} {D : Nat → Prop} {p rp room : Nat} {l : L} (h : Duo w D p rp room l l) (hD : ∀ k, D k → k < w.heap.size) (key : Int) (hk : Ok key) :
    Calls Try.prog 11 #[.pointer (some ⟨p, 0, none⟩), .pointer (some ⟨rp, 0, none⟩), .agg #[.int .i64 4, .int .i64 key]] w (DoesAns w D p rp room l 4 key) := by
  have HMX : Hid (Try.prog.follows .mixedOrders = true) := by show _ = _; kernel_rfl
  have hs := does_start h hD 4 key
  have c0 := hs.c0
  have c1 := hs.c1
  obtain ⟨b, hb⟩ : ∃ b, b = w.heap.size := ⟨_, rfl⟩
  have HS : Hid (DoesIn w (w.alloc (.cells #[.int .i64 4, .int .i64 key] 30)) D p rp room l b 4 key) := by rw [hb]; exact hs
  have HL : Hid (l.length ≤ 1000) := h.len
  have HK : Hid (Ok key) := hk
  clear h hs hD hk
  go_enter Try.func11, Try.ntmps11
  go_wp2_with fail
  rw [← hb]
  rw [← hb] at c0 c1
  generalize eW : w.alloc (.cells #[.int .i64 4, .int .i64 key] 30) = W at HS c0 c1 ⊢
  clear eW hb
  refine wp_region_held (S := fun X => X.cell? ⟨b, 1, none⟩ = some (.int .i64 key)) HMX.out ?_
  have hS : (fun X : World => X.cell? ⟨b, 1, none⟩ = some (.int .i64 key)) W.drew := c1
  change wpAnyH _ _ _ _ _ _ _ _ W.drew
  obtain ⟨V, hV⟩ : ∃ V, V = dropE l key := ⟨_, rfl⟩
  have hpr := (HS.out.duo.below ((Below.refl _ W).drew)).prog (Q := fun e => e = .returned (.int .i64 (dropE l key : Nat))) (fun F hF => (Drop_any hF HK.out).mono fun _ _ ⟨a, b, c⟩ => ⟨a, b.mono fun _ h => .inl h, c⟩)
  rw [← hV] at hpr
  have HPR : Hid (Calls Try.prog 18 #[.pointer (some ⟨p, 0, none⟩), .int .i64 key] W.drew fun e w' => e = .returned (.int .i64 (V : Nat)) ∧ Duo w' (Plus D W.heap.size) p rp room (drop l key) l ∧ Only D W.drew w') := hpr
  have HV : Hid (V = dropE l key) := hV
  clear hpr hV c0
  refine held_quiet 0 (v := ?v0q25) rfl (by kernel_rfl) (fun _ _ _ h => h) (by assumption) rfl ?hy0q25 ?rest0q25
  case hy0q25 => (intro wS hSw; (try dsimp only at hSw); go_simp; try with_reducible rfl)
  try simp only [Act.put, List.setIfInBounds_toArray, List.set_cons_zero, List.set_cons_succ]
  refine held_quiet 1 (v := ?v1q26) rfl (by kernel_rfl) (fun _ _ _ h => h) (by assumption) rfl ?hy1q26 ?rest1q26
  case hy1q26 => (intro wS hSw; (try dsimp only at hSw); go_simp; try with_reducible rfl)
  try simp only [Act.put, List.setIfInBounds_toArray, List.set_cons_zero, List.set_cons_succ]
  refine held_quiet 2 (v := ?v2q27) rfl (by kernel_rfl) (fun _ _ _ h => h) (by assumption) rfl ?hy2q27 ?rest2q27
  case hy2q27 => (intro wS hSw; (try dsimp only at hSw); go_simp; try with_reducible rfl)
  try simp only [Act.put, List.setIfInBounds_toArray, List.set_cons_zero, List.set_cons_succ]
  refine held_quiet 4 (v := ?v4q28) rfl (by kernel_rfl) (fun _ _ _ h => h) (by assumption) rfl ?hy4q28 ?rest4q28
  case hy4q28 => (intro wS hSw; (try dsimp only at hSw); go_simp; try with_reducible rfl)
  try simp only [Act.put, List.setIfInBounds_toArray, List.set_cons_zero, List.set_cons_succ]
  refine held_quiet 5 (v := ?v5q29) rfl (by kernel_rfl) (fun _ _ _ h => h) (by assumption) rfl ?hy5q29 ?rest5q29
  case hy5q29 => (intro wS hSw; (try dsimp only at hSw); go_simp; try with_reducible rfl)
  try simp only [Act.put, List.setIfInBounds_toArray, List.set_cons_zero, List.set_cons_succ]
  refine held_quiet 6 (v := ?v6q30) rfl (by kernel_rfl) (fun _ _ _ h => h) (by assumption) rfl ?hy6q30 ?rest6q30
  case hy6q30 => (intro wS hSw; (try dsimp only at hSw); go_simp; try with_reducible rfl)
  try simp only [Act.put, List.setIfInBounds_toArray, List.set_cons_zero, List.set_cons_succ]
  refine held_one 3 rfl (by kernel_rfl) ?_
  go_wp2_with (go_at_call 18; refine HPR.out.mono ?_; rintro e w1 ⟨rfl, hd1, ho1⟩)
  have HD1 : Hid (Duo w1 (Plus D W.heap.size) p rp room (drop l key) l) := hd1
  have ho1' : Only D W w1 := (Only.drew D W).then ho1
  have HO1 : Hid (Only D W w1) := ho1'
  have cb := HS.out.later ho1'
  try refine ⟨cb, ?_⟩
  have hS : (fun X : World => X.cell? ⟨b, 1, none⟩ = some (.int .i64 key)) w1 := cb
  have hdoc := HD1.out.doc (Q := fun e => e = .returned (.int .i64 (dropE l key : Nat))) (fun G hG => rDrop14_any hG HL.out key)
  rw [← HV.out] at hdoc
  have HDOC : Hid (Calls Try.prog 26 #[.pointer (some ⟨rp, 0, none⟩), .int .i64 key] w1 fun e w' => e = .returned (.int .i64 (V : Nat)) ∧ Duo w' (Plus (Plus D W.heap.size) w1.heap.size) p rp room (drop l key) (drop l key) ∧ Only (Plus D W.heap.size) w1 w') := hdoc
  clear hd1 ho1 ho1' hdoc c1 HPR
  refine held_one 7 rfl (by kernel_rfl) ?_
  go_wp2_with (go_at_call 26; refine HDOC.out.mono ?_; rintro e w2 ⟨rfl, hd2, ho2⟩)
  have cb2 : w2.cell? ⟨b, 1, none⟩ = some (.int .i64 key) := (World.cell?_of_block (a := ⟨b, 1, none⟩) (ho2.block b (Nat.lt_of_lt_of_le HS.out.lt HO1.out.size) (fun hk => by rcases hk with hk | hk; exact HS.out.out hk; have := HS.out.lt; omega))).trans cb
  try refine ⟨cb2, ?_⟩
  have hS : (fun X : World => X.cell? ⟨b, 1, none⟩ = some (.int .i64 key)) w2 := cb2
  have HFIN : Hid (Duo w2 (Plus D w.heap.size) p rp room (drop l key) (drop l key) ∧ Only D w w2) := HS.out.done HO1.out ho2 hd2
  clear hd2 ho2 HDOC
  refine held_quiet 8 (v := ?v8q31) rfl (by kernel_rfl) (fun _ _ _ h => h) (by assumption) rfl ?hy8q31 ?rest8q31
  case hy8q31 => (intro wS hSw; (try dsimp only at hSw); go_simp; try with_reducible rfl)
  try simp only [Act.put, List.setIfInBounds_toArray, List.set_cons_zero, List.set_cons_succ]
  refine held_quiet 9 (v := ?v9q32) rfl (by kernel_rfl) (fun _ _ _ h => h) (by assumption) rfl ?hy9q32 ?rest9q32
  case hy9q32 => (intro wS hSw; (try dsimp only at hSw); go_simp; try with_reducible rfl)
  try simp only [Act.put, List.setIfInBounds_toArray, List.set_cons_zero, List.set_cons_succ]
  refine held_done (by kernel_rfl) ?_
  go_wp2
  go_ret
  exact ⟨rfl, HFIN.out.1, HFIN.out.2⟩

set_option maxRecDepth 100000 in
set_option maxHeartbeats 4000000 in
theorem does_other {w : World} {D : Nat → Prop} {p rp room : Nat} {l : L} (h : Duo w D p rp room l l) (hD : ∀ k, D k → k < w.heap.size) (kind key : Int) (h0 : kind ≠ 0) (h1 : kind ≠ 1) (h2 : kind ≠ 2) (h3 : kind ≠ 3) (h4 : kind ≠ 4) :
    Calls Try.prog 11 #[.pointer (some ⟨p, 0, none⟩), .pointer (some ⟨rp, 0, none⟩), .agg #[.int .i64 kind, .int .i64 key]] w (DoesAns w D p rp room l kind key) := by
  have hs := does_start h hD kind key
  have c0 := hs.c0
  have b0 : (kind == 0) = false := beq_false_of_ne h0
  have b1 : (kind == 1) = false := beq_false_of_ne h1
  have b2 : (kind == 2) = false := beq_false_of_ne h2
  have b3 : (kind == 3) = false := beq_false_of_ne h3
  have b4 : (kind == 4) = false := beq_false_of_ne h4
  have E : Hid (actL l kind key room = l) := by show _ = _; unfold actL; rw [if_neg h0, if_neg h1, if_neg h2, if_neg h3, if_neg h4]
  have HS : Hid (DoesIn w (w.alloc (.cells #[.int .i64 kind, .int .i64 key] 30)) D p rp room l w.heap.size kind key) := hs
  clear h hs hD h0 h1 h2 h3 h4
  go_enter Try.func11, Try.ntmps11
  go_wp2
  go_ret
  refine ⟨rfl, ?_, HS.out.only⟩
  rw [E.out]
  exact HS.out.duo.mono fun k hk _ => .inl hk

theorem does_any {w : World} {D : Nat → Prop} {p rp room : Nat} {l : L} (h : Duo w D p rp room l l) (hD : ∀ k, D k → k < w.heap.size) (kind key : Int) (hk : Ok key) (hq : pins l key < 1000000000) :
    Calls Try.prog 11 #[.pointer (some ⟨p, 0, none⟩), .pointer (some ⟨rp, 0, none⟩), .agg #[.int .i64 kind, .int .i64 key]] w (DoesAns w D p rp room l kind key) := by
  by_cases h0 : kind = 0
  · subst h0; exact does_put h hD key hk
  by_cases h1 : kind = 1
  · subst h1; exact does_get h hD key hk
  by_cases h2 : kind = 2
  · subst h2; exact does_pin h hD key hk hq
  by_cases h3 : kind = 3
  · subst h3; exact does_unpin h hD key hk hq
  by_cases h4 : kind = 4
  · subst h4; exact does_drop h hD key hk
  exact does_other h hD kind key h0 h1 h2 h3 h4
end Go.Proofs.Ytmmhfkohfijlaaa
