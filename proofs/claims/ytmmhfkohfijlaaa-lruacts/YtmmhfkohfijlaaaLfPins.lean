/- The walks of Pin, Unpin, Drop and Put of the document's own list. -/
import Derived.Test.YtmmhfkohfijlaaaLfCalls
namespace Go.Proofs.Ytmmhfkohfijlaaa
open Go.RowKit Lr
attribute [local go_sem] Oper.semAt_some

set_option maxRecDepth 100000 in
set_option maxHeartbeats 4000000 in
theorem rPin14_any {w : World} {rp room : Nat} {l : L} {G : Nat → Prop} (h : RefAt w rp room l G) (hn : l.length ≤ 1000) (k : Int) (hq : pins l k < 1000000000) :
    Calls Try.prog 24 #[.pointer (some ⟨rp, 0, none⟩), .int .i64 k] w fun r w' => r = .returned (.int .i64 (pinE l k : Nat)) ∧ RefAt w' rp room (pin l k) G ∧ Only G w w' := by
  obtain ⟨vk, vp, hin, hG, hGk, hGp⟩ := h
  have ha := rat14_any hin hn k
  unfold pinE pin
  by_cases hy : idx l k < l.length
  · rw [atI_yes hy] at ha
    rw [if_pos hy, if_pos hy]
    obtain ⟨g, cap, rfl, hgl, cp, fp⟩ := own_at hin.p hy
    rw [pinsL_at l hy, show (l.getD (idx l k) (0, 0)).2 = pins l k from rfl] at cp
    have c2 := hin.c2
    obtain ⟨hnew, ho⟩ := hin.pinned rfl hy (pins l k + 1)
    have hrg : rp ≠ g := fun e => hin.rp_p (by rw [e]; rfl)
    have HR : Hid (RefAt (w.setCell ⟨g, idx l k, none⟩ (.int .i64 ((pins l k + 1 : Nat) : Int))) rp room (pinTo l (idx l k) (pins l k + 1)) G) := ⟨_, _, hnew, hG, hGk, hGp⟩
    have HO : Hid (Only G w (w.setCell ⟨g, idx l k, none⟩ (.int .i64 ((pins l k + 1 : Nat) : Int)))) := ho.mono fun j hj => hGp j (by rw [show j = g from hj]; rfl)
    obtain ⟨l2, hl2⟩ : ∃ l2, l2 = pinTo l (idx l k) (pins l k + 1) := ⟨_, rfl⟩
    rw [← hl2] at HR ⊢
    clear hl2 hnew ho hin hG hGk hGp
    obtain ⟨i, hi⟩ : ∃ i, i = idx l k := ⟨_, rfl⟩
    obtain ⟨n, hne⟩ : ∃ n, n = l.length := ⟨_, rfl⟩
    obtain ⟨q, hqe⟩ : ∃ q, q = pins l k := ⟨_, rfl⟩
    rw [← hqe] at hq cp HR HO
    rw [← hi] at ha hy cp fp HR HO
    rw [← hne] at hy c2 hn
    have e1 : ((q + 1 : Nat) : Int) = (q : Int) + 1 := by omega
    rw [e1] at HR HO
    have HMX : Hid (Try.prog.follows .mixedOrders = true) := by show _ = _; kernel_rfl
    clear hi hne hqe e1
    go_enter Try.func24, Try.ntmps24
    go_wp2_with fail
    refine ha.mono ?_
    rintro e w1 ⟨rfl, rfl⟩
    clear ha
    go_wp2_with fail
    refine wp_region_held (S := fun W => W.cell? ⟨rp, 2, none⟩ = some (.slice (some ⟨g, 0, none⟩) n cap)) HMX.out ?_
    have hS : (fun W : World => W.cell? ⟨rp, 2, none⟩ = some (.slice (some ⟨g, 0, none⟩) n cap)) w1.drew := c2
    change wpAnyH _ _ _ _ _ _ _ _ w1.drew
    refine held_quiet 0 (v := ?v0q1) rfl (by kernel_rfl) (fun _ _ _ h => h) (by assumption) rfl ?hy0q1 ?rest0q1
    case hy0q1 => (intro wS hSw; (try dsimp only at hSw); go_simp; try with_reducible rfl)
    try simp only [Act.put, List.setIfInBounds_toArray, List.set_cons_zero, List.set_cons_succ]
    refine held_quiet 1 (v := ?v1q2) rfl (by kernel_rfl) (fun _ _ _ h => h) (by assumption) rfl ?hy1q2 ?rest1q2
    case hy1q2 => (intro wS hSw; (try dsimp only at hSw); go_simp; try with_reducible rfl)
    try simp only [Act.put, List.setIfInBounds_toArray, List.set_cons_zero, List.set_cons_succ]
    refine held_quiet 2 (v := ?v2q3) rfl (by kernel_rfl) (fun _ _ _ h => h) (by assumption) rfl ?hy2q3 ?rest2q3
    case hy2q3 => (intro wS hSw; (try dsimp only at hSw); go_simp; try with_reducible rfl)
    try simp only [Act.put, List.setIfInBounds_toArray, List.set_cons_zero, List.set_cons_succ]
    refine held_quiet 3 (v := ?v3q4) rfl (by kernel_rfl) (fun _ _ _ h => h) (by assumption) rfl ?hy3q4 ?rest3q4
    case hy3q4 => (intro wS hSw; (try dsimp only at hSw); go_simp; try with_reducible rfl)
    try simp only [Act.put, List.setIfInBounds_toArray, List.set_cons_zero, List.set_cons_succ]
    refine held_quiet 4 (v := ?v4q5) rfl (by kernel_rfl) (fun _ _ _ h => h) (by assumption) rfl ?hy4q5 ?rest4q5
    case hy4q5 => (intro wS hSw; (try dsimp only at hSw); go_simp; try with_reducible rfl)
    try simp only [Act.put, List.setIfInBounds_toArray, List.set_cons_zero, List.set_cons_succ]
    refine held_quiet 5 (v := ?v5q6) rfl (by kernel_rfl) (fun _ _ _ h => h) (by assumption) rfl ?hy5q6 ?rest5q6
    case hy5q6 => (intro wS hSw; (try dsimp only at hSw); go_simp; try with_reducible rfl)
    try simp only [Act.put, List.setIfInBounds_toArray, List.set_cons_zero, List.set_cons_succ]
    refine held_quiet 6 (v := ?v6q7) rfl (by kernel_rfl) (fun _ _ _ h => h) (by assumption) rfl ?hy6q7 ?rest6q7
    case hy6q7 => (intro wS hSw; (try dsimp only at hSw); go_simp; try with_reducible rfl)
    try simp only [Act.put, List.setIfInBounds_toArray, List.set_cons_zero, List.set_cons_succ]
    refine held_quiet 7 (v := ?v7q8) rfl (by kernel_rfl) (fun _ _ _ h => h) (by assumption) rfl ?hy7q8 ?rest7q8
    case hy7q8 => (intro wS hSw; (try dsimp only at hSw); go_simp; try with_reducible rfl)
    try simp only [Act.put, List.setIfInBounds_toArray, List.set_cons_zero, List.set_cons_succ]
    refine held_quiet 8 (v := ?v8q9) rfl (by kernel_rfl) (fun _ _ _ h => h) (by assumption) rfl ?hy8q9 ?rest8q9
    case hy8q9 => (intro wS hSw; (try dsimp only at hSw); go_simp; try with_reducible rfl)
    try simp only [Act.put, List.setIfInBounds_toArray, List.set_cons_zero, List.set_cons_succ]
    refine held_quiet 9 (v := ?v9q10) rfl (by kernel_rfl) (fun _ _ _ h => h) (by assumption) rfl ?hy9q10 ?rest9q10
    case hy9q10 => (intro wS hSw; (try dsimp only at hSw); go_simp; try with_reducible rfl)
    try simp only [Act.put, List.setIfInBounds_toArray, List.set_cons_zero, List.set_cons_succ]
    refine held_quiet 10 (v := ?v10q11) rfl (by kernel_rfl) (fun _ _ _ h => h) (by assumption) rfl ?hy10q11 ?rest10q11
    case hy10q11 => (intro wS hSw; (try dsimp only at hSw); go_simp; try with_reducible rfl)
    try simp only [Act.put, List.setIfInBounds_toArray, List.set_cons_zero, List.set_cons_succ]
    refine held_one 11 rfl (by kernel_rfl) ?_
    go_wp2
    try refine ⟨hS, ?_⟩
    refine held_quiet 12 (v := ?v12q12) rfl (by kernel_rfl) (fun _ _ _ h => h) (by assumption) rfl ?hy12q12 ?rest12q12
    case hy12q12 => (intro wS hSw; (try dsimp only at hSw); go_simp; try with_reducible rfl)
    try simp only [Act.put, List.setIfInBounds_toArray, List.set_cons_zero, List.set_cons_succ]
    refine held_quiet 13 (v := ?v13q13) rfl (by kernel_rfl) (fun _ _ _ h => h) (by assumption) rfl ?hy13q13 ?rest13q13
    case hy13q13 => (intro wS hSw; (try dsimp only at hSw); go_simp; try with_reducible rfl)
    try simp only [Act.put, List.setIfInBounds_toArray, List.set_cons_zero, List.set_cons_succ]
    refine held_one 14 rfl (by kernel_rfl) ?_
    go_wp2
    have hS2 : (World.setCell w1 ⟨g, i, none⟩ (.int .i64 ((q : Int) + 1))).drew.cell? ⟨rp, 2, none⟩ = some (.slice (some ⟨g, 0, none⟩) n cap) := (World.cell?_setCell_other _ _ _ _ (fun e => by injection e with e1; exact hrg e1.symm)).trans c2
    try refine ⟨hS2, ?_⟩
    refine held_done (by kernel_rfl) ?_
    have HRD : Hid (RefAt (World.setCell w1 ⟨g, i, none⟩ (.int .i64 ((q : Int) + 1))).drew rp room l2 G) := HR.out.only (Only.drew (fun _ => False) _) (fun _ _ _ hf => hf)
    have HOD : Hid (Only G w1 (World.setCell w1 ⟨g, i, none⟩ (.int .i64 ((q : Int) + 1))).drew) := HO.out.then (Only.drew _ _)
    clear hS2 HR HO
    go_wp2
    go_ret
    exact ⟨rfl, HRD.out, HOD.out⟩
  · rw [atI_no hy] at ha
    rw [if_neg hy, if_neg hy]
    have HR : Hid (RefAt w rp room l G) := ⟨vk, vp, hin, hG, hGk, hGp⟩
    clear hin hG hGk hGp
    go_enter Try.func24, Try.ntmps24
    go_wp2_with fail
    refine ha.mono ?_
    rintro e w1 ⟨rfl, rfl⟩
    clear ha
    go_wp2
    go_ret
    exact ⟨rfl, HR.out, Only.refl _ _⟩

set_option maxRecDepth 100000 in
set_option maxHeartbeats 4000000 in
theorem rUnpin14_any {w : World} {rp room : Nat} {l : L} {G : Nat → Prop} (h : RefAt w rp room l G) (hn : l.length ≤ 1000) (k : Int) (hq : pins l k < 4000000000) :
    Calls Try.prog 25 #[.pointer (some ⟨rp, 0, none⟩), .int .i64 k] w fun r w' => r = .returned (.int .i64 (unpinE l k : Nat)) ∧ RefAt w' rp room (unpin l k) G ∧ Only G w w' := by
  obtain ⟨vk, vp, hin, hG, hGk, hGp⟩ := h
  have ha := rat14_any hin hn k
  unfold unpinE unpin
  by_cases hy : idx l k < l.length
  · rw [atI_yes hy] at ha
    rw [if_pos hy, if_pos hy]
    obtain ⟨g, cap, rfl, hgl, cp, fp⟩ := own_at hin.p hy
    rw [pinsL_at l hy, show (l.getD (idx l k) (0, 0)).2 = pins l k from rfl] at cp
    have c2 := hin.c2
    by_cases hz : pins l k = 0
    · rw [if_pos hz, if_pos hz]
      rw [hz] at cp
      have HR : Hid (RefAt w rp room l G) := ⟨_, _, hin, hG, hGk, hGp⟩
      clear hin hG hGk hGp hz hq
      obtain ⟨i, hi⟩ : ∃ i, i = idx l k := ⟨_, rfl⟩
      obtain ⟨n, hne⟩ : ∃ n, n = l.length := ⟨_, rfl⟩
      rw [← hi] at ha hy cp fp
      rw [← hne] at hy c2 hn
      clear hi hne
      go_enter Try.func25, Try.ntmps25
      go_wp2_with fail
      refine ha.mono ?_
      rintro e w1 ⟨rfl, rfl⟩
      clear ha
      go_wp2
      go_ret
      exact ⟨rfl, HR.out, Only.refl _ _⟩
    · rw [if_neg hz, if_neg hz]
      obtain ⟨hnew, ho⟩ := hin.pinned rfl hy (pins l k - 1)
      have hrg : rp ≠ g := fun e => hin.rp_p (by rw [e]; rfl)
      have HR : Hid (RefAt (w.setCell ⟨g, idx l k, none⟩ (.int .i64 ((pins l k - 1 : Nat) : Int))) rp room (pinTo l (idx l k) (pins l k - 1)) G) := ⟨_, _, hnew, hG, hGk, hGp⟩
      have HO : Hid (Only G w (w.setCell ⟨g, idx l k, none⟩ (.int .i64 ((pins l k - 1 : Nat) : Int)))) := ho.mono fun j hj => hGp j (by rw [show j = g from hj]; rfl)
      obtain ⟨l2, hl2⟩ : ∃ l2, l2 = pinTo l (idx l k) (pins l k - 1) := ⟨_, rfl⟩
      rw [← hl2] at HR ⊢
      clear hl2 hnew ho hin hG hGk hGp
      obtain ⟨i, hi⟩ : ∃ i, i = idx l k := ⟨_, rfl⟩
      obtain ⟨n, hne⟩ : ∃ n, n = l.length := ⟨_, rfl⟩
      obtain ⟨q, hqe⟩ : ∃ q, q = pins l k := ⟨_, rfl⟩
      rw [← hqe] at hq cp HR HO hz
      rw [← hi] at ha hy cp fp HR HO
      rw [← hne] at hy c2 hn
      have e1 : ((q - 1 : Nat) : Int) = (q : Int) - 1 := by omega
      have hzb : ((q : Int) == 0) = false := by rw [beq_eq_false_iff_ne]; omega
      rw [e1] at HR HO
      have HMX : Hid (Try.prog.follows .mixedOrders = true) := by show _ = _; kernel_rfl
      clear hi hne hqe e1 hz
      go_enter Try.func25, Try.ntmps25
      go_wp2_with fail
      refine ha.mono ?_
      rintro e w1 ⟨rfl, rfl⟩
      clear ha
      go_wp2_with fail
      refine wp_region_held (S := fun W => W.cell? ⟨rp, 2, none⟩ = some (.slice (some ⟨g, 0, none⟩) n cap)) HMX.out ?_
      have hS : (fun W : World => W.cell? ⟨rp, 2, none⟩ = some (.slice (some ⟨g, 0, none⟩) n cap)) w1.drew := c2
      change wpAnyH _ _ _ _ _ _ _ _ w1.drew
      refine held_quiet 0 (v := ?v0q14) rfl (by kernel_rfl) (fun _ _ _ h => h) (by assumption) rfl ?hy0q14 ?rest0q14
      case hy0q14 => (intro wS hSw; (try dsimp only at hSw); go_simp; try with_reducible rfl)
      try simp only [Act.put, List.setIfInBounds_toArray, List.set_cons_zero, List.set_cons_succ]
      refine held_quiet 1 (v := ?v1q15) rfl (by kernel_rfl) (fun _ _ _ h => h) (by assumption) rfl ?hy1q15 ?rest1q15
      case hy1q15 => (intro wS hSw; (try dsimp only at hSw); go_simp; try with_reducible rfl)
      try simp only [Act.put, List.setIfInBounds_toArray, List.set_cons_zero, List.set_cons_succ]
      refine held_quiet 2 (v := ?v2q16) rfl (by kernel_rfl) (fun _ _ _ h => h) (by assumption) rfl ?hy2q16 ?rest2q16
      case hy2q16 => (intro wS hSw; (try dsimp only at hSw); go_simp; try with_reducible rfl)
      try simp only [Act.put, List.setIfInBounds_toArray, List.set_cons_zero, List.set_cons_succ]
      refine held_quiet 3 (v := ?v3q17) rfl (by kernel_rfl) (fun _ _ _ h => h) (by assumption) rfl ?hy3q17 ?rest3q17
      case hy3q17 => (intro wS hSw; (try dsimp only at hSw); go_simp; try with_reducible rfl)
      try simp only [Act.put, List.setIfInBounds_toArray, List.set_cons_zero, List.set_cons_succ]
      refine held_quiet 4 (v := ?v4q18) rfl (by kernel_rfl) (fun _ _ _ h => h) (by assumption) rfl ?hy4q18 ?rest4q18
      case hy4q18 => (intro wS hSw; (try dsimp only at hSw); go_simp; try with_reducible rfl)
      try simp only [Act.put, List.setIfInBounds_toArray, List.set_cons_zero, List.set_cons_succ]
      refine held_quiet 5 (v := ?v5q19) rfl (by kernel_rfl) (fun _ _ _ h => h) (by assumption) rfl ?hy5q19 ?rest5q19
      case hy5q19 => (intro wS hSw; (try dsimp only at hSw); go_simp; try with_reducible rfl)
      try simp only [Act.put, List.setIfInBounds_toArray, List.set_cons_zero, List.set_cons_succ]
      refine held_quiet 6 (v := ?v6q20) rfl (by kernel_rfl) (fun _ _ _ h => h) (by assumption) rfl ?hy6q20 ?rest6q20
      case hy6q20 => (intro wS hSw; (try dsimp only at hSw); go_simp; try with_reducible rfl)
      try simp only [Act.put, List.setIfInBounds_toArray, List.set_cons_zero, List.set_cons_succ]
      refine held_quiet 7 (v := ?v7q21) rfl (by kernel_rfl) (fun _ _ _ h => h) (by assumption) rfl ?hy7q21 ?rest7q21
      case hy7q21 => (intro wS hSw; (try dsimp only at hSw); go_simp; try with_reducible rfl)
      try simp only [Act.put, List.setIfInBounds_toArray, List.set_cons_zero, List.set_cons_succ]
      refine held_quiet 8 (v := ?v8q22) rfl (by kernel_rfl) (fun _ _ _ h => h) (by assumption) rfl ?hy8q22 ?rest8q22
      case hy8q22 => (intro wS hSw; (try dsimp only at hSw); go_simp; try with_reducible rfl)
      try simp only [Act.put, List.setIfInBounds_toArray, List.set_cons_zero, List.set_cons_succ]
      refine held_quiet 9 (v := ?v9q23) rfl (by kernel_rfl) (fun _ _ _ h => h) (by assumption) rfl ?hy9q23 ?rest9q23
      case hy9q23 => (intro wS hSw; (try dsimp only at hSw); go_simp; try with_reducible rfl)
      try simp only [Act.put, List.setIfInBounds_toArray, List.set_cons_zero, List.set_cons_succ]
      refine held_quiet 10 (v := ?v10q24) rfl (by kernel_rfl) (fun _ _ _ h => h) (by assumption) rfl ?hy10q24 ?rest10q24
      case hy10q24 => (intro wS hSw; (try dsimp only at hSw); go_simp; try with_reducible rfl)
      try simp only [Act.put, List.setIfInBounds_toArray, List.set_cons_zero, List.set_cons_succ]
      refine held_one 11 rfl (by kernel_rfl) ?_
      go_wp2
      try refine ⟨hS, ?_⟩
      refine held_quiet 12 (v := ?v12q25) rfl (by kernel_rfl) (fun _ _ _ h => h) (by assumption) rfl ?hy12q25 ?rest12q25
      case hy12q25 => (intro wS hSw; (try dsimp only at hSw); go_simp; try with_reducible rfl)
      try simp only [Act.put, List.setIfInBounds_toArray, List.set_cons_zero, List.set_cons_succ]
      refine held_quiet 13 (v := ?v13q26) rfl (by kernel_rfl) (fun _ _ _ h => h) (by assumption) rfl ?hy13q26 ?rest13q26
      case hy13q26 => (intro wS hSw; (try dsimp only at hSw); go_simp; try with_reducible rfl)
      try simp only [Act.put, List.setIfInBounds_toArray, List.set_cons_zero, List.set_cons_succ]
      refine held_one 14 rfl (by kernel_rfl) ?_
      go_wp2
      have hS2 : (World.setCell w1 ⟨g, i, none⟩ (.int .i64 ((q : Int) - 1))).drew.cell? ⟨rp, 2, none⟩ = some (.slice (some ⟨g, 0, none⟩) n cap) := (World.cell?_setCell_other _ _ _ _ (fun e => by injection e with e1; exact hrg e1.symm)).trans c2
      try refine ⟨hS2, ?_⟩
      refine held_done (by kernel_rfl) ?_
      have HRD : Hid (RefAt (World.setCell w1 ⟨g, i, none⟩ (.int .i64 ((q : Int) - 1))).drew rp room l2 G) := HR.out.only (Only.drew (fun _ => False) _) (fun _ _ _ hf => hf)
      have HOD : Hid (Only G w1 (World.setCell w1 ⟨g, i, none⟩ (.int .i64 ((q : Int) - 1))).drew) := HO.out.then (Only.drew _ _)
      clear hS2 HR HO
      go_wp2
      go_ret
      exact ⟨rfl, HRD.out, HOD.out⟩
  · rw [atI_no hy] at ha
    rw [if_neg hy, if_neg hy]
    have HR : Hid (RefAt w rp room l G) := ⟨vk, vp, hin, hG, hGk, hGp⟩
    clear hin hG hGk hGp
    go_enter Try.func25, Try.ntmps25
    go_wp2_with fail
    refine ha.mono ?_
    rintro e w1 ⟨rfl, rfl⟩
    clear ha
    go_wp2
    go_ret
    exact ⟨rfl, HR.out, Only.refl _ _⟩

set_option maxRecDepth 100000 in
set_option maxHeartbeats 4000000 in
theorem rDrop14_any {w : World} {rp room : Nat} {l : L} {G : Nat → Prop} (h : RefAt w rp room l G) (hn : l.length ≤ 1000) (k : Int) :
    Calls Try.prog 26 #[.pointer (some ⟨rp, 0, none⟩), .int .i64 k] w fun r w' => r = .returned (.int .i64 (dropE l k : Nat)) ∧ RefAt w' rp room (drop l k) (Plus G w.heap.size) ∧ Only G w w' := by
  obtain ⟨vk, vp, hin, hG, hGk, hGp⟩ := h
  have ha := rat14_any hin hn k
  have HR : Hid (RefAt w rp room l (Plus G w.heap.size)) := ⟨vk, vp, hin, .inl hG, fun g hg => .inl (hGk g hg), fun g hg => .inl (hGp g hg)⟩
  unfold dropE drop
  by_cases hy : idx l k < l.length
  · rw [atI_yes hy] at ha
    rw [if_pos hy, if_pos hy]
    have ht := rtake14_any hin hn hy
    obtain ⟨g, cap, rfl, hgl, cp, fp⟩ := own_at hin.p hy
    rw [pinsL_at l hy, show (l.getD (idx l k) (0, 0)).2 = pins l k from rfl] at cp
    have c2 := hin.c2
    by_cases hz : pins l k = 0
    · rw [if_pos hz, if_pos hz]
      rw [hz] at cp
      have HG : Hid (G rp) := hG
      obtain ⟨l2, hl2⟩ : ∃ l2, l2 = l.eraseIdx (idx l k) := ⟨_, rfl⟩
      rw [← hl2] at ht ⊢
      clear hin hG hGk hGp hz hl2 HR
      obtain ⟨i, hi⟩ : ∃ i, i = idx l k := ⟨_, rfl⟩
      obtain ⟨n, hne⟩ : ∃ n, n = l.length := ⟨_, rfl⟩
      rw [← hi] at ha hy cp fp ht
      rw [← hne] at hy c2 hn
      clear hi hne
      go_enter Try.func26, Try.ntmps26
      go_wp2_with fail
      refine ha.mono ?_
      rintro e w1 ⟨rfl, rfl⟩
      clear ha
      go_wp2_with fail
      refine ht.mono ?_
      rintro e w2 ⟨rfl, ⟨vk2, vp2, hin2, h5, h6⟩, ho2⟩
      have HR2 : Hid (RefAt w2 rp room l2 (Plus G w1.heap.size)) := RefAt.of (w := w1) hin2 HG.out h5 h6
      have HO2 : Hid (Only G w1 w2) := ho2.mono fun j hj => by rw [show j = rp from hj]; exact HG.out
      clear ht hin2 h5 h6 ho2 c2 cp fp
      go_wp2
      go_ret
      exact ⟨rfl, HR2.out, HO2.out⟩
    · rw [if_neg hz, if_neg hz]
      clear hin hG hGk hGp ht
      obtain ⟨i, hi⟩ : ∃ i, i = idx l k := ⟨_, rfl⟩
      obtain ⟨n, hne⟩ : ∃ n, n = l.length := ⟨_, rfl⟩
      obtain ⟨q, hqe⟩ : ∃ q, q = pins l k := ⟨_, rfl⟩
      rw [← hqe] at cp hz
      rw [← hi] at ha hy cp fp
      rw [← hne] at hy c2 hn
      have hzb : (0 : Int) < (q : Int) := by omega
      clear hi hne hqe hz
      go_enter Try.func26, Try.ntmps26
      go_wp2_with fail
      refine ha.mono ?_
      rintro e w1 ⟨rfl, rfl⟩
      clear ha
      go_wp2
      go_ret
      exact ⟨rfl, HR.out, Only.refl _ _⟩
  · rw [atI_no hy] at ha
    rw [if_neg hy, if_neg hy]
    clear hin hG hGk hGp
    go_enter Try.func26, Try.ntmps26
    go_wp2_with fail
    refine ha.mono ?_
    rintro e w1 ⟨rfl, rfl⟩
    clear ha
    go_wp2
    go_ret
    exact ⟨rfl, HR.out, Only.refl _ _⟩
end Go.Proofs.Ytmmhfkohfijlaaa
