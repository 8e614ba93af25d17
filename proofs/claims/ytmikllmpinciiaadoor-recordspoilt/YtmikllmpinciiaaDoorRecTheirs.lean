/- The walk of the statements' own theirs: the document's record of the program's. -/
import Derived.Test.YtmikllmpinciiaaDoorRecParts
namespace Go.Proofs.YtmikllmpinciiaaDoor
open Go.RowKit

theorem only_low13 {w w1 w2 : World} {F : Nat → Prop} (h : Only F w w1) (hb : Below w.heap.size w1 w2) : Only F w w2 := only_low h hb
theorem cell_same13 {w w' : World} {b : Nat} (h : w'.heap[b]? = w.heap[b]?) (j : Nat) : w'.cell? ⟨b, j, none⟩ = w.cell? ⟨b, j, none⟩ ∧ w'.frozen? ⟨b, j, none⟩ = w.frozen? ⟨b, j, none⟩ := by
  unfold World.cell? World.frozen?
  dsimp only
  rw [h]
  exact ⟨rfl, rfl⟩
/-- three records made one behind the other -/
theorem boxes3 (w : World) (x0 x1 x2 y0 y1 y2 z0 z1 z2 : Value) (s t u : TypeId) :
    let W := ((w.alloc (.cells #[x0, x1, x2] s)).alloc (.cells #[y0, y1, y2] t)).alloc (.cells #[z0, z1, z2] u)
    BoxAt W w.heap.size x0 x1 x2 ∧ BoxAt W (w.heap.size + 1) y0 y1 y2 ∧ BoxAt W (w.heap.size + 1 + 1) z0 z1 z2 ∧ Below w.heap.size w W := by
  intro W
  have b1 : Below (w.heap.size + 1) (w.alloc (.cells #[x0, x1, x2] s)) ((w.alloc (.cells #[x0, x1, x2] s)).alloc (.cells #[y0, y1, y2] t)) := by
    have := (Below.refl (w.alloc (.cells #[x0, x1, x2] s)).heap.size (w.alloc (.cells #[x0, x1, x2] s))).alloc (Nat.le_refl _) (.cells #[y0, y1, y2] t)
    simpa using this
  have b2 : Below (w.heap.size + 1 + 1) ((w.alloc (.cells #[x0, x1, x2] s)).alloc (.cells #[y0, y1, y2] t)) W := by
    have := (Below.refl ((w.alloc (.cells #[x0, x1, x2] s)).alloc (.cells #[y0, y1, y2] t)).heap.size ((w.alloc (.cells #[x0, x1, x2] s)).alloc (.cells #[y0, y1, y2] t))).alloc (Nat.le_refl _) (.cells #[z0, z1, z2] u)
    simpa using this
  refine ⟨((BoxAt.new w s x0 x1 x2).below b1 (by omega)).below b2 (by omega), ?_, ?_, ((Below.refl _ w).alloc (Nat.le_refl _) _).trans ((b1.mono (by omega)).trans (b2.mono (by omega)))⟩
  · have := BoxAt.new (w.alloc (.cells #[x0, x1, x2] s)) t y0 y1 y2
    simp only [World.size_alloc] at this
    exact this.below b2 (by omega)
  · have := BoxAt.new ((w.alloc (.cells #[x0, x1, x2] s)).alloc (.cells #[y0, y1, y2] t)) u z0 z1 z2
    simp only [World.size_alloc] at this
    exact this

set_option maxRecDepth 100000 in
set_option maxHeartbeats 4000000 in
theorem theirs12_any (seq row : Int) (a : Option Addr) (n cap : Nat) (f : Nat → Prt) (w : World) (hn : n * 32 ≤ 140737488355328) (hp : PartsR w a n f) :
    Calls Tryd.prog 12 #[.agg #[.int .u64 seq, .int .i64 row, .slice a n cap]] w fun e w' => ∃ a' cap', e = .returned (.agg #[.int .u64 seq, .int .i64 row, .slice a' n cap']) ∧ PartsR w' a' n f ∧ Below w.heap.size w w' := by
  have hmx : Tryd.prog.follows .mixedOrders = true := by kernel_rfl
  have HMX : Hid (Tryd.prog.follows .mixedOrders = true) := hmx
  have hpi := info_part12b
  obtain ⟨i0, hi, hz0, hz1, hz2⟩ := info_parts hpi
  have hbx := boxes3 w (.int .u64 seq) (.int .i64 row) (.slice a n cap) (.int .u64 0) (.int .i64 0) (.slice none 0 0) (.int .u64 seq) (.int .i64 row) (.slice none 0 0) 25 36 36
  have HBX : Hid _ := hbx
  have HP : Hid (PartsR w a n f) := hp
  clear hp hmx hpi hbx
  go_enter Tryd.func12, Tryd.ntmps12
  go_upto_region 2 with fail
  obtain ⟨h1, h2, h3, h4⟩ := HBX.out
  obtain ⟨W0, hW0⟩ : ∃ W0, W0 = ((w.alloc (.cells #[.int .u64 seq, .int .i64 row, .slice a n cap] 25)).alloc (.cells #[.int .u64 0, .int .i64 0, .slice none 0 0] 36)).alloc (.cells #[.int .u64 seq, .int .i64 row, .slice none 0 0] 36) := ⟨_, rfl⟩
  rw [← hW0] at h1 h2 h3 h4 ⊢
  obtain ⟨ob, hob⟩ : ∃ ob, ob = w.heap.size + 1 + 1 := ⟨_, rfl⟩
  obtain ⟨qb, hqb⟩ : ∃ qb, qb = w.heap.size + 1 := ⟨_, rfl⟩
  obtain ⟨rb, hrb⟩ : ∃ rb, rb = w.heap.size := ⟨_, rfl⟩
  have HLt : Hid (rb < qb ∧ qb < ob ∧ ob < W0.heap.size ∧ rb = w.heap.size) := ⟨by omega, by omega, by have := h3.lt; omega, hrb⟩
  rw [← hob] at h3 ⊢
  rw [← hqb] at h2 ⊢
  rw [← hrb] at h1 ⊢
  have HX0 : Hid (BoxAt W0 rb (.int .u64 seq) (.int .i64 row) (.slice a n cap) ∧ BoxAt W0 qb (.int .u64 0) (.int .i64 0) (.slice none 0 0) ∧ BoxAt W0 ob (.int .u64 seq) (.int .i64 row) (.slice none 0 0)) := ⟨h1, h2, h3⟩
  have HB0 : Hid (Below w.heap.size w W0) := h4
  clear h1 h2 h3 h4 hW0 hob hqb hrb HBX
  go_wp2
  go_loopg [4] n (fun gg i wr => ∃ (k : Nat) (v : Value), k ≤ n ∧ gg = n - k ∧ i = .int .i64 (k : Int) ∧ BoxAt wr ob (.int .u64 seq) (.int .i64 row) v ∧ wr.ownsRow W0.heap.size 67 3 v k (prtVals k f) ∧ Only (fun x => x = ob) W0 wr)
  case atStart => exact ⟨0, _, Nat.zero_le _, rfl, rfl, HX0.out.2.2, World.ownsRow_nil _ _ _ _, Only.refl _ _⟩
  case round =>
  obtain ⟨k, v, hk, rfl, rfl, hbx, hown, ho⟩ := hrel
  have HBx : Hid (BoxAt wr ob (.int .u64 seq) (.int .i64 row) v) := hbx
  have OWN : Hid (wr.ownsRow W0.heap.size 67 3 v k (prtVals k f)) := hown
  have HOn : Hid (Only (fun x => x = ob) W0 wr) := ho
  have hsm : ∀ x, x < W0.heap.size → x ≠ ob → wr.heap[x]? = W0.heap[x]? := fun x h1 h2 => ho.block x h1 h2
  have x2 := (cell_same13 (hsm rb (by have := HLt.out; omega) (by have := HLt.out; omega)) 2).1.trans HX0.out.1.k2
  have HSm : Hid (∀ x, x < W0.heap.size → x ≠ ob → wr.heap[x]? = W0.heap[x]?) := hsm
  have hsz := ho.size
  obtain ⟨z0, z1, z2, e0, e1, e2⟩ := hbx
  clear hown ho hsm
  by_cases hlt : k < n
  case neg =>
    have hkn : k = n := by omega
    subst hkn
    obtain ⟨va, vc, rfl, hpr, hvc, hvb⟩ := PartsR.of_owns OWN.out
    have HPR : Hid (PartsR wr va k f) := hpr
    have HVb : Hid (∀ x, va = some x → W0.heap.size ≤ x.block) := hvb
    have hq : BoxAt wr qb (.int .u64 0) (.int .i64 0) (.slice none 0 0) := by
      have e := HSm.out qb (by have := HLt.out; omega) (by have := HLt.out; omega)
      obtain ⟨a0, a1, a2, a3, a4, a5⟩ := HX0.out.2.1
      exact ⟨(cell_same13 e 0).1.trans a0, (cell_same13 e 1).1.trans a1, (cell_same13 e 2).1.trans a2, (cell_same13 e 0).2.trans a3, (cell_same13 e 1).2.trans a4, (cell_same13 e 2).2.trans a5⟩
    have HBw : Hid (Below w.heap.size w wr) := HB0.out.trans (HOn.out.below (fun x hx => by rw [hx]; have := HLt.out; omega) HB0.out.size)
    obtain ⟨y0, y1, y2, g0, g1, g2⟩ := hq
    clear hlt hk hpr hvc hvb
    go_wp2
    refine bodyPost_ret (ret_cell rfl _ _ ⟨qb, 0, none⟩ (.agg #[.int .u64 seq, .int .i64 row, .slice va k vc]) rfl (by go_simp)) rfl ?_
    refine ⟨va, vc, rfl, ?_, ?_⟩
    · exact HPR.out.only (only3 _ _ _ _ _) (fun x hx e => by have := HVb.out x hx; have := HLt.out; omega)
    · exact stored3 HBw.out (by have := HLt.out; omega) HBw.out.size _ _ _
  case pos =>
  have hki : (k : Int) < (n : Int) := by omega
  obtain ⟨b, o, rfl, hpw⟩ := HP.out k hlt
  have hbo : b ≠ ob := by have := hpw.lt; have := HLt.out; omega
  have hpk := hpw.below HB0.out hpw.lt
  obtain ⟨s, hs⟩ : ∃ s, s = f k := ⟨_, rfl⟩
  have hsame := HSm.out b hpk.lt hbo
  have c0 := (cell_same13 hsame (o + k * 3)).1.trans hpk.c0
  have c1 := (cell_same13 hsame (o + k * 3 + 1)).1.trans hpk.c1
  have c2 := (cell_same13 hsame (o + k * 3 + 2)).1.trans hpk.c2
  rw [← hs] at c0 c1 c2
  have HS : Hid (s = f k) := hs
  obtain ⟨sc, so, sd⟩ := s
  dsimp only at c0 c1 c2
  have hbl := hpk.lt
  clear hpk hpw hs hsame
  go_upto_region 5 with fail
  have hS : (fun W : World => W.cell? ⟨rb, 2, none⟩ = some (.slice (some ⟨b, o, none⟩) n cap) ∧ W.cell? ⟨b, o + k * 3, none⟩ = some (.int .i64 sc) ∧ W.cell? ⟨b, o + k * 3 + 1, none⟩ = some (.int .i64 so) ∧ W.cell? ⟨b, o + k * 3 + 2, none⟩ = some (.string sd)) wr.drew := ⟨x2, c0, c1, c2⟩
  refine wp_region_held (S := fun W => W.cell? ⟨rb, 2, none⟩ = some (.slice (some ⟨b, o, none⟩) n cap) ∧ W.cell? ⟨b, o + k * 3, none⟩ = some (.int .i64 sc) ∧ W.cell? ⟨b, o + k * 3 + 1, none⟩ = some (.int .i64 so) ∧ W.cell? ⟨b, o + k * 3 + 2, none⟩ = some (.string sd)) HMX.out ?_
  change wpAnyH _ _ _ _ _ _ _ _ wr.drew
  refine held_quiet 0 (v := ?v0q1) rfl (by kernel_rfl) (fun _ _ _ h => h) (by assumption) rfl ?hy0q1 ?rest0q1
  case hy0q1 => (intro wS hSw; (try dsimp only at hSw); go_simp; try with_reducible rfl)
  try simp only [Act.put, List.setIfInBounds_toArray, List.set_cons_zero, List.set_cons_succ]
  refine held_quiet 2 (v := ?v2q2) rfl (by kernel_rfl) (fun _ _ _ h => h) (by assumption) rfl ?hy2q2 ?rest2q2
  case hy2q2 => (intro wS hSw; (try dsimp only at hSw); go_simp; try with_reducible rfl)
  try simp only [Act.put, List.setIfInBounds_toArray, List.set_cons_zero, List.set_cons_succ]
  refine held_quiet 3 (v := ?v3q3) rfl (by kernel_rfl) (fun _ _ _ h => h) (by assumption) rfl ?hy3q3 ?rest3q3
  case hy3q3 => (intro wS hSw; (try dsimp only at hSw); go_simp; try with_reducible rfl)
  try simp only [Act.put, List.setIfInBounds_toArray, List.set_cons_zero, List.set_cons_succ]
  refine held_quiet 4 (v := ?v4q4) rfl (by kernel_rfl) (fun _ _ _ h => h) (by assumption) rfl ?hy4q4 ?rest4q4
  case hy4q4 => (intro wS hSw; (try dsimp only at hSw); go_simp; try with_reducible rfl)
  try simp only [Act.put, List.setIfInBounds_toArray, List.set_cons_zero, List.set_cons_succ]
  refine held_quiet 5 (v := ?v5q5) rfl (by kernel_rfl) (fun _ _ _ h => h) (by assumption) rfl ?hy5q5 ?rest5q5
  case hy5q5 => (intro wS hSw; (try dsimp only at hSw); go_simp; try with_reducible rfl)
  try simp only [Act.put, List.setIfInBounds_toArray, List.set_cons_zero, List.set_cons_succ]
  refine held_quiet 6 (v := ?v6q6) rfl (by kernel_rfl) (fun _ _ _ h => h) (by assumption) rfl ?hy6q6 ?rest6q6
  case hy6q6 => (intro wS hSw; (try dsimp only at hSw); go_simp; try with_reducible rfl)
  try simp only [Act.put, List.setIfInBounds_toArray, List.set_cons_zero, List.set_cons_succ]
  refine held_two 1 7 rfl rfl (by kernel_rfl) ?_ ?_
  · go_wp2
    try refine ⟨hS, ?_⟩
    refine held_one 7 rfl (by kernel_rfl) ?_
    go_wp2_with fail
    have hal : Below wr.heap.size wr (wr.alloc (.cells #[.int .i64 sc, .int .i64 so, .string sd] 67)) := (Below.refl _ wr).alloc (Nat.le_refl _) _
    have hS3 : (fun W : World => W.cell? ⟨rb, 2, none⟩ = some (.slice (some ⟨b, o, none⟩) n cap) ∧ W.cell? ⟨b, o + k * 3, none⟩ = some (.int .i64 sc) ∧ W.cell? ⟨b, o + k * 3 + 1, none⟩ = some (.int .i64 so) ∧ W.cell? ⟨b, o + k * 3 + 2, none⟩ = some (.string sd)) (wr.alloc (.cells #[.int .i64 sc, .int .i64 so, .string sd] 67)) :=
      ⟨(hal.cell (p := ⟨rb, 2, none⟩) (World.block_lt_of_cell? wr _ x2)).trans x2, (hal.cell (p := ⟨b, o + k * 3, none⟩) (World.block_lt_of_cell? wr _ c0)).trans c0, (hal.cell (p := ⟨b, o + k * 3 + 1, none⟩) (World.block_lt_of_cell? wr _ c1)).trans c1, (hal.cell (p := ⟨b, o + k * 3 + 2, none⟩) (World.block_lt_of_cell? wr _ c2)).trans c2⟩
    try refine ⟨hS3, ?_⟩
    clear hal hS hS3
    refine held_one 8 rfl (by kernel_rfl) ?_
    refine wpList_append_own _ rfl _ _ 34 rfl W0.heap.size 67 i0 (.agg #[.int .i64 0, .int .i64 0, .string ByteArray.empty]) 3 32 Tryd.underlying34 hi hz0 hz1 hz2 rfl (by decide) v k (prtVals k f) rfl (OWN.out.alloc _) ⟨wr.heap.size, 0, none⟩ 1 1 [.int .i64 sc, .int .i64 so, .string sd] rfl rfl (news3 _ _ _ _ _) (by simp [Value.oneCell']) (by unfold maxLen; omega) (by omega) (by simp; omega) ?_
    intro v' w4 hown' hgrow _
    obtain ⟨g', cap', rfl⟩ := ownsRow_succ hown'
    have b4 := below_append OWN.out hsz (grownBy_undrew hgrow)
    have HB4 : Hid (Below W0.heap.size wr w4) := b4
    have OWN4 : Hid (w4.ownsRow W0.heap.size 67 3 (.slice (some ⟨g', 0, none⟩) (k + 1) cap') (k + 1) (prtVals (k + 1) f)) := by show World.ownsRow _ _ _ _ _ _ _; rw [prtVals, ← HS.out]; exact hown'
    have hbx4 := HBx.out.below b4 HLt.out.2.2.1
    have HBx4 : Hid (BoxAt w4 ob (.int .u64 seq) (.int .i64 row) v) := hbx4
    have hS4 : (fun W : World => W.cell? ⟨rb, 2, none⟩ = some (.slice (some ⟨b, o, none⟩) n cap) ∧ W.cell? ⟨b, o + k * 3, none⟩ = some (.int .i64 sc) ∧ W.cell? ⟨b, o + k * 3 + 1, none⟩ = some (.int .i64 so) ∧ W.cell? ⟨b, o + k * 3 + 2, none⟩ = some (.string sd)) w4 := ⟨(b4.cell (p := ⟨rb, 2, none⟩) (by have := HLt.out; show rb < _; omega)).trans x2, (b4.cell (p := ⟨b, o + k * 3, none⟩) hbl).trans c0, (b4.cell (p := ⟨b, o + k * 3 + 1, none⟩) hbl).trans c1, (b4.cell (p := ⟨b, o + k * 3 + 2, none⟩) hbl).trans c2⟩
    obtain ⟨z0, z1, z2, e0, e1, e2⟩ := hbx4
    clear b4 hown' hgrow x2 c0 c1 c2
    go_wp2
    try refine ⟨hS4, ?_⟩
    refine held_quiet 9 (v := ?v9q7) rfl (by kernel_rfl) (fun _ _ _ h => h) (by assumption) rfl ?hy9q7 ?rest9q7
    case hy9q7 => (intro wS hSw; (try dsimp only at hSw); go_simp; try with_reducible rfl)
    try simp only [Act.put, List.setIfInBounds_toArray, List.set_cons_zero, List.set_cons_succ]
    refine held_one 10 rfl (by kernel_rfl) ?_
    go_wp2_with fail
    have hS5 : (fun W : World => W.cell? ⟨rb, 2, none⟩ = some (.slice (some ⟨b, o, none⟩) n cap) ∧ W.cell? ⟨b, o + k * 3, none⟩ = some (.int .i64 sc) ∧ W.cell? ⟨b, o + k * 3 + 1, none⟩ = some (.int .i64 so) ∧ W.cell? ⟨b, o + k * 3 + 2, none⟩ = some (.string sd)) (w4.setCell ⟨ob, 2, none⟩ (.slice (some ⟨g', 0, none⟩) (k + 1) cap')) := ⟨(World.cell?_setCell_other _ _ _ _ (fun e => by injection e with e2; have := HLt.out; omega)).trans hS4.1, (World.cell?_setCell_other _ _ _ _ (fun e => by injection e with e2; exact hbo e2.symm)).trans hS4.2.1, (World.cell?_setCell_other _ _ _ _ (fun e => by injection e with e2; exact hbo e2.symm)).trans hS4.2.2.1, (World.cell?_setCell_other _ _ _ _ (fun e => by injection e with e2; exact hbo e2.symm)).trans hS4.2.2.2⟩
    try refine ⟨hS5, ?_⟩
    refine held_done (by kernel_rfl) ?_
    go_wp2
    go_roundg (n - (k + 1))
    case measure => omega
    case rel => exact ⟨k + 1, _, by omega, rfl, by go_num, HBx4.out.store _, own_set OWN4.out HLt.out.2.2.1 _, (only_low13 HOn.out HB4.out).then (Only.setCell _ _ _ _ rfl)⟩
  · go_wp2_with fail
    have hal : Below wr.heap.size wr (wr.alloc (.cells #[.int .i64 sc, .int .i64 so, .string sd] 67)) := (Below.refl _ wr).alloc (Nat.le_refl _) _
    have hS3 : (fun W : World => W.cell? ⟨rb, 2, none⟩ = some (.slice (some ⟨b, o, none⟩) n cap) ∧ W.cell? ⟨b, o + k * 3, none⟩ = some (.int .i64 sc) ∧ W.cell? ⟨b, o + k * 3 + 1, none⟩ = some (.int .i64 so) ∧ W.cell? ⟨b, o + k * 3 + 2, none⟩ = some (.string sd)) (wr.alloc (.cells #[.int .i64 sc, .int .i64 so, .string sd] 67)) :=
      ⟨(hal.cell (p := ⟨rb, 2, none⟩) (World.block_lt_of_cell? wr _ x2)).trans x2, (hal.cell (p := ⟨b, o + k * 3, none⟩) (World.block_lt_of_cell? wr _ c0)).trans c0, (hal.cell (p := ⟨b, o + k * 3 + 1, none⟩) (World.block_lt_of_cell? wr _ c1)).trans c1, (hal.cell (p := ⟨b, o + k * 3 + 2, none⟩) (World.block_lt_of_cell? wr _ c2)).trans c2⟩
    try refine ⟨hS3, ?_⟩
    refine held_one 1 rfl (by kernel_rfl) ?_
    have z2' := (hal.cell (p := ⟨ob, 2, none⟩) (World.block_lt_of_cell? wr _ z2)).trans z2
    clear hal hS
    go_wp2
    try refine ⟨hS3, ?_⟩
    clear hS3 z2'
    refine held_one 8 rfl (by kernel_rfl) ?_
    refine wpList_append_own _ rfl _ _ 34 rfl W0.heap.size 67 i0 (.agg #[.int .i64 0, .int .i64 0, .string ByteArray.empty]) 3 32 Tryd.underlying34 hi hz0 hz1 hz2 rfl (by decide) v k (prtVals k f) rfl (OWN.out.alloc _) ⟨wr.heap.size, 0, none⟩ 1 1 [.int .i64 sc, .int .i64 so, .string sd] rfl rfl (news3 _ _ _ _ _) (by simp [Value.oneCell']) (by unfold maxLen; omega) (by omega) (by simp; omega) ?_
    intro v' w4 hown' hgrow _
    obtain ⟨g', cap', rfl⟩ := ownsRow_succ hown'
    have b4 := below_append OWN.out hsz (grownBy_undrew hgrow)
    have HB4 : Hid (Below W0.heap.size wr w4) := b4
    have OWN4 : Hid (w4.ownsRow W0.heap.size 67 3 (.slice (some ⟨g', 0, none⟩) (k + 1) cap') (k + 1) (prtVals (k + 1) f)) := by show World.ownsRow _ _ _ _ _ _ _; rw [prtVals, ← HS.out]; exact hown'
    have hbx4 := HBx.out.below b4 HLt.out.2.2.1
    have HBx4 : Hid (BoxAt w4 ob (.int .u64 seq) (.int .i64 row) v) := hbx4
    have hS4 : (fun W : World => W.cell? ⟨rb, 2, none⟩ = some (.slice (some ⟨b, o, none⟩) n cap) ∧ W.cell? ⟨b, o + k * 3, none⟩ = some (.int .i64 sc) ∧ W.cell? ⟨b, o + k * 3 + 1, none⟩ = some (.int .i64 so) ∧ W.cell? ⟨b, o + k * 3 + 2, none⟩ = some (.string sd)) w4 := ⟨(b4.cell (p := ⟨rb, 2, none⟩) (by have := HLt.out; show rb < _; omega)).trans x2, (b4.cell (p := ⟨b, o + k * 3, none⟩) hbl).trans c0, (b4.cell (p := ⟨b, o + k * 3 + 1, none⟩) hbl).trans c1, (b4.cell (p := ⟨b, o + k * 3 + 2, none⟩) hbl).trans c2⟩
    obtain ⟨z0, z1, z2, e0, e1, e2⟩ := hbx4
    clear b4 hown' hgrow x2 c0 c1 c2
    go_wp2
    try refine ⟨hS4, ?_⟩
    refine held_quiet 9 (v := ?v9q8) rfl (by kernel_rfl) (fun _ _ _ h => h) (by assumption) rfl ?hy9q8 ?rest9q8
    case hy9q8 => (intro wS hSw; (try dsimp only at hSw); go_simp; try with_reducible rfl)
    try simp only [Act.put, List.setIfInBounds_toArray, List.set_cons_zero, List.set_cons_succ]
    refine held_one 10 rfl (by kernel_rfl) ?_
    go_wp2_with fail
    have hS5 : (fun W : World => W.cell? ⟨rb, 2, none⟩ = some (.slice (some ⟨b, o, none⟩) n cap) ∧ W.cell? ⟨b, o + k * 3, none⟩ = some (.int .i64 sc) ∧ W.cell? ⟨b, o + k * 3 + 1, none⟩ = some (.int .i64 so) ∧ W.cell? ⟨b, o + k * 3 + 2, none⟩ = some (.string sd)) (w4.setCell ⟨ob, 2, none⟩ (.slice (some ⟨g', 0, none⟩) (k + 1) cap')) := ⟨(World.cell?_setCell_other _ _ _ _ (fun e => by injection e with e2; have := HLt.out; omega)).trans hS4.1, (World.cell?_setCell_other _ _ _ _ (fun e => by injection e with e2; exact hbo e2.symm)).trans hS4.2.1, (World.cell?_setCell_other _ _ _ _ (fun e => by injection e with e2; exact hbo e2.symm)).trans hS4.2.2.1, (World.cell?_setCell_other _ _ _ _ (fun e => by injection e with e2; exact hbo e2.symm)).trans hS4.2.2.2⟩
    try refine ⟨hS5, ?_⟩
    refine held_done (by kernel_rfl) ?_
    go_wp2
    go_roundg (n - (k + 1))
    case measure => omega
    case rel => exact ⟨k + 1, _, by omega, rfl, by go_num, HBx4.out.store _, own_set OWN4.out HLt.out.2.2.1 _, (only_low13 HOn.out HB4.out).then (Only.setCell _ _ _ _ rfl)⟩
end Go.Proofs.YtmikllmpinciiaaDoor
