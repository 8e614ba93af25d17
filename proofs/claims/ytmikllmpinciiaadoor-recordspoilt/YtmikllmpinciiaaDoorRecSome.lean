/- The walk of the statements' own some: a record that may be, of some texts. -/
import Derived.Test.YtmikllmpinciiaaDoorRecTheirs
namespace Go.Proofs.YtmikllmpinciiaaDoor
open Go.RowKit

namespace Rc
/-- the place of the part j -/
def placeN (fr j : Nat) : Nat := (fr + j * 7) % 40
def someP (fr : Nat) (l : Nat → ByteArray) (j : Nat) : Prt := ⟨(placeN fr j / 4 : Nat), (placeN fr j % 4 : Nat), fillB (l j)⟩
def someN (n : Nat) : Nat := min n 40
end Rc
theorem info_part12c : (Tryd.prog.info? 58).map (fun i => (i.zero, i.size, i.bytes)) = some (some (.agg #[.int .i64 0, .int .i64 0, .string ByteArray.empty]), 3, 32) := by kernel_rfl
/-- two records made one behind the other -/
theorem boxes2 (w : World) (x0 x1 x2 y0 y1 y2 : Value) (s t : TypeId) :
    let W := (w.alloc (.cells #[x0, x1, x2] s)).alloc (.cells #[y0, y1, y2] t)
    BoxAt W w.heap.size x0 x1 x2 ∧ BoxAt W (w.heap.size + 1) y0 y1 y2 ∧ Below w.heap.size w W := by
  intro W
  have b1 : Below (w.heap.size + 1) (w.alloc (.cells #[x0, x1, x2] s)) W := by
    have := (Below.refl (w.alloc (.cells #[x0, x1, x2] s)).heap.size (w.alloc (.cells #[x0, x1, x2] s))).alloc (Nat.le_refl _) (.cells #[y0, y1, y2] t)
    simpa using this
  refine ⟨(BoxAt.new w s x0 x1 x2).below b1 (by omega), ?_, ((Below.refl _ w).alloc (Nat.le_refl _) _).trans (b1.mono (by omega))⟩
  have := BoxAt.new (w.alloc (.cells #[x0, x1, x2] s)) t y0 y1 y2
  simp only [World.size_alloc] at this
  exact this

set_option maxRecDepth 100000 in
set_option maxHeartbeats 8000000 in
theorem some12_any (seq row fr : Nat) (a : Option Addr) (n cap : Nat) (l : Nat → ByteArray) (w : World) (_h0 : seq < 18446744073709551616) (h1 : row < 256) (h2 : fr < 256) (hr : RowS w a n l) (hl : ∀ j, j < n → (l j).size ≤ 100) :
    Calls Tryd.prog 21 #[.int .u64 (seq : Int), .int .u8 (row : Int), .int .u8 (fr : Int), .slice a n cap] w fun e w' => ∃ a' cap', e = .returned (.agg #[.int .u64 (seq : Int), .int .i64 (row : Int), .slice a' (Rc.someN n) cap']) ∧ PartsR w' a' (Rc.someN n) (Rc.someP fr l) ∧ Rc.someN n ≤ cap' ∧ (∀ x, a' = some x → w.heap.size ≤ x.block) ∧ Below w.heap.size w w' := by
  have hmx : Tryd.prog.follows .mixedOrders = true := by kernel_rfl
  have HMX : Hid (Tryd.prog.follows .mixedOrders = true) := hmx
  have hpi := info_part12c
  obtain ⟨i0, hi, hz0, hz1, hz2⟩ := info_parts hpi
  have hbx := boxes2 w (.int .u64 0) (.int .i64 0) (.slice none 0 0) (.int .u64 (seq : Int)) (.int .i64 (row : Int)) (.slice none 0 0) 25 25
  have HBX : Hid _ := hbx
  have HR : Hid (RowS w a n l) := hr
  have HL : Hid (∀ j, j < n → (l j).size ≤ 100) := hl
  have hc1 : IntKind.i64.wrap (row : Int) = (row : Int) := by rw [IntKind.wrap_i64]; omega
  have hc2 : IntKind.i64.wrap (fr : Int) = (fr : Int) := by rw [IntKind.wrap_i64]; omega
  clear hr hl hmx hpi hbx
  go_enter Tryd.func21, Tryd.ntmps21
  go_upto_region 2 with fail
  obtain ⟨h1', h2', h3'⟩ := HBX.out
  obtain ⟨W0, hW0⟩ : ∃ W0, W0 = (w.alloc (.cells #[.int .u64 0, .int .i64 0, .slice none 0 0] 25)).alloc (.cells #[.int .u64 (seq : Int), .int .i64 (row : Int), .slice none 0 0] 25) := ⟨_, rfl⟩
  rw [← hW0] at h1' h2' h3' ⊢
  obtain ⟨ob, hob⟩ : ∃ ob, ob = w.heap.size + 1 := ⟨_, rfl⟩
  obtain ⟨qb, hqb⟩ : ∃ qb, qb = w.heap.size := ⟨_, rfl⟩
  have HLt : Hid (qb < ob ∧ ob < W0.heap.size ∧ qb = w.heap.size) := ⟨by omega, by have := h2'.lt; omega, hqb⟩
  rw [← hob] at h2' ⊢
  rw [← hqb] at h1' ⊢
  have HX0 : Hid (BoxAt W0 qb (.int .u64 0) (.int .i64 0) (.slice none 0 0) ∧ BoxAt W0 ob (.int .u64 (seq : Int)) (.int .i64 (row : Int)) (.slice none 0 0)) := ⟨h1', h2'⟩
  have HB0 : Hid (Below w.heap.size w W0) := h3'
  clear h1' h2' h3' hW0 hob hqb HBX
  go_wp2
  go_loopg [10, 11] n (fun gg i q wr => ∃ (k : Nat) (v : Value), k ≤ n ∧ k ≤ 40 ∧ gg = n - k ∧ i = .int .i64 (k : Int) ∧ BoxAt wr ob (.int .u64 (seq : Int)) (.int .i64 (row : Int)) v ∧ wr.ownsRow W0.heap.size 58 3 v k (prtVals k (Rc.someP fr l)) ∧ Only (fun x => x = ob) W0 wr)
  case atStart => exact ⟨0, _, Nat.zero_le _, Nat.zero_le _, rfl, rfl, HX0.out.2, World.ownsRow_nil _ _ _ _, Only.refl _ _⟩
  case round =>
  obtain ⟨k, v, hk, hk40, rfl, rfl, hbx, hown, ho⟩ := hrel
  have HBx : Hid (BoxAt wr ob (.int .u64 (seq : Int)) (.int .i64 (row : Int)) v) := hbx
  have OWN : Hid (wr.ownsRow W0.heap.size 58 3 v k (prtVals k (Rc.someP fr l))) := hown
  have HOn : Hid (Only (fun x => x = ob) W0 wr) := ho
  have hsm : ∀ x, x < W0.heap.size → x ≠ ob → wr.heap[x]? = W0.heap[x]? := fun x h1 h2 => ho.block x h1 h2
  have HSm : Hid (∀ x, x < W0.heap.size → x ≠ ob → wr.heap[x]? = W0.heap[x]?) := hsm
  have hsz := ho.size
  obtain ⟨z0, z1, z2, e0, e1, e2⟩ := hbx
  clear hown ho hsm
  by_cases hlt : k < n ∧ k < 40
  case neg =>
    have hkn : k = Rc.someN n := by unfold Rc.someN; omega
    obtain ⟨va, vc, rfl, hpr, hvc, hvb⟩ := PartsR.of_owns OWN.out
    have HPR : Hid (PartsR wr va k (Rc.someP fr l)) := hpr
    have HVb : Hid (∀ x, va = some x → W0.heap.size ≤ x.block) := hvb
    have HVc : Hid (k ≤ vc) := hvc
    have HKN : Hid (k = Rc.someN n) := hkn
    have hq : BoxAt wr qb (.int .u64 0) (.int .i64 0) (.slice none 0 0) := by
      have e := HSm.out qb (by have := HLt.out; omega) (by have := HLt.out; omega)
      obtain ⟨a0, a1, a2, a3, a4, a5⟩ := HX0.out.1
      exact ⟨(cell_same13 e 0).1.trans a0, (cell_same13 e 1).1.trans a1, (cell_same13 e 2).1.trans a2, (cell_same13 e 0).2.trans a3, (cell_same13 e 1).2.trans a4, (cell_same13 e 2).2.trans a5⟩
    have HBw : Hid (Below w.heap.size w wr) := HB0.out.trans (HOn.out.below (fun x hx => by rw [hx]; have := HLt.out; omega) HB0.out.size)
    obtain ⟨y0, y1, y2, g0, g1, g2⟩ := hq
    have fin : ∀ W, W = (((wr.setCell ⟨qb, 0, none⟩ (.int .u64 (seq : Int))).setCell ⟨qb, 1, none⟩ (.int .i64 (row : Int))).setCell ⟨qb, 2, none⟩ (.slice va k vc)) → ∃ a' cap', (Ending.returned (.agg #[.int .u64 (seq : Int), .int .i64 (row : Int), .slice va k vc]) : Ending) = .returned (.agg #[.int .u64 (seq : Int), .int .i64 (row : Int), .slice a' (Rc.someN n) cap']) ∧ PartsR W a' (Rc.someN n) (Rc.someP fr l) ∧ Rc.someN n ≤ cap' ∧ (∀ x, a' = some x → w.heap.size ≤ x.block) ∧ Below w.heap.size w W := by
      rintro _ rfl
      rw [← HKN.out]
      refine ⟨va, vc, rfl, ?_, HVc.out, fun x hx => by have := HVb.out x hx; have := HLt.out; omega, ?_⟩
      · exact HPR.out.only (only3 _ _ _ _ _) (fun x hx e => by have := HVb.out x hx; have := HLt.out; omega)
      · exact stored3 HBw.out (by have := HLt.out; omega) HBw.out.size _ _ _
    have HF : Hid _ := fin
    by_cases hkn2 : k < n
    · have h40 : k = 40 := by omega
      have hki : (k : Int) < (n : Int) := by omega
      have hk4 : ¬ (k : Int) < 40 := by omega
      clear hlt hpr hvc hvb hkn fin hkn2 h40
      go_wp2
      refine bodyPost_ret (ret_cell rfl _ _ ⟨qb, 0, none⟩ (.agg #[.int .u64 (seq : Int), .int .i64 (row : Int), .slice va k vc]) rfl (by go_simp)) rfl ?_
      exact HF.out _ rfl
    · have hki : ¬ (k : Int) < (n : Int) := by omega
      clear hlt hpr hvc hvb hkn fin hkn2
      go_wp2
      refine bodyPost_ret (ret_cell rfl _ _ ⟨qb, 0, none⟩ (.agg #[.int .u64 (seq : Int), .int .i64 (row : Int), .slice va k vc]) rfl (by go_simp)) rfl ?_
      exact HF.out _ rfl
  case pos =>
  have hki : (k : Int) < (n : Int) := by omega
  have hk4 : (k : Int) < 40 := by omega
  obtain ⟨b, o, rfl, hcw⟩ := HR.out k hlt.1
  have hbw := World.block_lt_of_cell? w _ hcw
  have hbo : b ≠ ob := by have := HLt.out; have := HB0.out.size; show b ≠ ob; dsimp only at hbw; omega
  have hc0 := (HB0.out.cell (p := ⟨b, o + k, none⟩) hbw).trans hcw
  have hbl : b < W0.heap.size := by have := HB0.out.size; dsimp only at hbw; omega
  have c0 := (cell_same13 (HSm.out b hbl hbo) (o + k)).1.trans hc0
  have hfull := fun W => full12_any (l k) (HL.out k hlt.1) W
  obtain ⟨s, hs⟩ : ∃ s, s = l k := ⟨_, rfl⟩
  obtain ⟨y, hy⟩ : ∃ y, y = Rc.fillB (l k) := ⟨_, rfl⟩
  rw [← hs] at c0
  rw [← hy, ← hs] at hfull
  obtain ⟨q, hq⟩ : ∃ q, q = Rc.placeN fr k := ⟨_, rfl⟩
  have hq40 : q < 40 := by rw [hq]; unfold Rc.placeN; omega
  have hqe : ((fr : Int) + (k : Int) * 7).tmod 40 = (q : Int) := by
    rw [hq]; unfold Rc.placeN
    rw [show (fr : Int) + (k : Int) * 7 = ((fr + k * 7 : Nat) : Int) by omega]
    exact (Int.ofNat_tmod _ _).symm
  have hq4 : (q : Int).tdiv 4 = ((q / 4 : Nat) : Int) := (Int.ofNat_tdiv q 4).symm
  have hr4 : (q : Int).tmod 4 = ((q % 4 : Nat) : Int) := (Int.ofNat_tmod q 4).symm
  obtain ⟨d4, hd4⟩ : ∃ d4, d4 = q / 4 := ⟨_, rfl⟩
  obtain ⟨m4, hm4⟩ : ∃ m4, m4 = q % 4 := ⟨_, rfl⟩
  rw [← hd4] at hq4
  rw [← hm4] at hr4
  have HS : Hid (Rc.someP fr l k = ⟨(d4 : Nat), (m4 : Nat), y⟩) := by show _ = _; unfold Rc.someP; rw [hd4, hm4, hq, hy]
  have hd10 : d4 < 10 := by omega
  have hm10 : m4 < 4 := by omega
  have hwd : IntKind.i64.wrap (d4 : Int) = (d4 : Int) := by rw [IntKind.wrap_i64]; omega
  have HLT : Hid (k < n ∧ k < 40) := hlt
  clear hcw hc0 hs hy hq hlt hd4 hm4
  go_upto_region 6 with fail
  have hS : (fun W : World => W.cell? ⟨b, o + k, none⟩ = some (.string s)) wr.drew := c0
  refine wp_region_held (S := fun W => W.cell? ⟨b, o + k, none⟩ = some (.string s)) HMX.out ?_
  change wpAnyH _ _ _ _ _ _ _ _ wr.drew
  refine held_quiet 0 (v := ?v0q1) rfl (by kernel_rfl) (fun _ _ _ h => h) (by assumption) rfl ?hy0q1 ?rest0q1
  case hy0q1 => (intro wS hSw; (try dsimp only at hSw); go_simp; try with_reducible rfl)
  try simp only [Act.put, List.setIfInBounds_toArray, List.set_cons_zero, List.set_cons_succ]
  refine held_quiet 2 (v := ?v2q2) rfl (by kernel_rfl) (fun _ _ _ h => h) (by assumption) rfl ?hy2q2 ?rest2q2
  case hy2q2 => (intro wS hSw; (try dsimp only at hSw); go_simp; try with_reducible rfl)
  try simp only [Act.put, List.setIfInBounds_toArray, List.set_cons_zero, List.set_cons_succ]
  refine held_quiet 3 (v := ?v3q3) rfl (by kernel_rfl) (fun _ _ _ h => h) (by assumption) rfl ?hy3q3 ?rest3q3
  case hy3q3 => (intro wS hSw; (try dsimp only at hSw); go_simp; try with_reducible rfl)
  try simp only [Act.put, List.setIfInBounds_toArray, List.set_cons_zero, List.set_cons_succ]
  refine held_quiet 4 (v := ?v4q4) rfl (by kernel_rfl) (fun _ _ _ h => h) (by assumption) rfl ?hy4q4 ?rest4q4
  case hy4q4 => (intro wS hSw; (try dsimp only at hSw); go_simp; try with_reducible rfl)
  try simp only [Act.put, List.setIfInBounds_toArray, List.set_cons_zero, List.set_cons_succ]
  refine held_quiet 5 (v := ?v5q5) rfl (by kernel_rfl) (fun _ _ _ h => h) (by assumption) rfl ?hy5q5 ?rest5q5
  case hy5q5 => (intro wS hSw; (try dsimp only at hSw); go_simp; try with_reducible rfl)
  try simp only [Act.put, List.setIfInBounds_toArray, List.set_cons_zero, List.set_cons_succ]
  refine held_quiet 6 (v := ?v6q6) rfl (by kernel_rfl) (fun _ _ _ h => h) (by assumption) rfl ?hy6q6 ?rest6q6
  case hy6q6 => (intro wS hSw; (try dsimp only at hSw); go_simp; try with_reducible rfl)
  try simp only [Act.put, List.setIfInBounds_toArray, List.set_cons_zero, List.set_cons_succ]
  refine held_quiet 7 (v := ?v7q7) rfl (by kernel_rfl) (fun _ _ _ h => h) (by assumption) rfl ?hy7q7 ?rest7q7
  case hy7q7 => (intro wS hSw; (try dsimp only at hSw); go_simp; try with_reducible rfl)
  try simp only [Act.put, List.setIfInBounds_toArray, List.set_cons_zero, List.set_cons_succ]
  refine held_quiet 8 (v := ?v8q8) rfl (by kernel_rfl) (fun _ _ _ h => h) (by assumption) rfl ?hy8q8 ?rest8q8
  case hy8q8 => (intro wS hSw; (try dsimp only at hSw); go_simp; try with_reducible rfl)
  try simp only [Act.put, List.setIfInBounds_toArray, List.set_cons_zero, List.set_cons_succ]
  refine held_quiet 9 (v := ?v9q9) rfl (by kernel_rfl) (fun _ _ _ h => h) (by assumption) rfl ?hy9q9 ?rest9q9
  case hy9q9 => (intro wS hSw; (try dsimp only at hSw); go_simp; try with_reducible rfl)
  try simp only [Act.put, List.setIfInBounds_toArray, List.set_cons_zero, List.set_cons_succ]
  refine held_two 1 10 rfl rfl (by kernel_rfl) ?_ ?_
  · go_wp2
    try refine ⟨hS, ?_⟩
    refine held_one 10 rfl (by kernel_rfl) ?_
    go_wp2_with (go_at_call 22; refine (hfull _).mono ?_; rintro e _ ⟨rfl, rfl⟩)
    try refine ⟨hS, ?_⟩
    refine held_quiet 11 (v := ?v11q10) rfl (by kernel_rfl) (fun _ _ _ h => h) (by assumption) rfl ?hy11q10 ?rest11q10
    case hy11q10 => (intro wS hSw; (try dsimp only at hSw); go_simp; try with_reducible rfl)
    try simp only [Act.put, List.setIfInBounds_toArray, List.set_cons_zero, List.set_cons_succ]
    refine held_one 12 rfl (by kernel_rfl) ?_
    go_wp2_with fail
    have hal : Below wr.heap.size wr (wr.alloc (.cells #[.int .i64 (d4 : Int), .int .i64 (m4 : Int), .string y] 58)) := (Below.refl _ wr).alloc (Nat.le_refl _) _
    have hS3 : (fun W : World => W.cell? ⟨b, o + k, none⟩ = some (.string s)) (wr.alloc (.cells #[.int .i64 (d4 : Int), .int .i64 (m4 : Int), .string y] 58)) := (hal.cell (p := ⟨b, o + k, none⟩) (World.block_lt_of_cell? wr _ c0)).trans c0
    refine ⟨hS3, ?_⟩
    clear hal hS hS3
    refine held_one 13 rfl (by kernel_rfl) ?_
    refine wpList_append_own _ rfl _ _ 23 rfl W0.heap.size 58 i0 (.agg #[.int .i64 0, .int .i64 0, .string ByteArray.empty]) 3 32 Tryd.underlying23 hi hz0 hz1 hz2 rfl (by decide) v k (prtVals k (Rc.someP fr l)) rfl (OWN.out.alloc _) ⟨wr.heap.size, 0, none⟩ 1 1 [.int .i64 (d4 : Int), .int .i64 (m4 : Int), .string y] rfl rfl (news3 _ _ _ _ _) (by simp [Value.oneCell']) (by unfold maxLen; omega) (by omega) (by simp; omega) ?_
    intro v' w4 hown' hgrow _
    obtain ⟨g', cap', rfl⟩ := ownsRow_succ hown'
    have b4 := below_append OWN.out hsz (grownBy_undrew hgrow)
    have HB4 : Hid (Below W0.heap.size wr w4) := b4
    have OWN4 : Hid (w4.ownsRow W0.heap.size 58 3 (.slice (some ⟨g', 0, none⟩) (k + 1) cap') (k + 1) (prtVals (k + 1) (Rc.someP fr l))) := by show World.ownsRow _ _ _ _ _ _ _; rw [prtVals, HS.out]; exact hown'
    have hbx4 := HBx.out.below b4 HLt.out.2.1
    have HBx4 : Hid (BoxAt w4 ob (.int .u64 (seq : Int)) (.int .i64 (row : Int)) v) := hbx4
    have hS4 : (fun W : World => W.cell? ⟨b, o + k, none⟩ = some (.string s)) w4 := (b4.cell (p := ⟨b, o + k, none⟩) hbl).trans c0
    obtain ⟨z0, z1, z2, e0, e1, e2⟩ := hbx4
    clear b4 hown' hgrow c0
    go_wp2
    try refine ⟨hS4, ?_⟩
    refine held_quiet 14 (v := ?v14q11) rfl (by kernel_rfl) (fun _ _ _ h => h) (by assumption) rfl ?hy14q11 ?rest14q11
    case hy14q11 => (intro wS hSw; (try dsimp only at hSw); go_simp; try with_reducible rfl)
    try simp only [Act.put, List.setIfInBounds_toArray, List.set_cons_zero, List.set_cons_succ]
    refine held_one 15 rfl (by kernel_rfl) ?_
    go_wp2_with fail
    have hS5 : (fun W : World => W.cell? ⟨b, o + k, none⟩ = some (.string s)) (w4.setCell ⟨ob, 2, none⟩ (.slice (some ⟨g', 0, none⟩) (k + 1) cap')) := (World.cell?_setCell_other _ _ _ _ (fun e => by injection e with e2; exact hbo e2.symm)).trans hS4
    try refine ⟨hS5, ?_⟩
    refine held_done (by kernel_rfl) ?_
    go_wp2
    go_roundg (n - (k + 1))
    case measure => have := HLT.out; omega
    case rel => exact ⟨k + 1, _, by have := HLT.out; omega, by have := HLT.out; omega, rfl, by go_num, HBx4.out.store _, own_set OWN4.out HLt.out.2.1 _, (only_low13 HOn.out HB4.out).then (Only.setCell _ _ _ _ rfl)⟩
  · go_wp2_with (go_at_call 22; refine (hfull _).mono ?_; rintro e _ ⟨rfl, rfl⟩)
    try refine ⟨hS, ?_⟩
    refine held_quiet 11 (v := ?v11q12) rfl (by kernel_rfl) (fun _ _ _ h => h) (by assumption) rfl ?hy11q12 ?rest11q12
    case hy11q12 => (intro wS hSw; (try dsimp only at hSw); go_simp; try with_reducible rfl)
    try simp only [Act.put, List.setIfInBounds_toArray, List.set_cons_zero, List.set_cons_succ]
    refine held_two 1 12 rfl rfl (by kernel_rfl) ?_ ?_
    · go_wp2
      try refine ⟨hS, ?_⟩
      refine held_one 12 rfl (by kernel_rfl) ?_
      go_wp2_with fail
      have hal : Below wr.heap.size wr (wr.alloc (.cells #[.int .i64 (d4 : Int), .int .i64 (m4 : Int), .string y] 58)) := (Below.refl _ wr).alloc (Nat.le_refl _) _
      have hS3 : (fun W : World => W.cell? ⟨b, o + k, none⟩ = some (.string s)) (wr.alloc (.cells #[.int .i64 (d4 : Int), .int .i64 (m4 : Int), .string y] 58)) := (hal.cell (p := ⟨b, o + k, none⟩) (World.block_lt_of_cell? wr _ c0)).trans c0
      refine ⟨hS3, ?_⟩
      clear hal hS hS3
      refine held_one 13 rfl (by kernel_rfl) ?_
      refine wpList_append_own _ rfl _ _ 23 rfl W0.heap.size 58 i0 (.agg #[.int .i64 0, .int .i64 0, .string ByteArray.empty]) 3 32 Tryd.underlying23 hi hz0 hz1 hz2 rfl (by decide) v k (prtVals k (Rc.someP fr l)) rfl (OWN.out.alloc _) ⟨wr.heap.size, 0, none⟩ 1 1 [.int .i64 (d4 : Int), .int .i64 (m4 : Int), .string y] rfl rfl (news3 _ _ _ _ _) (by simp [Value.oneCell']) (by unfold maxLen; omega) (by omega) (by simp; omega) ?_
      intro v' w4 hown' hgrow _
      obtain ⟨g', cap', rfl⟩ := ownsRow_succ hown'
      have b4 := below_append OWN.out hsz (grownBy_undrew hgrow)
      have HB4 : Hid (Below W0.heap.size wr w4) := b4
      have OWN4 : Hid (w4.ownsRow W0.heap.size 58 3 (.slice (some ⟨g', 0, none⟩) (k + 1) cap') (k + 1) (prtVals (k + 1) (Rc.someP fr l))) := by show World.ownsRow _ _ _ _ _ _ _; rw [prtVals, HS.out]; exact hown'
      have hbx4 := HBx.out.below b4 HLt.out.2.1
      have HBx4 : Hid (BoxAt w4 ob (.int .u64 (seq : Int)) (.int .i64 (row : Int)) v) := hbx4
      have hS4 : (fun W : World => W.cell? ⟨b, o + k, none⟩ = some (.string s)) w4 := (b4.cell (p := ⟨b, o + k, none⟩) hbl).trans c0
      obtain ⟨z0, z1, z2, e0, e1, e2⟩ := hbx4
      clear b4 hown' hgrow c0
      go_wp2
      try refine ⟨hS4, ?_⟩
      refine held_quiet 14 (v := ?v14q13) rfl (by kernel_rfl) (fun _ _ _ h => h) (by assumption) rfl ?hy14q13 ?rest14q13
      case hy14q13 => (intro wS hSw; (try dsimp only at hSw); go_simp; try with_reducible rfl)
      try simp only [Act.put, List.setIfInBounds_toArray, List.set_cons_zero, List.set_cons_succ]
      refine held_one 15 rfl (by kernel_rfl) ?_
      go_wp2_with fail
      have hS5 : (fun W : World => W.cell? ⟨b, o + k, none⟩ = some (.string s)) (w4.setCell ⟨ob, 2, none⟩ (.slice (some ⟨g', 0, none⟩) (k + 1) cap')) := (World.cell?_setCell_other _ _ _ _ (fun e => by injection e with e2; exact hbo e2.symm)).trans hS4
      try refine ⟨hS5, ?_⟩
      refine held_done (by kernel_rfl) ?_
      go_wp2
      go_roundg (n - (k + 1))
      case measure => have := HLT.out; omega
      case rel => exact ⟨k + 1, _, by have := HLT.out; omega, by have := HLT.out; omega, rfl, by go_num, HBx4.out.store _, own_set OWN4.out HLt.out.2.1 _, (only_low13 HOn.out HB4.out).then (Only.setCell _ _ _ _ rfl)⟩
    · go_wp2_with fail
      have hal : Below wr.heap.size wr (wr.alloc (.cells #[.int .i64 (d4 : Int), .int .i64 (m4 : Int), .string y] 58)) := (Below.refl _ wr).alloc (Nat.le_refl _) _
      have hS3 : (fun W : World => W.cell? ⟨b, o + k, none⟩ = some (.string s)) (wr.alloc (.cells #[.int .i64 (d4 : Int), .int .i64 (m4 : Int), .string y] 58)) := (hal.cell (p := ⟨b, o + k, none⟩) (World.block_lt_of_cell? wr _ c0)).trans c0
      refine ⟨hS3, ?_⟩
      refine held_one 1 rfl (by kernel_rfl) ?_
      have z2' := (hal.cell (p := ⟨ob, 2, none⟩) (World.block_lt_of_cell? wr _ z2)).trans z2
      clear hal hS
      go_wp2
      try refine ⟨hS3, ?_⟩
      clear hS3 z2'
      refine held_one 13 rfl (by kernel_rfl) ?_
      refine wpList_append_own _ rfl _ _ 23 rfl W0.heap.size 58 i0 (.agg #[.int .i64 0, .int .i64 0, .string ByteArray.empty]) 3 32 Tryd.underlying23 hi hz0 hz1 hz2 rfl (by decide) v k (prtVals k (Rc.someP fr l)) rfl (OWN.out.alloc _) ⟨wr.heap.size, 0, none⟩ 1 1 [.int .i64 (d4 : Int), .int .i64 (m4 : Int), .string y] rfl rfl (news3 _ _ _ _ _) (by simp [Value.oneCell']) (by unfold maxLen; omega) (by omega) (by simp; omega) ?_
      intro v' w4 hown' hgrow _
      obtain ⟨g', cap', rfl⟩ := ownsRow_succ hown'
      have b4 := below_append OWN.out hsz (grownBy_undrew hgrow)
      have HB4 : Hid (Below W0.heap.size wr w4) := b4
      have OWN4 : Hid (w4.ownsRow W0.heap.size 58 3 (.slice (some ⟨g', 0, none⟩) (k + 1) cap') (k + 1) (prtVals (k + 1) (Rc.someP fr l))) := by show World.ownsRow _ _ _ _ _ _ _; rw [prtVals, HS.out]; exact hown'
      have hbx4 := HBx.out.below b4 HLt.out.2.1
      have HBx4 : Hid (BoxAt w4 ob (.int .u64 (seq : Int)) (.int .i64 (row : Int)) v) := hbx4
      have hS4 : (fun W : World => W.cell? ⟨b, o + k, none⟩ = some (.string s)) w4 := (b4.cell (p := ⟨b, o + k, none⟩) hbl).trans c0
      obtain ⟨z0, z1, z2, e0, e1, e2⟩ := hbx4
      clear b4 hown' hgrow c0
      go_wp2
      try refine ⟨hS4, ?_⟩
      refine held_quiet 14 (v := ?v14q14) rfl (by kernel_rfl) (fun _ _ _ h => h) (by assumption) rfl ?hy14q14 ?rest14q14
      case hy14q14 => (intro wS hSw; (try dsimp only at hSw); go_simp; try with_reducible rfl)
      try simp only [Act.put, List.setIfInBounds_toArray, List.set_cons_zero, List.set_cons_succ]
      refine held_one 15 rfl (by kernel_rfl) ?_
      go_wp2_with fail
      have hS5 : (fun W : World => W.cell? ⟨b, o + k, none⟩ = some (.string s)) (w4.setCell ⟨ob, 2, none⟩ (.slice (some ⟨g', 0, none⟩) (k + 1) cap')) := (World.cell?_setCell_other _ _ _ _ (fun e => by injection e with e2; exact hbo e2.symm)).trans hS4
      try refine ⟨hS5, ?_⟩
      refine held_done (by kernel_rfl) ?_
      go_wp2
      go_roundg (n - (k + 1))
      case measure => have := HLT.out; omega
      case rel => exact ⟨k + 1, _, by have := HLT.out; omega, by have := HLT.out; omega, rfl, by go_num, HBx4.out.store _, own_set OWN4.out HLt.out.2.1 _, (only_low13 HOn.out HB4.out).then (Only.setCell _ _ _ _ rfl)⟩
end Go.Proofs.YtmikllmpinciiaaDoor
