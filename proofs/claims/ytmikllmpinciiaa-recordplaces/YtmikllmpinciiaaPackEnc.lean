/- Packing: the walk of pack.Encode. -/
import Derived.Test.YtmikllmpinciiaaPackIter
import Derived.Test.YtmikllmpinciiaaKitRound
import Derived.Lib.JoinLaws
namespace Go.Proofs.Ytmikllmpinciiaa
open Go.RowKit Go.Shelf
attribute [local go_sem] Oper.semAt_some

set_option maxRecDepth 100000 in
set_option maxHeartbeats 400000 in
theorem Encode_size (l : List Nat) (ws : List Int) (hok : Pk.okW ws = false) (hlen : ws.length ≤ maxLen) (a b : Option Addr) (la ca cb : Nat) (w : World)
    (hb : RowI .i64 w b ws.length (fun j => ws.getD j 0)) :
    Calls Try.prog 19 #[.slice a la ca, .slice b ws.length cb] w fun e w' => e = .returned (.tuple #[.string (Pk.encS l ws), .int .i64 (Pk.encE l ws)]) ∧ Below w.heap.size w w' := by
  have hE1 := Pk.sizeE_no hok
  have E1 : Hid (Pk.encE l ws = 1) := Pk.encE_size hok
  have E2 : Hid (Pk.encS l ws = ByteArray.empty) := by show _ = _; unfold Pk.encS; rw [Pk.enc_size hok]; rfl
  go_enter Try.func19, Try.ntmps19
  go_wp2_with fail
  refine (Size_any ws hlen b cb _ (hb.below ((Below.refl _ w).alloc (Nat.le_refl _) _))).mono ?_
  rintro e w' ⟨rfl, rfl⟩
  rw [hE1]
  go_wp2
  go_ret2
  exact ⟨ret_two (by rw [E2.out]; rfl) (by rw [E1.out]; rfl), (Below.refl _ w).alloc (Nat.le_refl _) _⟩

set_option maxRecDepth 100000 in
set_option maxHeartbeats 400000 in
theorem Encode_count (l : List Nat) (ws : List Int) (hok : Pk.okW ws = true) (hne : l.length ≠ ws.length) (_hl : l.length ≤ maxLen) (a b : Option Addr) (ca cb : Nat) (w : World)
    (hb : RowI .i64 w b ws.length (fun j => ws.getD j 0)) :
    Calls Try.prog 19 #[.slice a l.length ca, .slice b ws.length cb] w fun e w' => e = .returned (.tuple #[.string (Pk.encS l ws), .int .i64 (Pk.encE l ws)]) ∧ Below w.heap.size w w' := by
  have hE1 := Pk.sizeE_yes hok
  have h64 := Pk.okW_len hok
  unfold maxLen at _hl
  have E1 : Hid (Pk.encE l ws = 1) := Pk.encE_count hok hne
  have E2 : Hid (Pk.encS l ws = ByteArray.empty) := by show _ = _; unfold Pk.encS; rw [Pk.enc_count hne]; rfl
  have hne2 : ((l.length : Int) == (ws.length : Int)) = false := by rw [beq_eq_false_iff_ne]; omega
  go_enter Try.func19, Try.ntmps19
  go_wp2_with fail
  refine (Size_any ws (by unfold maxLen; omega) b cb _ (hb.below ((Below.refl _ w).alloc (Nat.le_refl _) _))).mono ?_
  rintro e w' ⟨rfl, rfl⟩
  rw [hE1]
  go_wp2
  go_ret2
  exact ⟨ret_two (by rw [E2.out]; rfl) (by rw [E1.out]; rfl), (Below.refl _ w).alloc (Nat.le_refl _) _⟩

set_option maxRecDepth 100000 in
set_option maxHeartbeats 400000 in
theorem Encode_unfit (l : List Nat) (ws : List Int) (hok : Pk.okW ws = true) (hl : l.length = ws.length) (hfit : Pk.fitAll l ws = false) (hf : ∀ j, l.getD j 0 < 18446744073709551616) (a b : Option Addr) (ca cb : Nat) (w : World)
    (ha : RowI .u64 w a l.length (fun j => (l.getD j 0 : Nat))) (hb : RowI .i64 w b ws.length (fun j => ws.getD j 0)) :
    Calls Try.prog 19 #[.slice a l.length ca, .slice b ws.length cb] w fun e w' => e = .returned (.tuple #[.string (Pk.encS l ws), .int .i64 (Pk.encE l ws)]) ∧ Below w.heap.size w w' := by
  have hE1 := Pk.sizeE_yes hok
  have h64 := Pk.okW_len hok
  have E1 : Hid (Pk.encE l ws = 30) := Pk.encE_unfit hok hl hfit
  have E2 : Hid (Pk.encS l ws = ByteArray.empty) := by show _ = _; unfold Pk.encS; rw [Pk.enc_unfit hfit]; rfl
  have hne2 : ((l.length : Int) == (ws.length : Int)) = true := by rw [hl]; simp
  have Hl : Hid (l.length = ws.length) := hl
  clear hl
  go_enter Try.func19, Try.ntmps19
  go_wp2_with fail
  refine (Size_any ws (by unfold maxLen; omega) b cb _ (hb.below ((Below.refl _ w).alloc (Nat.le_refl _) _))).mono ?_
  rintro e w' ⟨rfl, rfl⟩
  rw [hE1]
  go_wp2_with fail
  refine (fitting_any l ws Hl.out h64 hf a b ca cb _ (ha.below ((Below.refl _ w).alloc (Nat.le_refl _) _)) (hb.below ((Below.refl _ w).alloc (Nat.le_refl _) _))).mono ?_
  rintro e w' ⟨rfl, rfl⟩
  rw [hfit]
  go_wp2
  go_ret2
  exact ⟨ret_two (by rw [E2.out]; rfl) (by rw [E1.out]; rfl), (Below.refl _ w).alloc (Nat.le_refl _) _⟩

/-- what has been put out behind the places pre -/
def Pk.outB {m : Nat} (l : List Nat) (pre : List (Pk.Pl m)) : List UInt8 := pre.map fun x => Pk.byteAt (l.getD x.1.1 0) x.1.2
theorem Pk.outB_snoc {m : Nat} (l : List Nat) (pre : List (Pk.Pl m)) (x : Pk.Pl m) : Pk.outB l (pre ++ [x]) = Pk.outB l pre ++ [Pk.byteAt (l.getD x.1.1 0) x.1.2] := by simp [Pk.outB]
theorem Pk.outB_all {m : Nat} (l : List Nat) (ws : List Int) (pre : List (Pk.Pl m)) (i : Nat) (h : pre.map (·.1) = Pk.plP ws i 0) : Pk.outB l pre = Pk.encP l ws i 0 := by
  have e : Pk.outB l pre = (pre.map (·.1)).map fun p => Pk.byteAt (l.getD p.1 0) p.2 := by simp [Pk.outB]
  rw [e, h]
  simp [Pk.plP, Pk.encP, Pk.bytesOf, List.map_flatMap, Function.comp_def]

set_option maxRecDepth 100000 in
set_option maxHeartbeats 2000000 in
theorem Encode_yes (l : List Nat) (ws : List Int) (hok : Pk.okW ws = true) (hl : l.length = ws.length) (hfit : Pk.fitAll l ws = true) (hf : ∀ j, l.getD j 0 < 18446744073709551616) (a b : Option Addr) (ca cb : Nat) (w : World)
    (ha : RowI .u64 w a l.length (fun j => (l.getD j 0 : Nat))) (hb : RowI .i64 w b ws.length (fun j => ws.getD j 0)) :
    Calls Try.prog 19 #[.slice a l.length ca, .slice b ws.length cb] w fun e w' => e = .returned (.tuple #[.string (Pk.encS l ws), .int .i64 (Pk.encE l ws)]) ∧ Below w.heap.size w w' := by
  have hE1 := Pk.sizeE_yes hok
  have hN1 := Pk.sizeN_yes hok
  have h64 := Pk.okW_len hok
  have hoffs := Pk.offs_le hok (Nat.le_refl _)
  have E1 : Hid (Pk.encE l ws = 0) := Pk.encE_yes hok hl hfit
  have E2 : Hid (Pk.encS l ws = ⟨(Pk.encP l ws ws.length 0).toArray⟩) := by show _ = _; unfold Pk.encS; rw [Pk.enc_yes hok hl hfit]
  have hne2 : ((l.length : Int) == (ws.length : Int)) = true := by rw [hl]; simp
  have Hl : Hid (l.length = ws.length) := hl
  clear hl
  have kb1 := (Below.refl _ w).alloc (Nat.le_refl w.heap.size) (.cells #[.slice a l.length ca] 50)
  obtain ⟨i0, hi, hz0, hz1, hz2⟩ := info_parts (show (Try.prog.info? 5).map (fun i => (i.zero, i.size, i.bytes)) = some (some (.int .u8 0), 1, 1) from info_u8)
  refine (callsIn_wide (n := 3)).1 ?_
  refine callsIn_of_wp_marks Try.func19 rfl trivial ?_ rfl
  simp only [Try.ntmps19, List.size_toArray, List.length_cons, List.length_nil, Nat.reduceAdd, Nat.reduceSub, Array.replicate_succ, Array.replicate_zero, List.push_toArray, List.append_toArray, List.nil_append, List.cons_append]
  gi_wp2_with fail
  refine ⟨trivial, (callsIn_wide.2 (Size_any ws (by unfold maxLen; omega) b cb _ (hb.below kb1))).mono ?_⟩
  rintro e w' ⟨rfl, rfl⟩
  rw [hE1, hN1]
  gi_wp2_with fail
  refine ⟨trivial, (callsIn_wide.2 (fitting_any l ws Hl.out h64 hf a b ca cb _ (ha.below kb1) (hb.below kb1))).mono ?_⟩
  rintro e w' ⟨rfl, rfl⟩
  rw [hfit]
  have hmk := run_make_room (P := Try.prog) 45 5 (.int .u8 0) 1 Try.underlying45 info_u8 rfl .i64 .i64 (Pk.offs ws ws.length) (by omega) (by omega)
  gi_wp2_with fail
  refine ⟨trivial, (callsIn_wide.2 (places_any b ws.length cb _)).mono ?_⟩
  rintro e w' ⟨rfl, rfl⟩
  gi_wp2_with fail
  have bL := ((((Boxed.new w 50 (.slice a l.length ca)).alloc (.cells (madeCells #[.int .u8 0] (Pk.offs ws ws.length)) 5)).alloc (.cells #[.slice (some ⟨w.heap.size + 1, 0, none⟩) 0 (Pk.offs ws ws.length)] 45)).alloc (.cells #[.slice b ws.length cb] 53))
  have bO := (Boxed.new ((w.alloc (.cells #[.slice a l.length ca] 50)).alloc (.cells (madeCells #[.int .u8 0] (Pk.offs ws ws.length)) 5)) 45 (.slice (some ⟨w.heap.size + 1, 0, none⟩) 0 (Pk.offs ws ws.length))).alloc (.cells #[.slice b ws.length cb] 53)
  have bW := Boxed.new (((w.alloc (.cells #[.slice a l.length ca] 50)).alloc (.cells (madeCells #[.int .u8 0] (Pk.offs ws ws.length)) 5)).alloc (.cells #[.slice (some ⟨w.heap.size + 1, 0, none⟩) 0 (Pk.offs ws ws.length)] 45)) 53 (.slice b ws.length cb)
  have hown := ((World.ownsRow_made (base := w.heap.size) (w.alloc (.cells #[.slice a l.length ca] 50)) (e := 5) (size := 1) (madeCells #[.int .u8 0] (Pk.offs ws ws.length)) (Pk.offs ws ws.length) (by simp) (by unfold maxLen; omega) (by rw [size_madeCells, Nat.mul_one])).alloc (.cells #[.slice (some ⟨w.heap.size + 1, 0, none⟩) 0 (Pk.offs ws ws.length)] 45)).alloc (.cells #[.slice b ws.length cb] 53)
  have kb4 := (((kb1.alloc (by simp) (.cells (madeCells #[.int .u8 0] (Pk.offs ws ws.length)) 5)).alloc (by simp; omega) (.cells #[.slice (some ⟨w.heap.size + 1, 0, none⟩) 0 (Pk.offs ws ws.length)] 45)).alloc (by simp; omega) (.cells #[.slice b ws.length cb] 53))
  simp only [World.size_alloc] at bO bW hown
  refine wpIn_rangeFunc_ownG rfl (by decide) (gf := 38) (lb := #[.pointer (some ⟨w.heap.size + 1 + 1 + 1, 0, none⟩)]) rfl trivial (enters_of Try.func38 (by kernel_rfl) rfl)
    (places_stops Fence.wide (3 - 1) trivial rfl (by decide) (w.heap.size + 1 + 1 + 1) ws hok b cb w _ kb4 hb (by simp) bW.cell) belowK_t (belowK_b (by simp; omega)) (Below.refl _ _) (fun _ => rfl)
    (fun pre W => (∃ v, Boxed W (w.heap.size + 1 + 1) 45 v ∧ W.ownsRow w.heap.size 5 1 v pre.length (byteVals (Pk.outB l pre)) ∧ True) ∧ (Boxed W w.heap.size 50 (.slice a l.length ca) ∧ Below w.heap.size w W))
    (fun _ _ _ => False)
    (OwnFrom.and (Own.from (holdsRow_own w.heap.size (w.heap.size + 1 + 1) 45 5 1 (fun pre => pre.length) (fun pre => byteVals (Pk.outB l pre)) (fun _ _ => True)) _) (OwnFrom.and (Own.from (boxed_own _ _ _) _) (ownFrom_below (Nat.le_refl _) (by simp; omega))))
    (fun _ _ _ _ _ hs _ _ => hs)
    ⟨⟨_, bO, hown, trivial⟩, bL, kb4⟩
    (fun x => { tmps := #[.slice a l.length ca, .slice b ws.length cb, .pointer (some ⟨w.heap.size, 0, none⟩), undef, .string { data := #[] },
          .int .i64 0, .int .i64 (Pk.offs ws ws.length : Nat), .int .i64 0,
          .pointer (some ⟨w.heap.size + 1 + 1, 0, none⟩), .int .i64 (x.1.1 : Int), .int .i64 (8 * (x.1.2 : Int)),
          .tuple #[.int .i64 (Pk.offs ws ws.length : Nat), .int .i64 0],
          .slice b ws.length cb,
          .tuple #[.int .i64 (Pk.offs ws ws.length : Nat), .int .i64 0],
          .int .i64 (Pk.offs ws ws.length : Nat), .int .i64 0, .bool false,
          .int .i64 0, .bool false, undef, .bool false, .slice a l.length ca,
          .int .i64 (l.length : Nat), .slice b ws.length cb, .int .i64 (ws.length : Nat),
          .bool false, .bool false, .slice a l.length ca, .slice b ws.length cb, .bool true,
          .bool false, .int .i64 (Pk.offs ws ws.length : Nat),
          .slice (some ⟨w.heap.size + 1, 0, none⟩) 0 (Pk.offs ws ws.length),
          .slice b ws.length cb,
          .func (.func 38) #[] #[.pointer (some ⟨w.heap.size + 1 + 1 + 1, 0, none⟩)], .int .i64 (x.1.1 : Int), .int .i64 (8 * (x.1.2 : Int)), undef, undef, undef, undef, undef, undef, undef, undef, undef, undef, undef, undef], defers := [] }) ?assign ?body ?done ?stop
  case assign =>
    intro l x W K hK
    gi_wp2
    exact hK
  case body =>
    rintro _ pre ⟨⟨i, k⟩, hik, hk8⟩ W ⟨⟨v, hv, hrow, _⟩, hvl, hB⟩ hlt
    have hc := hv.cell
    have hcl := hvl.cell
    have hxl : i < l.length := by rw [Hl.out]; exact hik
    obtain ⟨b1, o1, rfl, hc0⟩ := ha i hxl
    have hb1 := World.block_lt_of_cell? w _ hc0
    have hc1 := (hB.cell (p := ⟨b1, o1 + i, none⟩) hb1).trans hc0
    obtain ⟨N, hN⟩ : ∃ N, l.getD i 0 = N := ⟨_, rfl⟩
    simp only [hN] at hc1
    have Hn : Hid (l.getD i 0 = N) := hN
    have hN64 : N < 18446744073709551616 := by rw [← hN]; exact hf i
    have hbyte : (N : Int) / 2 ^ (8 * k) % 256 = ((Pk.byteAt N k).toNat : Int) := by rw [Pk.shr_nat, Pk.byteAt_toNat]; omega
    have hmx : Try.prog.follows .mixedOrders = true := by kernel_rfl
    have hpl : pre.length < 512 := by omega
    have hB0 := hB.size
    clear hN
    gi_wp2
    refine region_in_round (fun w' => w'.cell? ⟨w.heap.size, 0, none⟩ = some (.slice (some ⟨b1, o1, none⟩) l.length ca) ∧ w'.cell? ⟨b1, o1 + i, none⟩ = some (.int .u64 (N : Nat))) hmx (by kernel_rfl) (fun ⟨_, _, h⟩ => h) ?_
    have hS0 : (fun w' : World => w'.cell? ⟨w.heap.size, 0, none⟩ = some (.slice (some ⟨b1, o1, none⟩) l.length ca) ∧ w'.cell? ⟨b1, o1 + i, none⟩ = some (.int .u64 (N : Nat))) W.drew := ⟨hcl, hc1⟩
    have hS8 : (fun w' : World => w'.cell? ⟨w.heap.size, 0, none⟩ = some (.slice (some ⟨b1, o1, none⟩) l.length ca) ∧ w'.cell? ⟨b1, o1 + i, none⟩ = some (.int .u64 (N : Nat))) ((W.alloc (.cells #[.int .u8 ((Pk.byteAt N k).toNat : Int)] 5)).drew) :=
      ⟨(hvl.alloc _).cell, (((Below.refl _ W).alloc (Nat.le_refl _) _).cell (p := ⟨b1, o1 + i, none⟩) (World.block_lt_of_cell? W _ hc1)).trans hc1⟩
    have hv8 := (hv.alloc (.cells #[.int .u8 ((Pk.byteAt N k).toNat : Int)] 5)).cell
    refine held_quiet 1 (v := ?v1q1) rfl (by kernel_rfl) (fun _ _ _ h => h) (by assumption) rfl ?hy1q1 ?rest1q1
    case hy1q1 => (intro wS hSw; (try dsimp only at hSw); go_simp; try with_reducible rfl)
    try simp only [Act.put, List.setIfInBounds_toArray, List.set_cons_zero, List.set_cons_succ]
    refine held_quiet 2 (v := ?v2q2) rfl (by kernel_rfl) (fun _ _ _ h => h) (by assumption) rfl ?hy2q2 ?rest2q2
    case hy2q2 => (intro wS hSw; (try dsimp only at hSw); go_simp; try with_reducible rfl)
    try simp only [Act.put, List.setIfInBounds_toArray, List.set_cons_zero, List.set_cons_succ]
    refine held_quiet 3 (v := ?v3q3) rfl (by kernel_rfl) (fun _ _ _ h => h) (by assumption) rfl ?hy3q3 ?rest3q3
    case hy3q3 => (intro wS hSw; (try dsimp only at hSw); go_simp; try with_reducible rfl)
    try simp only [Act.put, List.setIfInBounds_toArray, List.set_cons_zero, List.set_cons_succ]
    refine held_quiet 4 (v := ?v4q4) rfl (by kernel_rfl) (fun _ _ _ h => h) (by assumption) rfl ?hy4q4 ?rest4q4
    case hy4q4 => (intro wS hSw; (try dsimp only at hSw); go_simp; try with_reducible rfl)
    try simp only [Act.put, List.setIfInBounds_toArray, List.set_cons_zero, List.set_cons_succ]
    refine held_quiet 5 (v := ?v5q5) rfl (by kernel_rfl) (fun _ _ _ h => h) (by assumption) rfl ?hy5q5 ?rest5q5
    case hy5q5 => (intro wS hSw; (try dsimp only at hSw); go_simp; try with_reducible rfl)
    try simp only [Act.put, List.setIfInBounds_toArray, List.set_cons_zero, List.set_cons_succ]
    refine held_quiet 6 (v := ?v6q6) rfl (by kernel_rfl) (fun _ _ _ h => h) (by assumption) rfl ?hy6q6 ?rest6q6
    case hy6q6 => (intro wS hSw; (try dsimp only at hSw); go_simp; try with_reducible rfl)
    try simp only [Act.put, List.setIfInBounds_toArray, List.set_cons_zero, List.set_cons_succ]
    refine held_quiet 7 (v := ?v7q7) rfl (by kernel_rfl) (fun _ _ _ h => h) (by assumption) rfl ?hy7q7 ?rest7q7
    case hy7q7 => (intro wS hSw; (try dsimp only at hSw); go_simp; try with_reducible rfl)
    try simp only [Act.put, List.setIfInBounds_toArray, List.set_cons_zero, List.set_cons_succ]
    refine held_two 0 8 rfl rfl (by kernel_rfl) ?_ ?_
    · go_wp2
      try refine ⟨hS0, ?_⟩
      refine held_one 8 rfl (by kernel_rfl) ?_
      go_wp2
      try rw [hbyte]
      try refine ⟨hS8, ?_⟩
      refine held_one 9 rfl (by kernel_rfl) ?_
      refine wpList_append_own _ rfl _ _ 45 rfl w.heap.size 5 i0 (.int .u8 0) 1 1 Try.underlying45 hi hz0 hz1 hz2 rfl (by decide) v pre.length (byteVals (Pk.outB l pre)) rfl (hrow.alloc _) ⟨W.heap.size, 0, none⟩ 1 1 [.int .u8 ((Pk.byteAt N k).toNat : Int)] rfl rfl (cell_one_new _ _ _) (by simp [Value.oneCell']) (by unfold maxLen; omega) (by omega) (by simp; omega) ?_
      intro v' w1 hown' hgrow _
      obtain ⟨g', cap', rfl⟩ := ownsRow_succ hown'
      obtain ⟨hv1, hv2, hr2, hk2, hb2⟩ := hv.appended (by decide) hrow hB0 (by omega) hown' (grownBy_undrew hgrow)
      have hvl1 := (hvl.alloc _).kept (grownBy_undrew hgrow) (hvl.not_row (by decide) hrow)
      have hc2 := (below_append hrow hB0 (grownBy_undrew hgrow)).cell (p := ⟨b1, o1 + i, none⟩) hb1
      have hcv1 := hv1.cell
      have hfv1 := hv1.frozen
      have hSe : (fun w' : World => w'.cell? ⟨w.heap.size, 0, none⟩ = some (.slice (some ⟨b1, o1, none⟩) l.length ca) ∧ w'.cell? ⟨b1, o1 + i, none⟩ = some (.int .u64 (N : Nat))) (w1.setCell ⟨w.heap.size + 1 + 1, 0, none⟩ (.slice (some ⟨g', 0, none⟩) (pre.length + 1) cap')) :=
        ⟨(boxed_setOther hvl1 (w.heap.size + 1 + 1) 0 _ (by omega)).cell, (hb2.cell (p := ⟨b1, o1 + i, none⟩) hb1).trans hc1⟩
      refine ⟨⟨hvl1.cell, hc2.trans hc1⟩, ?_⟩
      refine held_one 10 rfl (by kernel_rfl) ?_
      go_wp2
      first | refine ⟨hSe, held_done (by kernel_rfl) ?_⟩ | refine held_done (by kernel_rfl) ?_
      exact ⟨hk2.from _, hb2, ⟨_, hv2, by rw [Pk.outB_snoc, ← byteVals_snoc, Hn.out]; simpa using hr2, trivial⟩, hvl1.kept (grownBy_setCell' _ _ _) (by simp; omega), hB.trans hb2⟩
    · go_wp2
      try rw [hbyte]
      try refine ⟨hS8, ?_⟩
      refine held_one 0 rfl (by kernel_rfl) ?_
      go_wp2
      try refine ⟨hS8, ?_⟩
      refine held_one 9 rfl (by kernel_rfl) ?_
      refine wpList_append_own _ rfl _ _ 45 rfl w.heap.size 5 i0 (.int .u8 0) 1 1 Try.underlying45 hi hz0 hz1 hz2 rfl (by decide) v pre.length (byteVals (Pk.outB l pre)) rfl (hrow.alloc _) ⟨W.heap.size, 0, none⟩ 1 1 [.int .u8 ((Pk.byteAt N k).toNat : Int)] rfl rfl (cell_one_new _ _ _) (by simp [Value.oneCell']) (by unfold maxLen; omega) (by omega) (by simp; omega) ?_
      intro v' w1 hown' hgrow _
      obtain ⟨g', cap', rfl⟩ := ownsRow_succ hown'
      obtain ⟨hv1, hv2, hr2, hk2, hb2⟩ := hv.appended (by decide) hrow hB0 (by omega) hown' (grownBy_undrew hgrow)
      have hvl1 := (hvl.alloc _).kept (grownBy_undrew hgrow) (hvl.not_row (by decide) hrow)
      have hc2 := (below_append hrow hB0 (grownBy_undrew hgrow)).cell (p := ⟨b1, o1 + i, none⟩) hb1
      have hcv1 := hv1.cell
      have hfv1 := hv1.frozen
      have hSe : (fun w' : World => w'.cell? ⟨w.heap.size, 0, none⟩ = some (.slice (some ⟨b1, o1, none⟩) l.length ca) ∧ w'.cell? ⟨b1, o1 + i, none⟩ = some (.int .u64 (N : Nat))) (w1.setCell ⟨w.heap.size + 1 + 1, 0, none⟩ (.slice (some ⟨g', 0, none⟩) (pre.length + 1) cap')) :=
        ⟨(boxed_setOther hvl1 (w.heap.size + 1 + 1) 0 _ (by omega)).cell, (hb2.cell (p := ⟨b1, o1 + i, none⟩) hb1).trans hc1⟩
      refine ⟨⟨hvl1.cell, hc2.trans hc1⟩, ?_⟩
      refine held_one 10 rfl (by kernel_rfl) ?_
      go_wp2
      first | refine ⟨hSe, held_done (by kernel_rfl) ?_⟩ | refine held_done (by kernel_rfl) ?_
      exact ⟨hk2.from _, hb2, ⟨_, hv2, by rw [Pk.outB_snoc, ← byteVals_snoc, Hn.out]; simpa using hr2, trivial⟩, hvl1.kept (grownBy_setCell' _ _ _) (by simp; omega), hB.trans hb2⟩
  case done =>
    rintro D ys W hD hys ⟨⟨v, hv, hrow, _⟩, hvl, hB⟩ hK
    have hc := hv.cell
    have hlen : ys.length = Pk.offs ws ws.length := by
      have := congrArg List.length hys
      rw [List.length_map, Pk.plP_length] at this; exact this
    have hout := Pk.outB_all l ws ys ws.length hys
    rw [hlen, hout] at hrow
    have hcv := fun (W' : World) (h : W'.ownsRow w.heap.size 5 1 v (Pk.offs ws ws.length) (byteVals (Pk.encP l ws ws.length 0))) => ownsBytes_back (P := Try.prog) h 45 9 5 Try.underlying45 Try.underlying5 Try.underlying9
    have hcv1 := hcv W hrow
    gi_wp2
    refine ⟨by simp, .inl ⟨_, _, rfl, run_takeDeferred hK, ?_⟩⟩
    exact ⟨_, results_tmp2 (fn := Try.f19) rfl _ _ _, ret_two (by rw [E2.out]; rfl) (by rw [E1.out]; rfl), hB.trans (belowK_b (w := w) (Nat.le_refl _) W D _ _ (by simp at hD; omega) hK rfl rfl)⟩
  case stop =>
    rintro D c pre W _ _ h _
    exact h.elim

theorem Encode_any (l : List Nat) (ws : List Int) (hl : l.length ≤ maxLen) (hlen : ws.length ≤ maxLen) (hf : ∀ j, l.getD j 0 < 18446744073709551616) (a b : Option Addr) (ca cb : Nat) (w : World)
    (ha : RowI .u64 w a l.length (fun j => (l.getD j 0 : Nat))) (hb : RowI .i64 w b ws.length (fun j => ws.getD j 0)) :
    Calls Try.prog 19 #[.slice a l.length ca, .slice b ws.length cb] w fun e w' => e = .returned (.tuple #[.string (Pk.encS l ws), .int .i64 (Pk.encE l ws)]) ∧ Below w.heap.size w w' := by
  cases hok : Pk.okW ws with
  | false => exact Encode_size l ws hok hlen a b _ ca cb w hb
  | true =>
    by_cases hc : l.length = ws.length
    · cases hfit : Pk.fitAll l ws with
      | false => exact Encode_unfit l ws hok hc hfit hf a b ca cb w ha hb
      | true => exact Encode_yes l ws hok hc hfit hf a b ca cb w ha hb
    · exact Encode_count l ws hok hc hl a b ca cb w hb
end Go.Proofs.Ytmikllmpinciiaa
