/- For every list of calls the law SlotsActs returns true: whatever is saved, written, spoilt, or lost, what a drive's slots hold, and what is answered, is the document's. No condition. -/
import Derived.Test.YtgkhnfchohcjeaaGreatMRefE
import Derived.Test.YtgkhnfchohcjeaaGreatKitAct9
import Derived.BigQuiet
namespace Go.Proofs.YtgkhnfchohcjeaaGreat.slotsActs
open Go.ChangeShapes Go.WideShapes Go.ChangeAt Go.RowKit
open Go.ChangeMaps (open_string shut_string)

theorem info_act : (Tryz.prog.info? 34).map (·.size) = some 13 := by kernel_rfl
/-- a call's cells, new -/
def zeroAct : List Value := [.int .i64 0, .int .i64 0] ++ supL Sup.none ++ [.string ByteArray.empty]
/-- what the walk asks of a call's cells -/
structure ActC (L : List Value) (κ i : Int) (lS : List Value) (b : ByteArray) : Prop where
  len : L.length = 13
  size : L.toArray.size = 13
  one : L.toArray.all (·.oneCell') = true
  info : (Tryz.prog.info? 34).map (·.size) = some L.length
  infoA : (Tryz.prog.info? 34).map (·.size) = some L.toArray.size
  eq : L = [.int .i64 κ, .int .i64 i] ++ lS ++ [.string b]
  lS : lS.length = 10
theorem act_letter (x : Act9) : ∃ L, actL x = L ∧ ActC L x.kind x.i (supL x.s) x.b := by
  refine ⟨_, rfl, rfl, rfl, ?_, info_act, info_act, rfl, rfl⟩
  refine all_oneCell_toArray fun v hv => ?_
  have a0 := Array.all_eq_true_iff_forall_mem.1 (supL_one x.s)
  unfold actL at hv
  simp only [List.mem_append, List.mem_cons, List.not_mem_nil, or_false] at hv
  rcases hv with (hv | hv) | hv
  · rcases hv with rfl | rfl <;> rfl
  · exact a0 v (by simpa using hv)
  · rw [hv]; rfl
/-- a call's cells, where they lie -/
structure ActIn (W : World) (A : Nat) (κ i : Int) (lS : List Value) (b : ByteArray) : Prop where
  k : W.cell? ⟨A, 0, none⟩ = some (.int .i64 κ)
  i : W.cell? ⟨A, 1, none⟩ = some (.int .i64 i)
  s : W.rangeAt A 2 lS
  b : W.cell? ⟨A, 12, none⟩ = some (.string b)
  lt : A < W.heap.size
theorem act_in {W : World} {A : Nat} {L : List Value} {κ i : Int} {lS : List Value} {b : ByteArray} (h : W.rangeAt A 0 L) (hL : ActC L κ i lS b) (hA : A < W.heap.size) : ActIn W A κ i lS b := by
  have e := hL.eq
  have h0 := range_cell h (j := 0) (v := .int .i64 κ) (by rw [e]; rfl)
  have h1 := range_cell h (j := 1) (v := .int .i64 i) (by rw [e]; rfl)
  have h12 := range_cell h (j := 12) (v := .string b) (by
    rw [e, List.getElem?_append_right (by simp [hL.lS])]
    simp [hL.lS])
  refine ⟨h0, h1, fun j v hv => ?_, h12, hA⟩
  have hj := (List.getElem?_eq_some_iff.1 hv).1
  have := h (2 + j) v (by
    rw [e, List.getElem?_append_left (by simp; omega), List.getElem?_append_right (by simp)]
    simpa using hv)
  rwa [Nat.zero_add] at this
theorem ActIn.below {W W' : World} {A : Nat} {κ i : Int} {lS : List Value} {b : ByteArray} (h : ActIn W A κ i lS b) (hb : Below W.heap.size W W') : ActIn W' A κ i lS b :=
  ⟨(hb.cell (p := ⟨A, 0, none⟩) h.lt).trans h.k, (hb.cell (p := ⟨A, 1, none⟩) h.lt).trans h.i, range_below h.s h.lt hb, (hb.cell (p := ⟨A, 12, none⟩) h.lt).trans h.b, Nat.lt_of_lt_of_le h.lt hb.size⟩
theorem ActIn.turn {wr W W' : World} {A B : Nat} {κ i : Int} {lS : List Value} {b : ByteArray} (h : ActIn W A κ i lS b) (hA : wr.heap.size ≤ A) (ho : Turn wr B W W') : ActIn W' A κ i lS b := by
  have hn : ¬ (B ≤ A ∧ A < wr.heap.size) := fun x => absurd hA (Nat.not_le.2 x.2)
  have hc : ∀ o, W'.cell? ⟨A, o, none⟩ = W.cell? ⟨A, o, none⟩ := fun o => World.cell?_of_block (a := ⟨A, o, none⟩) (ho.block A h.lt hn)
  exact ⟨(hc _).trans h.k, (hc _).trans h.i, range_only h.s h.lt ho hn, (hc _).trans h.b, Nat.lt_of_lt_of_le h.lt ho.size⟩
theorem Turn.low {wr W W' : World} {B : Nat} (h : Turn wr B W W') (hB : B ≤ W.heap.size) : Below B W W' := h.below (fun _ hk => hk.1) hB

set_option maxRecDepth 100000 in
set_option maxHeartbeats 400000 in
theorem walk_long (w : World) (a : Option Addr) (cap n : Nat) (hn : n ≤ maxLen) (h : 100 < n) :
    Calls Tryz.prog 3 #[.slice a n cap] w fun e w' => e = .returned (.bool true) ∧ Below w.heap.size w w' := by
  unfold maxLen at hn
  have h1 : (100 : Int) < (n : Int) := by omega
  clear h
  go_enter Tryz.func3, Tryz.ntmps3
  go_wp2_with fail
  refine (shown9_any _).mono ?_
  rintro e w1 ⟨rfl, b1⟩
  go_wp2
  go_ret
  exact ⟨rfl, b1⟩
set_option maxRecDepth 100000 in
set_option maxHeartbeats 1000000 in
theorem walk_nil (w : World) (a : Option Addr) (cap : Nat) :
    Calls Tryz.prog 3 #[.slice a 0 cap] w fun e w' => e = .returned (.bool true) ∧ Below w.heap.size w w' := by
  go_enter Tryz.func3, Tryz.ntmps3
  go_wp2_with fail
  refine (shown9_any _).mono ?_
  rintro e w1 ⟨rfl, b1⟩
  have B1 : Hid (Below w.heap.size w w1) := b1
  clear b1
  go_wp2_with fail
  refine (new_mine 3 w.heap.size (by omega) (by omega) _ B1.out.size).mono ?_
  rintro e w2 ⟨p, rfl, m2, b2⟩
  have M2 : Hid (Mine w2 w.heap.size p (Dr.fresh 3)) := m2
  have B2 : Hid (Below w.heap.size w w2) := B1.out.trans b2
  clear m2 b2
  go_wp2_with fail
  refine (two_new M2.out).mono ?_
  rintro e w3 ⟨rp, rfl, t3, b3⟩
  have T3 : Hid (Two w3 w.heap.size p rp (Dr.fresh 3)) := t3
  have B3 : Hid (Below w.heap.size w w3) := below2 B2.out b3
  clear t3 b3
  go_wp2
  go_loopg [5] 0 (fun gg i wr => gg = 0 ∧ i = .int .i64 0 ∧ wr = w3)
  case atStart => exact ⟨rfl, rfl, rfl⟩
  case round =>
    obtain ⟨rfl, rfl, rfl⟩ := hrel
    go_wp2_with fail
    refine (T3.out.same Inv.start).mono ?_
    rintro e w4 ⟨rfl, b4⟩
    have B4 : Hid (Below w.heap.size w w4) := below2 B3.out b4
    clear b4
    go_wp2
    go_ret
    exact ⟨rfl, B4.out⟩
set_option maxRecDepth 100000 in
set_option maxHeartbeats 8000000 in
theorem walk_some (w : World) (b off cap n : Nat) (hn : n ≤ 100) (_hpos : 0 < n) (f : Nat → Act9) (hA : ∀ j, j < n → ActAt9 w b (off + j * 13) (f j)) :
    Calls Tryz.prog 3 #[.slice (some ⟨b, off, none⟩) n cap] w fun e w' => e = .returned (.bool true) ∧ Below w.heap.size w w' := by
  have HMX : Hid (Tryz.prog.follows .mixedOrders = true) := by show _ = _; kernel_rfl
  have hn1 : ¬ (100 : Int) < (n : Int) := by omega
  have HA : Hid (∀ j, j < n → ActAt9 w b (off + j * 13) (f j)) := hA
  have HBL : Hid (∀ W, Calls Tryz.prog 7 #[] W fun e w' => e = .returned (.string blankB) ∧ w' = W) := blank_any
  have HN : Hid (n ≤ 100) := hn
  clear hA hn _hpos
  go_enter Tryz.func3, Tryz.ntmps3
  go_wp2_with fail
  refine (shown9_any _).mono ?_
  rintro e w1 ⟨rfl, b1⟩
  have B1 : Hid (Below w.heap.size w w1) := b1
  clear b1
  go_wp2_with fail
  refine (new_mine 3 w.heap.size (by omega) (by omega) _ B1.out.size).mono ?_
  rintro e w2 ⟨p, rfl, m2, b2⟩
  have M2 : Hid (Mine w2 w.heap.size p (Dr.fresh 3)) := m2
  have B2 : Hid (Below w.heap.size w w2) := B1.out.trans b2
  clear m2 b2
  go_wp2_with fail
  refine (two_new M2.out).mono ?_
  rintro e w3 ⟨rp, rfl, t3, b3⟩
  have T3 : Hid (Two w3 w.heap.size p rp (Dr.fresh 3)) := t3
  have B3 : Hid (Below w.heap.size w w3) := below2 B2.out b3
  clear t3 b3
  go_wp2
  go_loopg [5] n (fun gg i wr => ∃ (k : Nat) (D : Dr), k ≤ n ∧ gg = n - k ∧ i = .int .i64 k ∧ Two wr w.heap.size p rp D ∧ Inv D k ∧ Below w.heap.size w wr)
  case atStart => exact ⟨0, _, Nat.zero_le _, rfl, rfl, T3.out, Inv.start, B3.out⟩
  case round =>
    obtain ⟨k, D, hk, rfl, rfl, hT, hI, hb⟩ := hrel
    have HT : Hid (Two wr w.heap.size p rp D) := hT
    have HI : Hid (Inv D k) := hI
    have HB : Hid (Below w.heap.size w wr) := hb
    have hk100 : k ≤ 100 := Nat.le_trans hk HN.out
    clear hT hI hb M2 B1 B2 T3 B3
    by_cases hlt : k < n
    case neg =>
      have hkn : k = n := by omega
      subst hkn
      go_wp2_with fail
      refine (HT.out.same HI.out).mono ?_
      rintro e w4 ⟨rfl, b4⟩
      have B4 : Hid (Below w.heap.size w w4) := below2 HB.out b4
      clear b4
      go_wp2
      go_ret
      exact ⟨rfl, B4.out⟩
    case pos =>
      have hak := HA.out k hlt
      obtain ⟨L, eL, hL⟩ := act_letter (f k)
      have har := hak.at_
      rw [eL] at har
      have hbl : b < w.heap.size := by
        have h0 := range_cell har (j := 0) (v := .int .i64 (f k).kind) (by rw [hL.eq]; rfl)
        exact World.block_lt_of_cell? w _ h0
      have HRA : Hid (wr.rangeAt b (off + k * 13) L) := range_below har hbl HB.out
      have hS := hak.s
      have hib := hak.i
      have hbm := hak.b
      obtain ⟨lS, elS, LS⟩ := sup_letter (f k).s
      have LSr : RupL lS (f k).s := by rw [← elS]; exact ⟨rfl, rfl, supL_one _, rfl, info_rsup, info_rsup⟩
      rw [elS] at hL
      obtain ⟨s, es⟩ : ∃ s, s = (f k).s := ⟨_, rfl⟩
      obtain ⟨i, ei⟩ : ∃ i, i = (f k).i := ⟨_, rfl⟩
      obtain ⟨κ, eκ⟩ : ∃ κ, κ = (f k).kind := ⟨_, rfl⟩
      obtain ⟨t, et⟩ : ∃ t, t = (f k).b := ⟨_, rfl⟩
      rw [← es] at hS elS LS LSr
      rw [← ei] at hL hib
      rw [← eκ] at hL
      rw [← et] at hL hbm
      have HS : Hid (s.Bd ∧ supL s = lS) := ⟨⟨hS.uu, hS.ev, hS.c.2, hS.nw.2⟩, elS⟩
      have HLS : Hid _ := LS
      have HLSr : Hid _ := LSr
      have HL : Hid _ := hL
      have TA : Hid (∀ C : Array Value, C.size = 13 → (wr.alloc (.cells C 34)).there wr.heap.size 0 L.toArray.size) := fun C hC => by rw [HL.out.size]; exact there_new wr C _ 13 (by omega)
      have hki : (k : Int) < (n : Int) := by omega
      unfold maxLen at hbm
      clear hak eL hL har hbl hS elS LS LSr es ei eκ et
      go_upto_region 11 with (first
        | (refine wpList_load_mid rfl 34 _ rfl b (off + k * 13) rfl L _ HRA.out Tryz.underlying34 rfl HL.out.info ?_)
        | (refine wpList_store_mid rfl 34 _ _ rfl wr.heap.size 0 L.toArray rfl rfl (TA.out _ rfl) HL.out.infoA HL.out.one ?_; change wpList _ _ _ _ _ (World.setCells _ _ _ L)))
      obtain ⟨V, hV⟩ : ∃ V, V = (wr.alloc (.cells zeroAct.toArray 34)).setCells wr.heap.size 0 L := ⟨_, rfl⟩
      change Code.wp _ _ _ _ ((wr.alloc (.cells zeroAct.toArray 34)).setCells wr.heap.size 0 L)
      have hbV : Below wr.heap.size wr ((wr.alloc (.cells zeroAct.toArray 34)).setCells wr.heap.size 0 L) := ((Below.refl _ wr).alloc (Nat.le_refl _) _).trans (below_setCells (Nat.le_refl _) _)
      have hrV := World.rangeAt_setCells_same (wr.alloc (.cells zeroAct.toArray 34)) wr.heap.size 0 L (TA.out _ rfl)
      have hsV : ((wr.alloc (.cells zeroAct.toArray 34)).setCells wr.heap.size 0 L).heap.size = wr.heap.size + 1 := by rw [size_setCells, World.size_alloc]
      rw [← hV] at hbV hrV hsV ⊢
      have AV : Hid (ActIn V wr.heap.size κ i lS t) := act_in hrV HL.out (by rw [hsV]; exact Nat.lt_succ_self _)
      have BV : Hid (Below wr.heap.size wr V) := hbV
      have hcb := AV.out.b
      clear hV hbV hrV hsV TA HRA HL
      by_cases h100 : (100 : Int) < (t.size : Int)
      · go_wp2_with fail
        refine (shown9_any _).mono ?_
        rintro e w4 ⟨rfl, b4⟩
        have B4 : Hid (Below w.heap.size w w4) := below2 (below2 HB.out BV.out) b4
        clear b4
        go_wp2
        go_ret
        exact ⟨rfl, B4.out⟩
      have hz : t.size ≤ 100 := by omega
      obtain ⟨bl, ebl⟩ : ∃ bl, bl = blankB := ⟨_, rfl⟩
      have hbl := HBL.out
      rw [← ebl] at hbl
      have hbs : bl.size = 64 := by rw [ebl]; exact blank_size
      obtain ⟨q, eq⟩ : ∃ q, q = fullB t := ⟨_, rfl⟩
      have hq : (t ++ bl).extract 0 64 = q := by
        rw [eq, ebl]
        unfold fullB fullL blankB txt
        apply ByteArray.ext
        apply Array.ext'
        rw [ByteArray.data_extract, ByteArray.data_append, Array.toList_extract, Array.toList_append]
        rfl
      have hts : (t ++ bl).size = t.size + 64 := by rw [ByteArray.size_append, hbs]
      have HQ : Hid (q.size = 64) := by unfold Hid; rw [eq]; exact fullB_size t
      have hm2 : ¬ 9223372036854775807 < t.size + 64 := by omega
      have hm5 : (64 : Int) ≤ (t.size : Int) + 64 := by omega
      have hS0 : V.drew.cell? ⟨wr.heap.size, 12, none⟩ = some (.string t) ∧ Below V.heap.size V V.drew := ⟨hcb, (Below.refl _ _).drew⟩
      clear eq ebl
      go_wp2_with fail
      refine region_det (fun W => W.cell? ⟨wr.heap.size, 12, none⟩ = some (.string t) ∧ Below V.heap.size V W) HMX.out (by kernel_rfl) hS0 ?_
      refine det_read 0 (v := ?vx1) rfl (by kernel_rfl) rfl ?hyx1 ?restx1
      case hyx1 => (intro wS hSw; (try dsimp only at hSw); go_simp; try with_reducible rfl)
      try simp only [Act.put, List.setIfInBounds_toArray, List.set_cons_zero, List.set_cons_succ]
      refine det_read 1 (v := ?vx2) rfl (by kernel_rfl) rfl ?hyx2 ?restx2
      case hyx2 => (intro wS hSw; (try dsimp only at hSw); go_simp; try with_reducible rfl)
      try simp only [Act.put, List.setIfInBounds_toArray, List.set_cons_zero, List.set_cons_succ]
      refine det_call 2 rfl (by kernel_rfl) rfl ?hyx6 (fun W h => det_still (hbl W) h) ?restx6
      case hyx6 => (intro wS hSw; go_simp; try with_reducible rfl)
      try simp only [Act.put, List.setIfInBounds_toArray, List.set_cons_zero, List.set_cons_succ]
      refine det_read 3 (v := ?vx3) rfl (by kernel_rfl) rfl ?hyx3 ?restx3
      case hyx3 => (intro wS hSw; (try dsimp only at hSw); go_simp; try with_reducible rfl)
      try simp only [Act.put, List.setIfInBounds_toArray, List.set_cons_zero, List.set_cons_succ]
      refine det_read 4 (v := ?vx4) rfl (by kernel_rfl) rfl ?hyx4 ?restx4
      case hyx4 => (intro wS hSw; (try dsimp only at hSw); go_simp; try with_reducible rfl)
      try simp only [Act.put, List.setIfInBounds_toArray, List.set_cons_zero, List.set_cons_succ]
      refine det_read 5 (v := ?vx5) rfl (by kernel_rfl) rfl ?hyx5 ?restx5
      case hyx5 => (intro wS hSw; (try dsimp only at hSw); go_simp; try with_reducible rfl)
      try simp only [Act.put, List.setIfInBounds_toArray, List.set_cons_zero, List.set_cons_succ]
      refine det_done (by kernel_rfl) ?_
      intro W1 hW
      have BW : Hid (Below wr.heap.size wr W1) := below2 BV.out hW.2
      have AW : Hid (ActIn W1 wr.heap.size κ i lS t) := AV.out.below hW.2
      have HWB : Hid (w.heap.size ≤ wr.heap.size) := HB.out.size
      clear hS0 hW hq hts hm2 hm5 hbs hbl hcb hz h100 AV BV HBL hbm
      go_upto_region 15 with fail
      by_cases hκ0 : κ = 0
      · have AWk : Hid (ActIn W1 wr.heap.size 0 i lS t) := by rw [← hκ0]; exact AW.out
        have ck := AWk.out.k
        clear AW hκ0
        have hS := HS.out
        have hsv := (show Calls _ _ #[_, .agg lS.toArray] _ _ from hS.2 ▸ HT.out.save BW.out.drew s hS.1 HI.out (by omega))
        obtain ⟨DZ, eDZ⟩ : ∃ DZ, DZ = D.saveD s := ⟨_, rfl⟩
        have IZ : Hid (Inv DZ (k + 1)) := by rw [eDZ]; exact HI.out.save s
        have HDZ : Hid (DZ = D.saveD s) := eDZ
        obtain ⟨r, er⟩ : ∃ r, r = D.saveE s := ⟨_, rfl⟩
        have HER : Hid (r = D.saveE s) := er
        rw [← eDZ, ← er] at hsv
        clear hS eDZ er
        go_wp2_with fail
        refine wp_region_held (S := fun W => W.rangeAt wr.heap.size 2 lS) HMX.out ?_
        have AD : Hid (ActIn W1.drew wr.heap.size 0 i lS t) := AWk.out.below (Below.refl _ _).drew
        have hS : (fun W : World => W.rangeAt wr.heap.size 2 lS) W1.drew := AD.out.s
        change wpAnyH _ _ _ _ _ _ _ _ W1.drew
        refine held_quiet 0 (v := ?v0q1) rfl (by kernel_rfl) (fun _ _ _ h => h) (by assumption) rfl ?hy0q1 ?rest0q1
        case hy0q1 => (intro wS hSw; (try dsimp only at hSw); go_simp; try with_reducible rfl)
        try simp only [Act.put, List.setIfInBounds_toArray, List.set_cons_zero, List.set_cons_succ]
        refine held_quiet 1 (v := ?v1q2) rfl (by kernel_rfl) (fun _ _ _ h => h) (by assumption) rfl ?hy1q2 ?rest1q2
        case hy1q2 => (intro wS hSw; (try dsimp only at hSw); go_simp; try with_reducible rfl)
        try simp only [Act.put, List.setIfInBounds_toArray, List.set_cons_zero, List.set_cons_succ]
        refine held_load 2 rfl (by kernel_rfl) lS (fun _ _ _ h => h) hS rfl 32 _ rfl wr.heap.size 2 rfl _ (fun W h => h) Tryz.underlying32 rfl HLS.out.info ?_
        try simp only [Act.put, List.setIfInBounds_toArray, List.set_cons_zero, List.set_cons_succ]
        refine held_quiet 4 (v := ?v4q3) rfl (by kernel_rfl) (fun _ _ _ h => h) (by assumption) rfl ?hy4q3 ?rest4q3
        case hy4q3 => (intro wS hSw; (try dsimp only at hSw); go_simp; try with_reducible rfl)
        try simp only [Act.put, List.setIfInBounds_toArray, List.set_cons_zero, List.set_cons_succ]
        refine held_quiet 5 (v := ?v5q4) rfl (by kernel_rfl) (fun _ _ _ h => h) (by assumption) rfl ?hy5q4 ?rest5q4
        case hy5q4 => (intro wS hSw; (try dsimp only at hSw); go_simp; try with_reducible rfl)
        try simp only [Act.put, List.setIfInBounds_toArray, List.set_cons_zero, List.set_cons_succ]
        refine held_load 6 rfl (by kernel_rfl) lS (fun _ _ _ h => h) hS rfl 32 _ rfl wr.heap.size 2 rfl _ (fun W h => h) Tryz.underlying32 rfl HLS.out.info ?_
        try simp only [Act.put, List.setIfInBounds_toArray, List.set_cons_zero, List.set_cons_succ]
        refine held_one 3 rfl (by kernel_rfl) ?_
        go_wp2_with (go_at_call 8; refine hsv.mono ?_; rintro e W2 ⟨rfl, hh2, ht2⟩)
        have A2 : Hid (ActIn W2 wr.heap.size 0 i lS t) := AD.out.turn (Nat.le_refl _) ht2
        have B2 : Hid (Below w.heap.size w W2) := (below2 HB.out BW.out).drew.trans (Turn.low ht2 (Nat.le_trans HWB.out BW.out.size))
        have hsv2 := (show Calls _ _ #[_, .agg lS.toArray] _ _ from HS.out.2 ▸ HER.out ▸ hh2.save s HS.out.1 HI.out (by omega) HDZ.out)
        clear ht2 hh2 hsv
        try refine ⟨A2.out.s, ?_⟩
        refine held_one 7 rfl (by kernel_rfl) ?_
        go_wp2_with (go_at_call 9; refine hsv2.mono ?_; rintro e W3 ⟨rfl, tz, ht3⟩)
        have A3 : Hid (ActIn W3 wr.heap.size 0 i lS t) := A2.out.turn (Nat.le_refl _) ht3
        have TZ : Hid (Two W3 w.heap.size p rp DZ) := tz
        have BZ : Hid (Below w.heap.size w W3) := B2.out.trans (Turn.low ht3 B2.out.size)
        clear tz ht3 hsv2
        have hS : (fun W : World => W.rangeAt wr.heap.size 2 lS) W3 := A3.out.s
        try refine ⟨hS, ?_⟩
        refine held_quiet 8 (v := ?v8q5) rfl (by kernel_rfl) (fun _ _ _ h => h) (by assumption) rfl ?hy8q5 ?rest8q5
        case hy8q5 => (intro wS hSw; (try dsimp only at hSw); go_simp; try with_reducible rfl)
        try simp only [Act.put, List.setIfInBounds_toArray, List.set_cons_zero, List.set_cons_succ]
        refine held_quiet 9 (v := ?v9q6) rfl (by kernel_rfl) (fun _ _ _ h => h) (by assumption) rfl ?hy9q6 ?rest9q6
        case hy9q6 => (intro wS hSw; (try dsimp only at hSw); go_simp; try with_reducible rfl)
        try simp only [Act.put, List.setIfInBounds_toArray, List.set_cons_zero, List.set_cons_succ]
        refine held_done (by kernel_rfl) ?_
        have hrr : ((r : Int) == r) = true := beq_self_eq_true _
        clear hS
        go_wp2_with fail
        refine (TZ.out.same IZ.out).mono ?_
        rintro e w9 ⟨rfl, b9⟩
        have TY : Hid (Two w9 w.heap.size p rp DZ) := TZ.out.below b9
        have BY : Hid (Below w.heap.size w w9) := below2 BZ.out b9
        clear b9
        go_wp2
        go_roundg (n - (k + 1))
        case measure => omega
        case rel => exact ⟨k + 1, DZ, by omega, rfl, by go_num, TY.out, IZ.out, BY.out⟩
      by_cases hκ1 : κ = 1
      · have AWk : Hid (ActIn W1 wr.heap.size 1 i lS t) := by rw [← hκ1]; exact AW.out
        have ck := AWk.out.k
        clear AW hκ1 hκ0
        have hsv : Calls _ _ #[_, .agg lS.toArray] _ _ := HS.out.2 ▸ HT.out.next BW.out s HS.out.1 HI.out (by omega)
        obtain ⟨DZ, eDZ⟩ : ∃ DZ, DZ = D.saveD (D.bump s) := ⟨_, rfl⟩
        have IZ : Hid (Inv DZ (k + 1)) := by rw [eDZ]; exact HI.out.save _
        have HDZ : Hid (DZ = D.saveD (D.bump s)) := eDZ
        obtain ⟨r, er⟩ : ∃ r, r = D.saveE (D.bump s) := ⟨_, rfl⟩
        have HER : Hid (r = D.saveE (D.bump s)) := er
        obtain ⟨ns, ens⟩ : ∃ ns, ns = D.nextS s := ⟨_, rfl⟩
        have HNS : Hid (ns = D.nextS s) := ens
        obtain ⟨l2, el2, L2⟩ := sup_letter ns
        have HEL2 : Hid (supL ns = l2) := el2
        have HL2 : Hid _ := L2
        have HL2r : Hid (RupL l2 ns) := by unfold Hid; rw [← el2]; exact ⟨rfl, rfl, supL_one _, rfl, info_rsup, info_rsup⟩
        have hEq := fun W => eqRupL (l := l2) (m := l2) (s := ns) (t := ns) (by rw [← el2]; rfl) (by rw [← el2]; rfl) W
        rw [decide_eq_true rfl] at hEq
        rw [← eDZ, ← er, ← ens, el2] at hsv
        have HEQ : Hid _ := hEq
        have hrr : ((r : Int) == r) = true := beq_self_eq_true _
        clear eDZ er ens el2 L2 hEq
        go_wp2_with (first
          | (refine wpList_load_mid rfl 32 _ rfl wr.heap.size 2 rfl lS _ AWk.out.s Tryz.underlying32 rfl HLS.out.info ?_))
        refine hsv.mono ?_
        rintro e W2 ⟨rfl, hh2, ht2⟩
        have A2 : Hid (ActIn W2 wr.heap.size 1 i lS t) := AWk.out.turn (Nat.le_refl _) ht2
        have B2 : Hid (Below w.heap.size w W2) := (below2 HB.out BW.out).trans (Turn.low ht2 (Nat.le_trans HWB.out BW.out.size))
        have H2 : Hid (Half wr W2 w.heap.size p rp D DZ) := hh2
        have S2 : Hid (wr.heap.size ≤ W2.heap.size) := Nat.le_trans BW.out.size ht2.size
        have T2 : Hid (∀ C : Array Value, C.size = 10 → (W2.alloc (.cells C 32)).there W2.heap.size 0 l2.toArray.size) := fun C hC => by rw [HL2.out.size]; exact there_new W2 C _ 10 (by omega)
        clear hsv hh2 ht2 ck
        go_upto_region 20 with (first
          | (refine wpList_store_mid rfl 32 _ _ rfl W2.heap.size 0 l2.toArray rfl rfl (T2.out _ rfl) HL2.out.infoA HL2.out.one ?_; change wpList _ _ _ _ _ (World.setCells _ _ _ l2)))
        obtain ⟨W3, hW3⟩ : ∃ W3, W3 = (W2.alloc (.cells (supL Sup.none).toArray 32)).setCells W2.heap.size 0 l2 := ⟨_, rfl⟩
        change Code.wp _ _ _ _ ((W2.alloc (.cells (supL Sup.none).toArray 32)).setCells W2.heap.size 0 l2)
        have hb3 : Below W2.heap.size W2 ((W2.alloc (.cells (supL Sup.none).toArray 32)).setCells W2.heap.size 0 l2) := ((Below.refl _ W2).alloc (Nat.le_refl _) _).trans (below_setCells (Nat.le_refl _) _)
        have hr3 := World.rangeAt_setCells_same (W2.alloc (.cells (supL Sup.none).toArray 32)) W2.heap.size 0 l2 (T2.out _ rfl)
        have hs3 : ((W2.alloc (.cells (supL Sup.none).toArray 32)).setCells W2.heap.size 0 l2).heap.size = W2.heap.size + 1 := by rw [size_setCells, World.size_alloc]
        rw [← hW3] at hb3 hr3 hs3 ⊢
        have R3 : Hid (W3.rangeAt W2.heap.size 0 l2) := hr3
        have S3 : Hid (W2.heap.size < W3.heap.size) := by show W2.heap.size < W3.heap.size; rw [hs3]; exact Nat.lt_succ_self _
        have A3 : Hid (ActIn W3 wr.heap.size 1 i lS t) := A2.out.below hb3
        have B3 : Hid (Below w.heap.size w W3) := below2 B2.out hb3
        have hsv2 : Calls _ _ #[_, .agg lS.toArray] _ _ := HS.out.2 ▸ (H2.out.below hb3).next s HS.out.1 HI.out (by omega) HDZ.out
        rw [← HER.out, ← HNS.out, HEL2.out] at hsv2
        clear hW3 hb3 hr3 hs3 T2
        go_wp2_with (first
          | (refine wpList_load_mid rfl 32 _ rfl wr.heap.size 2 rfl lS _ A3.out.s Tryz.underlying32 rfl HLS.out.info ?_))
        refine hsv2.mono ?_
        rintro e W4 ⟨rfl, tz, ht4⟩
        have R4 : Hid (W4.rangeAt W2.heap.size 0 l2) := range_only R3.out S3.out ht4 (fun x => by have := x.2; have := S2.out; omega)
        have T4 : Hid (Two W4 w.heap.size p rp DZ) := tz
        have B4 : Hid (Below w.heap.size w W4) := B3.out.trans (Turn.low ht4 B3.out.size)
        have S4 : Hid (W2.heap.size < W4.heap.size) := Nat.lt_of_lt_of_le S3.out ht4.size
        have TN4 : Hid (∀ C : Array Value, C.size = 10 → (W4.alloc (.cells C 39)).there W4.heap.size 0 l2.toArray.size) := fun C hC => by rw [HL2.out.size]; exact there_new W4 C _ 10 (by omega)
        clear hsv2 tz ht4
        go_upto_region 21 with (first
          | (refine wpList_store_mid rfl 39 _ _ rfl W4.heap.size 0 l2.toArray rfl rfl (TN4.out _ rfl) HL2r.out.infoA HL2r.out.one ?_; change wpList _ _ _ _ _ (World.setCells _ _ _ l2)))
        obtain ⟨W5, hW5⟩ : ∃ W5, W5 = (W4.alloc (.cells (supL Sup.none).toArray 39)).setCells W4.heap.size 0 l2 := ⟨_, rfl⟩
        change Code.wp _ _ _ _ ((W4.alloc (.cells (supL Sup.none).toArray 39)).setCells W4.heap.size 0 l2)
        have hb5 : Below W4.heap.size W4 ((W4.alloc (.cells (supL Sup.none).toArray 39)).setCells W4.heap.size 0 l2) := ((Below.refl _ W4).alloc (Nat.le_refl _) _).trans (below_setCells (Nat.le_refl _) _)
        have hr5 := World.rangeAt_setCells_same (W4.alloc (.cells (supL Sup.none).toArray 39)) W4.heap.size 0 l2 (TN4.out _ rfl)
        rw [← hW5] at hb5 hr5 ⊢
        have R5a : Hid (W5.rangeAt W2.heap.size 0 l2) := range_below R4.out S4.out hb5
        have R5b : Hid (W5.rangeAt W4.heap.size 0 l2) := hr5
        have TZ : Hid (Two W5 w.heap.size p rp DZ) := T4.out.below hb5
        have BZ : Hid (Below w.heap.size w W5) := below2 B4.out hb5
        have hEq := HEQ.out
        clear hW5 hb5 hr5 TN4
        go_wp2_with (first
          | (refine wpList_load_mid rfl 32 _ rfl W2.heap.size 0 rfl l2 _ R5a.out Tryz.underlying32 rfl HL2.out.info ?_)
          | (refine wpList_load_mid rfl 39 _ rfl W4.heap.size 0 rfl l2 _ R5b.out Tryz.underlying39 rfl HL2r.out.info ?_))
        refine (TZ.out.same IZ.out).mono ?_
        rintro e w9 ⟨rfl, b9⟩
        have TY : Hid (Two w9 w.heap.size p rp DZ) := TZ.out.below b9
        have BY : Hid (Below w.heap.size w w9) := below2 BZ.out b9
        clear b9
        go_wp2
        go_roundg (n - (k + 1))
        case measure => omega
        case rel => exact ⟨k + 1, DZ, by omega, rfl, by go_num, TY.out, IZ.out, BY.out⟩
      by_cases hκ3 : κ = 3
      · have AWk : Hid (ActIn W1 wr.heap.size 3 i lS t) := by rw [← hκ3]; exact AW.out
        have ck := AWk.out.k
        clear AW hκ3 hκ0 hκ1
        have hS := HS.out
        have hsv := HT.out.write BW.out.drew i q HQ.out HI.out (by omega)
        obtain ⟨DZ, eDZ⟩ : ∃ DZ, DZ = wrD D i q.data.toList := ⟨_, rfl⟩
        have IZ : Hid (Inv DZ (k + 1)) := by rw [eDZ]; exact HI.out.wrD i q.data.toList
        have HDZ : Hid (DZ = wrD D i q.data.toList) := eDZ
        obtain ⟨r, er⟩ : ∃ r, r = D.reachE i := ⟨_, rfl⟩
        have HER : Hid (r = D.reachE i) := er
        rw [← eDZ, ← er] at hsv
        clear hS eDZ er
        go_wp2_with fail
        refine wp_region_held (S := fun W => W.cell? ⟨wr.heap.size, 1, none⟩ = some (.int .i64 i)) HMX.out ?_
        have AD : Hid (ActIn W1.drew wr.heap.size 3 i lS t) := AWk.out.below (Below.refl _ _).drew
        have hS : (fun W : World => W.cell? ⟨wr.heap.size, 1, none⟩ = some (.int .i64 i)) W1.drew := AD.out.i
        change wpAnyH _ _ _ _ _ _ _ _ W1.drew
        refine held_quiet 0 (v := ?v0q7) rfl (by kernel_rfl) (fun _ _ _ h => h) (by assumption) rfl ?hy0q7 ?rest0q7
        case hy0q7 => (intro wS hSw; (try dsimp only at hSw); go_simp; try with_reducible rfl)
        try simp only [Act.put, List.setIfInBounds_toArray, List.set_cons_zero, List.set_cons_succ]
        refine held_quiet 1 (v := ?v1q8) rfl (by kernel_rfl) (fun _ _ _ h => h) (by assumption) rfl ?hy1q8 ?rest1q8
        case hy1q8 => (intro wS hSw; (try dsimp only at hSw); go_simp; try with_reducible rfl)
        try simp only [Act.put, List.setIfInBounds_toArray, List.set_cons_zero, List.set_cons_succ]
        refine held_quiet 2 (v := ?v2q9) rfl (by kernel_rfl) (fun _ _ _ h => h) (by assumption) rfl ?hy2q9 ?rest2q9
        case hy2q9 => (intro wS hSw; (try dsimp only at hSw); go_simp; try with_reducible rfl)
        try simp only [Act.put, List.setIfInBounds_toArray, List.set_cons_zero, List.set_cons_succ]
        refine held_quiet 3 (v := ?v3q10) rfl (by kernel_rfl) (fun _ _ _ h => h) (by assumption) rfl ?hy3q10 ?rest3q10
        case hy3q10 => (intro wS hSw; (try dsimp only at hSw); go_simp; try with_reducible rfl)
        try simp only [Act.put, List.setIfInBounds_toArray, List.set_cons_zero, List.set_cons_succ]
        refine held_quiet 5 (v := ?v5q11) rfl (by kernel_rfl) (fun _ _ _ h => h) (by assumption) rfl ?hy5q11 ?rest5q11
        case hy5q11 => (intro wS hSw; (try dsimp only at hSw); go_simp; try with_reducible rfl)
        try simp only [Act.put, List.setIfInBounds_toArray, List.set_cons_zero, List.set_cons_succ]
        refine held_quiet 6 (v := ?v6q12) rfl (by kernel_rfl) (fun _ _ _ h => h) (by assumption) rfl ?hy6q12 ?rest6q12
        case hy6q12 => (intro wS hSw; (try dsimp only at hSw); go_simp; try with_reducible rfl)
        try simp only [Act.put, List.setIfInBounds_toArray, List.set_cons_zero, List.set_cons_succ]
        refine held_quiet 7 (v := ?v7q13) rfl (by kernel_rfl) (fun _ _ _ h => h) (by assumption) rfl ?hy7q13 ?rest7q13
        case hy7q13 => (intro wS hSw; (try dsimp only at hSw); go_simp; try with_reducible rfl)
        try simp only [Act.put, List.setIfInBounds_toArray, List.set_cons_zero, List.set_cons_succ]
        refine held_quiet 8 (v := ?v8q14) rfl (by kernel_rfl) (fun _ _ _ h => h) (by assumption) rfl ?hy8q14 ?rest8q14
        case hy8q14 => (intro wS hSw; (try dsimp only at hSw); go_simp; try with_reducible rfl)
        try simp only [Act.put, List.setIfInBounds_toArray, List.set_cons_zero, List.set_cons_succ]
        refine held_one 4 rfl (by kernel_rfl) ?_
        go_wp2_with (go_at_call 12; refine hsv.mono ?_; rintro e W2 ⟨rfl, hh2, ht2⟩)
        have A2 : Hid (ActIn W2 wr.heap.size 3 i lS t) := AD.out.turn (Nat.le_refl _) ht2
        have B2 : Hid (Below w.heap.size w W2) := (below2 HB.out BW.out).drew.trans (Turn.low ht2 (Nat.le_trans HWB.out BW.out.size))
        have hsv2 := (HER.out ▸ hh2.write i q HQ.out HI.out (by omega) HDZ.out)
        clear ht2 hh2 hsv
        try refine ⟨A2.out.i, ?_⟩
        refine held_one 9 rfl (by kernel_rfl) ?_
        go_wp2_with (go_at_call 13; refine hsv2.mono ?_; rintro e W3 ⟨rfl, tz, ht3⟩)
        have A3 : Hid (ActIn W3 wr.heap.size 3 i lS t) := A2.out.turn (Nat.le_refl _) ht3
        have TZ : Hid (Two W3 w.heap.size p rp DZ) := tz
        have BZ : Hid (Below w.heap.size w W3) := B2.out.trans (Turn.low ht3 B2.out.size)
        clear tz ht3 hsv2
        have hS : (fun W : World => W.cell? ⟨wr.heap.size, 1, none⟩ = some (.int .i64 i)) W3 := A3.out.i
        try refine ⟨hS, ?_⟩
        refine held_quiet 10 (v := ?v10q15) rfl (by kernel_rfl) (fun _ _ _ h => h) (by assumption) rfl ?hy10q15 ?rest10q15
        case hy10q15 => (intro wS hSw; (try dsimp only at hSw); go_simp; try with_reducible rfl)
        try simp only [Act.put, List.setIfInBounds_toArray, List.set_cons_zero, List.set_cons_succ]
        refine held_quiet 11 (v := ?v11q16) rfl (by kernel_rfl) (fun _ _ _ h => h) (by assumption) rfl ?hy11q16 ?rest11q16
        case hy11q16 => (intro wS hSw; (try dsimp only at hSw); go_simp; try with_reducible rfl)
        try simp only [Act.put, List.setIfInBounds_toArray, List.set_cons_zero, List.set_cons_succ]
        refine held_done (by kernel_rfl) ?_
        have hrr : ((r : Int) == r) = true := beq_self_eq_true _
        clear hS
        go_wp2_with fail
        refine (TZ.out.same IZ.out).mono ?_
        rintro e w9 ⟨rfl, b9⟩
        have TY : Hid (Two w9 w.heap.size p rp DZ) := TZ.out.below b9
        have BY : Hid (Below w.heap.size w w9) := below2 BZ.out b9
        clear b9
        go_wp2
        go_roundg (n - (k + 1))
        case measure => omega
        case rel => exact ⟨k + 1, DZ, by omega, rfl, by go_num, TY.out, IZ.out, BY.out⟩
      by_cases hκ4 : κ = 4
      · have AWk : Hid (ActIn W1 wr.heap.size 4 i lS t) := by rw [← hκ4]; exact AW.out
        have ck := AWk.out.k
        clear AW hκ4 hκ0 hκ1 hκ3
        have hS := HS.out
        have hsv := HT.out.spoil BW.out.drew i
        obtain ⟨DZ, eDZ⟩ : ∃ DZ, DZ = spD D i := ⟨_, rfl⟩
        have IZ : Hid (Inv DZ (k + 1)) := by rw [eDZ]; exact HI.out.spD i
        have HDZ : Hid (DZ = spD D i) := eDZ
        obtain ⟨r, er⟩ : ∃ r, r = D.reachE i := ⟨_, rfl⟩
        have HER : Hid (r = D.reachE i) := er
        rw [← eDZ, ← er] at hsv
        clear hS eDZ er
        go_wp2_with fail
        refine wp_region_held (S := fun W => W.cell? ⟨wr.heap.size, 1, none⟩ = some (.int .i64 i)) HMX.out ?_
        have AD : Hid (ActIn W1.drew wr.heap.size 4 i lS t) := AWk.out.below (Below.refl _ _).drew
        have hS : (fun W : World => W.cell? ⟨wr.heap.size, 1, none⟩ = some (.int .i64 i)) W1.drew := AD.out.i
        change wpAnyH _ _ _ _ _ _ _ _ W1.drew
        refine held_quiet 0 (v := ?v0q17) rfl (by kernel_rfl) (fun _ _ _ h => h) (by assumption) rfl ?hy0q17 ?rest0q17
        case hy0q17 => (intro wS hSw; (try dsimp only at hSw); go_simp; try with_reducible rfl)
        try simp only [Act.put, List.setIfInBounds_toArray, List.set_cons_zero, List.set_cons_succ]
        refine held_quiet 1 (v := ?v1q18) rfl (by kernel_rfl) (fun _ _ _ h => h) (by assumption) rfl ?hy1q18 ?rest1q18
        case hy1q18 => (intro wS hSw; (try dsimp only at hSw); go_simp; try with_reducible rfl)
        try simp only [Act.put, List.setIfInBounds_toArray, List.set_cons_zero, List.set_cons_succ]
        refine held_quiet 2 (v := ?v2q19) rfl (by kernel_rfl) (fun _ _ _ h => h) (by assumption) rfl ?hy2q19 ?rest2q19
        case hy2q19 => (intro wS hSw; (try dsimp only at hSw); go_simp; try with_reducible rfl)
        try simp only [Act.put, List.setIfInBounds_toArray, List.set_cons_zero, List.set_cons_succ]
        refine held_quiet 4 (v := ?v4q20) rfl (by kernel_rfl) (fun _ _ _ h => h) (by assumption) rfl ?hy4q20 ?rest4q20
        case hy4q20 => (intro wS hSw; (try dsimp only at hSw); go_simp; try with_reducible rfl)
        try simp only [Act.put, List.setIfInBounds_toArray, List.set_cons_zero, List.set_cons_succ]
        refine held_quiet 5 (v := ?v5q21) rfl (by kernel_rfl) (fun _ _ _ h => h) (by assumption) rfl ?hy5q21 ?rest5q21
        case hy5q21 => (intro wS hSw; (try dsimp only at hSw); go_simp; try with_reducible rfl)
        try simp only [Act.put, List.setIfInBounds_toArray, List.set_cons_zero, List.set_cons_succ]
        refine held_quiet 6 (v := ?v6q22) rfl (by kernel_rfl) (fun _ _ _ h => h) (by assumption) rfl ?hy6q22 ?rest6q22
        case hy6q22 => (intro wS hSw; (try dsimp only at hSw); go_simp; try with_reducible rfl)
        try simp only [Act.put, List.setIfInBounds_toArray, List.set_cons_zero, List.set_cons_succ]
        refine held_one 3 rfl (by kernel_rfl) ?_
        go_wp2_with (go_at_call 14; refine hsv.mono ?_; rintro e W2 ⟨rfl, hh2, ht2⟩)
        have A2 : Hid (ActIn W2 wr.heap.size 4 i lS t) := AD.out.turn (Nat.le_refl _) ht2
        have B2 : Hid (Below w.heap.size w W2) := (below2 HB.out BW.out).drew.trans (Turn.low ht2 (Nat.le_trans HWB.out BW.out.size))
        have hsv2 := (HER.out ▸ hh2.spoil i HI.out HDZ.out)
        clear ht2 hh2 hsv
        try refine ⟨A2.out.i, ?_⟩
        refine held_one 7 rfl (by kernel_rfl) ?_
        go_wp2_with (go_at_call 15; refine hsv2.mono ?_; rintro e W3 ⟨rfl, tz, ht3⟩)
        have A3 : Hid (ActIn W3 wr.heap.size 4 i lS t) := A2.out.turn (Nat.le_refl _) ht3
        have TZ : Hid (Two W3 w.heap.size p rp DZ) := tz
        have BZ : Hid (Below w.heap.size w W3) := B2.out.trans (Turn.low ht3 B2.out.size)
        clear tz ht3 hsv2
        have hS : (fun W : World => W.cell? ⟨wr.heap.size, 1, none⟩ = some (.int .i64 i)) W3 := A3.out.i
        try refine ⟨hS, ?_⟩
        refine held_quiet 8 (v := ?v8q23) rfl (by kernel_rfl) (fun _ _ _ h => h) (by assumption) rfl ?hy8q23 ?rest8q23
        case hy8q23 => (intro wS hSw; (try dsimp only at hSw); go_simp; try with_reducible rfl)
        try simp only [Act.put, List.setIfInBounds_toArray, List.set_cons_zero, List.set_cons_succ]
        refine held_quiet 9 (v := ?v9q24) rfl (by kernel_rfl) (fun _ _ _ h => h) (by assumption) rfl ?hy9q24 ?rest9q24
        case hy9q24 => (intro wS hSw; (try dsimp only at hSw); go_simp; try with_reducible rfl)
        try simp only [Act.put, List.setIfInBounds_toArray, List.set_cons_zero, List.set_cons_succ]
        refine held_done (by kernel_rfl) ?_
        have hrr : ((r : Int) == r) = true := beq_self_eq_true _
        clear hS
        go_wp2_with fail
        refine (TZ.out.same IZ.out).mono ?_
        rintro e w9 ⟨rfl, b9⟩
        have TY : Hid (Two w9 w.heap.size p rp DZ) := TZ.out.below b9
        have BY : Hid (Below w.heap.size w w9) := below2 BZ.out b9
        clear b9
        go_wp2
        go_roundg (n - (k + 1))
        case measure => omega
        case rel => exact ⟨k + 1, DZ, by omega, rfl, by go_num, TY.out, IZ.out, BY.out⟩
      by_cases hκ5 : κ = 5
      · have AWk : Hid (ActIn W1 wr.heap.size 5 i lS t) := by rw [← hκ5]; exact AW.out
        have ck := AWk.out.k
        clear AW hκ5 hκ0 hκ1 hκ3 hκ4
        obtain ⟨x, hx, hx8⟩ : ∃ x : Nat, IntKind.u8.wrap i = (x : Int) ∧ x < 256 := ⟨(i % 256).toNat, by rw [show IntKind.u8.wrap i = i % 256 by simp [IntKind.wrap, IntKind.bits, IntKind.signed]]; omega, by omega⟩
        have HX8 : Hid (x < 256) := hx8
        obtain ⟨DZ, eDZ⟩ : ∃ DZ, DZ = D.settle (Dr.keeps [x]) := ⟨_, rfl⟩
        have IZ : Hid (Inv DZ (k + 1)) := by rw [eDZ]; exact HI.out.settle _
        have HDZ : Hid (DZ = D.settle (Dr.keeps [x])) := eDZ
        have hb1 : Below W1.heap.size W1 (W1.alloc (.cells #[.int .u8 (x : Int)] 5)) := (Below.refl _ _).alloc (Nat.le_refl _) _
        have hc1 : (W1.alloc (.cells #[.int .u8 (x : Int)] 5)).cell? ⟨W1.heap.size, 0, none⟩ = some (.int .u8 (x : Int)) := range_new W1 5 [.int .u8 (x : Int)] 0 _ rfl
        have hsv := HT.out.crash (below2 BW.out hb1) HI.out (by omega) x hx8 W1.heap.size hc1 BW.out.size
        rw [← eDZ] at hsv
        have A1 : Hid (ActIn (W1.alloc (.cells #[.int .u8 (x : Int)] 5)) wr.heap.size 5 i lS t) := AWk.out.below hb1
        have B1 : Hid (Below w.heap.size w (W1.alloc (.cells #[.int .u8 (x : Int)] 5))) := below2 (below2 HB.out BW.out) hb1
        have ci := AWk.out.i
        clear eDZ hb1 hc1 hx8
        go_wp2_with fail
        refine hsv.mono ?_
        rintro e W2 ⟨rfl, hh2, ht2⟩
        have A2 : Hid (ActIn W2 wr.heap.size 5 i lS t) := A1.out.turn (Nat.le_refl _) ht2
        have B2 : Hid (Below w.heap.size w W2) := B1.out.trans (Turn.low ht2 B1.out.size)
        have hb2 : Below W2.heap.size W2 (W2.alloc (.cells #[.int .u8 (x : Int)] 5)) := (Below.refl _ _).alloc (Nat.le_refl _) _
        have hc2 : (W2.alloc (.cells #[.int .u8 (x : Int)] 5)).cell? ⟨W2.heap.size, 0, none⟩ = some (.int .u8 (x : Int)) := range_new W2 5 [.int .u8 (x : Int)] 0 _ rfl
        have hs2 : wr.heap.size ≤ W2.heap.size := Nat.le_trans (Nat.le_trans BW.out.size (by rw [World.size_alloc]; exact Nat.le_succ _)) ht2.size
        have hsv2 := (hh2.below hb2).crash HI.out (by omega) x HX8.out W2.heap.size hc2 hs2 (by rw [World.size_alloc]; exact Nat.lt_succ_self _) HDZ.out
        have B2b : Hid (Below w.heap.size w (W2.alloc (.cells #[.int .u8 (x : Int)] 5))) := below2 B2.out hb2
        have ci2 := A2.out.i
        clear hsv hh2 ht2 hb2 hc2 hs2 ci
        go_wp2_with fail
        refine hsv2.mono ?_
        rintro e W3 ⟨rfl, tz, ht3⟩
        have TZ : Hid (Two W3 w.heap.size p rp DZ) := tz
        have BZ : Hid (Below w.heap.size w W3) := B2b.out.trans (Turn.low ht3 B2b.out.size)
        clear hsv2 tz ht3 ci2
        go_wp2_with fail
        refine (TZ.out.same IZ.out).mono ?_
        rintro e w9 ⟨rfl, b9⟩
        have TY : Hid (Two w9 w.heap.size p rp DZ) := TZ.out.below b9
        have BY : Hid (Below w.heap.size w w9) := below2 BZ.out b9
        clear b9
        go_wp2
        go_roundg (n - (k + 1))
        case measure => omega
        case rel => exact ⟨k + 1, DZ, by omega, rfl, by go_num, TY.out, IZ.out, BY.out⟩
      by_cases hκ6 : κ = 6
      · have AWk : Hid (ActIn W1 wr.heap.size 6 i lS t) := by rw [← hκ6]; exact AW.out
        have ck := AWk.out.k
        clear AW hκ6 hκ0 hκ1 hκ3 hκ4 hκ5
        have hsv := HT.out.die BW.out
        obtain ⟨DZ, eDZ⟩ : ∃ DZ, DZ = D.die := ⟨_, rfl⟩
        have IZ : Hid (Inv DZ (k + 1)) := by rw [eDZ]; exact HI.out.die
        have HDZ : Hid (DZ = D.die) := eDZ
        clear eDZ
        go_wp2_with fail
        refine hsv.mono ?_
        rintro e W2 ⟨rfl, hh2, ht2⟩
        obtain ⟨t1, t2, ⟨v3, c3⟩, f3⟩ := hh2.gone
        have B2 : Below w.heap.size w W2 := (below2 HB.out BW.out).trans (Turn.low ht2 (Nat.le_trans HWB.out BW.out.size))
        have TZ : Hid (Two (W2.setCell ⟨rp, 3, none⟩ (.bool true)) w.heap.size p rp DZ) := by rw [HDZ.out]; exact t1
        have BZ : Hid (Below w.heap.size w (W2.setCell ⟨rp, 3, none⟩ (.bool true))) := B2.trans (Turn.low t2 B2.size)
        clear hsv hh2 ht2 t1 t2 B2
        go_wp2_with fail
        refine (TZ.out.same IZ.out).mono ?_
        rintro e w9 ⟨rfl, b9⟩
        have TY : Hid (Two w9 w.heap.size p rp DZ) := TZ.out.below b9
        have BY : Hid (Below w.heap.size w w9) := below2 BZ.out b9
        clear b9
        go_wp2
        go_roundg (n - (k + 1))
        case measure => omega
        case rel => exact ⟨k + 1, DZ, by omega, rfl, by go_num, TY.out, IZ.out, BY.out⟩
      have h0 : (κ == 0) = false := by rw [beq_eq_false_iff_ne]; exact hκ0
      have h1 : (κ == 1) = false := by rw [beq_eq_false_iff_ne]; exact hκ1
      have h3 : (κ == 3) = false := by rw [beq_eq_false_iff_ne]; exact hκ3
      have h4 : (κ == 4) = false := by rw [beq_eq_false_iff_ne]; exact hκ4
      have h5 : (κ == 5) = false := by rw [beq_eq_false_iff_ne]; exact hκ5
      have h6 : (κ == 6) = false := by rw [beq_eq_false_iff_ne]; exact hκ6
      have ck := AW.out.k
      obtain ⟨DZ, eDZ⟩ : ∃ DZ, DZ = D := ⟨_, rfl⟩
      have TZ : Hid (Two W1 w.heap.size p rp DZ) := by rw [eDZ]; exact HT.out.below BW.out
      have IZ : Hid (Inv DZ (k + 1)) := by rw [eDZ]; exact HI.out.up
      have BZ : Hid (Below w.heap.size w W1) := below2 HB.out BW.out
      clear hκ0 hκ1 hκ3 hκ4 hκ5 hκ6 eDZ
      go_wp2_with fail
      refine (TZ.out.same IZ.out).mono ?_
      rintro e w9 ⟨rfl, b9⟩
      have TY : Hid (Two w9 w.heap.size p rp DZ) := TZ.out.below b9
      have BY : Hid (Below w.heap.size w w9) := below2 BZ.out b9
      clear b9
      go_wp2
      go_roundg (n - (k + 1))
      case measure => omega
      case rel => exact ⟨k + 1, DZ, by omega, rfl, by go_num, TY.out, IZ.out, BY.out⟩
theorem walk (w : World) (a0 : Option Addr) (len0 cap0 : Nat) (f0 : Nat → Act9) (m0 : len0 ≤ maxLen) (w0 : 0 < len0 → ∃ b off, a0 = some ⟨b, off, none⟩ ∧ ∀ j, j < len0 → ActAt9 w b (off + j * 13) (f0 j)) :
    Calls Tryz.prog 3 #[.slice a0 len0 cap0] w fun e w' => e = .returned (.bool true) ∧ Below w.heap.size w w' := by
  by_cases h : 100 < len0
  · exact walk_long w a0 cap0 len0 m0 h
  · by_cases h0 : 0 < len0
    · obtain ⟨b, off, rfl, hA⟩ := w0 h0
      exact walk_some w b off cap0 len0 (by omega) h0 f0 hA
    · have e : len0 = 0 := by omega
      subst e
      exact walk_nil w a0 cap0

theorem own : ownKnob Tryz.prog.godebug = none := by kernel_rfl
theorem laidOut : laidOutB Tryz.prog = true := by kernel_rfl
set_option linter.unusedVariables false in
set_option maxRecDepth 100000 in
theorem lifted (os : Os) (started : os.Started) (H : Type) (enc : TypeId × Value → H) :
    ReturnsInHanded {} Tryz.checked os 3 .any (Rows.slotsActsSpec.pre6 enc Tryz.prog Tryz.f3 Rows.slotsActsRow.domain false) (Rows.slotsActsSpec.post enc Tryz.prog Tryz.f3 false true false false) := by
  refine returnsInHanded_of_change (C := Tryz.checked) own started (by kernel_rfl) Tryz.func3
    (ChangeSpec.witness6 (enc := enc) (C := Tryz.checked) false ⟨#[], #[.slice none 0 0], []⟩ 8 (by kernel_rfl) (by kernel_rfl) (by kernel_rfl) (by kernel_rfl)) ?_
  intro W base args ds gs before hval0 hW hcnd _
  have hval : ∀ (j : Nat) t v, Tryz.f3.params[j]? = some t → args[j]? = some v → Value.okWide Tryz.prog W .any base t v := hval0
  have hW' := hW
  obtain ⟨p, q, hA0, hV, rfl, hfz, hnd⟩ := hW
  have hA : DataW.TrodAll enc Tryz.prog W 0 (fun _ => true) true Tryz.f3.params.toList args.toList ds p := hA0
  rw [Tryz.params3] at hA hval
  obtain ⟨v0, vs0, d0, ds0, p0, q0, hargs, rfl, rfl, h0, r0⟩ := trodAll_cons hA
  obtain ⟨rfl, rfl, rfl⟩ := trodAll_nil r0
  obtain rfl : args = #[v0] := by cases args; simp_all
  obtain ⟨rfl, rfl⟩ := trodVars_none hV
  obtain ⟨a0, len0, cap0, rfl⟩ := okWide_slice Tryz.underlying22 (hval 0 22 v0 rfl rfl)
  have k0 := h0
  have lt0 : ∀ x ∈ p0, x.block < W.heap.size := by obtain ⟨m, hm⟩ := k0; exact DataW.trod_lt m _ _ _ hm
  obtain ⟨f0, m0, w0⟩ : ∃ f : Nat → Act9, len0 ≤ maxLen ∧ (0 < len0 → ∃ b off, a0 = some ⟨b, off, none⟩ ∧ ∀ j, j < len0 → ActAt9 W b (off + j * 13) (f j)) := by
    obtain ⟨fuel, hf⟩ := h0
    obtain ⟨x, l, c, f, hcs, hm, hA⟩ := open_acts9 hf
    simp [Value.cells] at hcs
    obtain ⟨rfl, rfl, rfl⟩ := hcs
    exact ⟨f, hm, hA⟩
  clear hA0 hval0
  simp only [List.append_nil] at hW'
  refine (walk W a0 len0 cap0 f0 m0 w0).mono fun e W' ⟨he, hg⟩ => ?_
  subst he
  exact ⟨_, rfl, _, _, _, [], _, [], hW', trodAll_mk1 (shut_bool Tryz.underlying4 _), (trodAll_cons_mk (Below.trod laidOut (by kernel_rfl) (of_decide_eq_true (by kernel_rfl)) k0 hg lt0) trodAll_mk0), rfl, hg.frame _, fun h => by cases h⟩
/-- For every input the law returns true, and each argument reads as it did. -/
theorem proved : Rows.SlotsActsSaid :=
  OpenClaim.holds_of_wide 3 Tryz.f3 rfl rfl rfl rfl rfl rfl rfl ⟨rfl, rfl, rfl, rfl, rfl⟩ rfl rfl rfl rfl rfl (by kernel_rfl) Tryz.func3 (by kernel_rfl)
    (of_decide_eq_true (by kernel_rfl)) (by unfold Func.isWrapper; first | (rw [if_pos (by decide +kernel)]; kernel_rfl) | (rw [if_neg (by decide +kernel)]; exact ⟨rfl, rfl⟩))
    (fun os started H enc _ => lifted os started H enc)
end Go.Proofs.YtgkhnfchohcjeaaGreat.slotsActs
