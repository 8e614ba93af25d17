/- For all numbers and any two texts the law SlotsNone returns true: a drive both of whose slots hold no superblock has none; what is saved then is loaded. No condition. -/
import Derived.Test.YtgkhnfchohcjeaaSlBase
import Derived.Test.YtgkhnfchohcjeaaDrvChange
import Derived.Test.YtgkhnfchohcjeaaKitSup
import Derived.Deep.Cut
import Derived.Deep.LoopGhost
import Derived.ProofKit
import Derived.OpenShut
import Derived.ShutString
namespace Go.Proofs.Ytgkhnfchohcjeaa.slotsNone
open Go.ChangeShapes Go.WideShapes Go.ChangeAt Go.RowKit
open Go.ChangeMaps (open_string shut_string)

/-- a superblock's sector begins with 'R' -/
theorem secT_head {s : Su} (h : Sup.Fit Sup.magic s) : (Sup.secT s).data.toList.head? = some 82 := by
  have ht := Sup.secT_take h
  have he : Pk.enc (Sup.nums Sup.magic s) Sup.wL = Pk.encP (Sup.nums Sup.magic s) Sup.wL Sup.wL.length 0 := by
    unfold Pk.enc
    rw [Sup.wL_ok, show ((Sup.nums Sup.magic s).length == Sup.wL.length) = true from rfl, h.fitAll]; rfl
  have hh : (Pk.enc (Sup.nums Sup.magic s) Sup.wL).head? = some 82 := by
    rw [he]
    unfold Pk.encP
    rw [show List.range Sup.wL.length = 0 :: [1, 2, 3, 4, 5, 6, 7, 8, 9, 10] from by decide, List.flatMap_cons, show Pk.bytesOf ((Sup.nums Sup.magic s).getD 0 0) (Pk.wd Sup.wL 0) = [82, 86, 84, 49] from by show Pk.bytesOf Sup.magic 4 = _; decide]
    rfl
  rw [← ht] at hh
  cases hl : (Sup.secT s).data.toList with
  | nil => rw [hl] at hh; cases hh
  | cons a l => rw [hl] at hh; exact hh
theorem bad_head {b : ByteArray} (hs : b.size = 64) (hh : b.data.toList.head? = some 122) : Sup.decE b ≠ 0 := by
  intro h0
  unfold Sup.decE at h0
  rw [if_neg (by rw [hs]; decide)] at h0
  cases ho : Crc.opens b.data.toList
  · rw [ho] at h0; exact absurd h0 (show (80 : Int) ≠ 0 by decide)
  · rw [ho, cond_true] at h0
    by_cases hf : Sup.first b = Sup.magic
    · rw [if_neg (fun x => x hf)] at h0
      cases hx : (Sup.mayB (Sup.told b) && decide (Sup.secT (Sup.told b) = b))
      · rw [hx] at h0; exact absurd h0 (show (1 : Int) ≠ 0 by decide)
      · rw [Bool.and_eq_true, decide_eq_true_iff] at hx
        have hF := Sup.told_fit b hs
        rw [hf] at hF
        have := secT_head hF
        rw [hx.2, hh] at this
        cases this
    · rw [if_pos hf] at h0; exact absurd h0 (show (81 : Int) ≠ 0 by decide)
/-- a text behind two letters, filled up -/
def junkB (s : ByteArray) : ByteArray := ((⟨#[122, 122]⟩ : ByteArray) ++ s ++ blankB).extract 0 64
theorem junk_size (s : ByteArray) : (junkB s).size = 64 := by
  unfold junkB
  rw [ByteArray.size_extract, ByteArray.size_append, blank_size]; omega
theorem junk_head (s : ByteArray) : (junkB s).data.toList.head? = some 122 := by
  unfold junkB
  rw [ByteArray.data_extract, ByteArray.data_append, ByteArray.data_append, Array.toList_extract, Array.toList_append, Array.toList_append]
  rfl
theorem Calm.change {D : Dr} {n : Nat} (h : D.Calm n) (i : Nat) (s : List UInt8) : (D.change i s).Calm n :=
  ⟨⟨h.live.dead, h.live.goes, (List.length_set ..).trans h.live.len⟩, h.spoilt, fun j => by show (if j = i then [] else D.writes j) = []; split; exact rfl; exact h.none j⟩
theorem change_same {D : Dr} {n : Nat} (h : D.Calm n) {i : Nat} (hi : i < n) (s : List UInt8) : (D.change i s).last i = s := by
  rw [(Calm.change h i s).last]
  show (D.safe.set i s).getD i [] = s
  rw [List.getD_eq_getElem?_getD, List.getElem?_set_self (by rw [h.live.len]; exact hi)]; rfl
theorem change_other {D : Dr} {n : Nat} (h : D.Calm n) {i j : Nat} (hij : j ≠ i) (s : List UInt8) : (D.change i s).last j = D.last j := by
  rw [(Calm.change h i s).last, h.last]
  show (D.safe.set i s).getD j [] = _
  rw [List.getD_eq_getElem?_getD, List.getElem?_set_ne (fun e => hij e.symm), ← List.getD_eq_getElem?_getD]
/-- both texts -/
def jj (x y : ByteArray) (k : Nat) : ByteArray := if k = 0 then x else y
theorem box_cells (w : World) (x y : ByteArray) (t : TypeId) (k : Nat) (hk : k < 2) : (w.alloc (.cells #[.string x, .string y] t)).cell? ⟨w.heap.size, k, none⟩ = some (.string (jj x y k)) := by
  rw [cell_of_row (w.alloc (.cells #[.string x, .string y] t)) w.heap.size k _ _ _ (heap_alloc_last w _)]
  have : k = 0 ∨ k = 1 := by omega
  rcases this with rfl | rfl <;> rfl

/-- ten cells, one by one: for loads that are guarded -/
theorem cells10 {w : World} {b : Nat} {l : List Value} (h : w.rangeAt b 0 l) {v0 v1 v2 v3 v4 v5 v6 v7 v8 v9 : Value} (e : l = [v0, v1, v2, v3, v4, v5, v6, v7, v8, v9]) :
    w.cell? ⟨b, 0, none⟩ = some v0 ∧ w.cell? ⟨b, 1, none⟩ = some v1 ∧ w.cell? ⟨b, 2, none⟩ = some v2 ∧ w.cell? ⟨b, 3, none⟩ = some v3 ∧ w.cell? ⟨b, 4, none⟩ = some v4 ∧ w.cell? ⟨b, 5, none⟩ = some v5 ∧ w.cell? ⟨b, 6, none⟩ = some v6 ∧ w.cell? ⟨b, 7, none⟩ = some v7 ∧ w.cell? ⟨b, 8, none⟩ = some v8 ∧ w.cell? ⟨b, 9, none⟩ = some v9 := by
  subst e
  exact ⟨h 0 _ rfl, h 1 _ rfl, h 2 _ rfl, h 3 _ rfl, h 4 _ rfl, h 5 _ rfl, h 6 _ rfl, h 7 _ rfl, h 8 _ rfl, h 9 _ rfl⟩
set_option maxRecDepth 100000 in
set_option maxHeartbeats 1000000 in
theorem walk_long (w : World) (u v r : Int) (x y : ByteArray) (hx : x.size ≤ maxLen) (hy : y.size ≤ maxLen) (h : 60 < x.size ∨ 60 < y.size) :
    Calls Try.prog 5 #[.int .u64 u, .int .u64 v, .int .u8 r, .agg #[.string x, .string y]] w fun e w' => e = .returned (.bool true) ∧ Below w.heap.size w w' := by
  unfold maxLen at hx hy
  have hb : Below w.heap.size w (w.alloc (.cells #[.string x, .string y] 48)) := (Below.refl _ _).alloc (Nat.le_refl _) _
  have HB : Hid _ := hb
  clear hb
  by_cases h1 : 60 < x.size
  · have d1 : (60 : Int) < (x.size : Int) := by omega
    clear h
    go_enter Try.func5, Try.ntmps5
    go_wp2_with fail
    refine (shown9_any _).mono ?_
    rintro e w1 ⟨rfl, b1⟩
    have B1 : Hid (Below w.heap.size w w1) := below2 HB.out b1
    clear b1
    go_wp2
    go_ret
    exact ⟨rfl, B1.out⟩
  · have d1 : ¬ (60 : Int) < (x.size : Int) := by omega
    have d2 : (60 : Int) < (y.size : Int) := by omega
    clear h h1
    go_enter Try.func5, Try.ntmps5
    go_wp2_with fail
    refine (shown9_any _).mono ?_
    rintro e w1 ⟨rfl, b1⟩
    have B1 : Hid (Below w.heap.size w w1) := below2 HB.out b1
    clear b1
    go_wp2
    go_ret
    exact ⟨rfl, B1.out⟩
set_option maxRecDepth 100000 in
set_option maxHeartbeats 4000000 in
theorem walk_short (w : World) (u v r : Nat) (hu : u < 18446744073709551616) (hv : v < 18446744073709551616) (hr : r < 256) (x y : ByteArray) (hx : x.size ≤ 60) (hy : y.size ≤ 60) :
    Calls Try.prog 5 #[.int .u64 (u : Int), .int .u64 (v : Int), .int .u8 (r : Int), .agg #[.string x, .string y]] w fun e w' => e = .returned (.bool true) ∧ Below w.heap.size w w' := by
  have HMX : Hid (Try.prog.follows .mixedOrders = true) := by show _ = _; kernel_rfl
  have d1 : ¬ (60 : Int) < (x.size : Int) := by omega
  have d2 : ¬ (60 : Int) < (y.size : Int) := by omega
  have HC : Hid _ := box_cells w x y 48
  have HZ : Hid (∀ k, (jj x y k).size ≤ 60) := fun k => by unfold jj; split <;> assumption
  have HSZ : Hid _ := World.size_alloc w (.cells #[.string x, .string y] 48)
  obtain ⟨w0, hw0⟩ : ∃ w0, w0 = w.alloc (.cells #[.string x, .string y] 48) := ⟨_, rfl⟩
  have hb0 : Below w.heap.size w w0 := by rw [hw0]; exact (Below.refl _ _).alloc (Nat.le_refl _) _
  have HB0 : Hid (Below w.heap.size w w0) := hb0
  have HC0 : Hid (∀ k, k < 2 → w0.cell? ⟨w.heap.size, k, none⟩ = some (.string (jj x y k))) := by rw [hw0]; exact HC.out
  have HS0 : Hid (w0.heap.size = w.heap.size + 1) := by rw [hw0]; exact HSZ.out
  have bs := soS_bd (u := u) (e := v) (r := r) hu hv
  have hm := soS_may u v r
  have HBL : Hid (∀ W, Calls Try.prog 17 #[] W fun e w' => e = .returned (.string blankB) ∧ w' = W) := blank_any
  have HSO : Hid (∀ W, _) := fun W => some9_any u v r hr W
  have HBS : Hid ((soS u v r).Bd ∧ Sup.may (soS u v r)) := ⟨bs, hm⟩
  clear hb0 HC HSZ bs hm hu hv hr hx hy
  go_enter Try.func5, Try.ntmps5
  go_wp2_with fail
  rw [← hw0]
  refine (shown9_any _).mono ?_
  rintro e w1 ⟨rfl, b1⟩
  have B1 : Hid (Below w0.heap.size w0 w1) := b1
  clear b1
  go_wp2_with fail
  refine (new_mine 3 w0.heap.size (by omega) (by omega) _ B1.out.size).mono ?_
  rintro e w2 ⟨p, rfl, m2, b2⟩
  have M2 : Hid (Mine w2 w0.heap.size p (Dr.fresh 3)) := m2
  have B2 : Hid (Below w0.heap.size w0 w2) := B1.out.trans b2
  clear m2 b2
  go_wp2
  go_loopg [10] 2 (fun gg i wr => ∃ (k : Nat) (D : Dr), k ≤ 2 ∧ gg = 2 - k ∧ i = .int .i64 k ∧ Mine wr w0.heap.size p D ∧ D.Calm 3 ∧ (∀ j, j < k → D.last j = (junkB (jj x y j)).data.toList) ∧ Below w0.heap.size w0 wr)
  case atStart => exact ⟨0, Dr.fresh 3, by omega, rfl, rfl, M2.out, Dr.Calm.fresh 3, fun j hj => absurd hj (Nat.not_lt_zero _), B2.out⟩
  case round =>
    obtain ⟨k, D, hk, rfl, rfl, hM, hcalm, hlast, hb⟩ := hrel
    have HM : Hid (Mine wr w0.heap.size p D) := hM
    have HCA : Hid (D.Calm 3) := hcalm
    have HLA : Hid (∀ j, j < k → D.last j = (junkB (jj x y j)).data.toList) := hlast
    have HB : Hid (Below w0.heap.size w0 wr) := hb
    clear hM hcalm hlast hb
    by_cases hlt : k < 2
    · have hc := (HB.out.cell (p := ⟨w.heap.size, k, none⟩) (by rw [HS0.out]; exact Nat.lt_succ_self _)).trans (HC0.out k hlt)
      have hki : (k : Int) < 2 := by omega
      have hz := HZ.out k
      obtain ⟨q, eq⟩ : ∃ q, q = jj x y k := ⟨_, rfl⟩
      rw [← eq] at hc hz
      have HQ : Hid (q = jj x y k) := eq
      obtain ⟨bl, ebl⟩ : ∃ bl, bl = blankB := ⟨_, rfl⟩
      have hbl := HBL.out
      rw [← ebl] at hbl
      have hbs : bl.size = 64 := by rw [ebl]; exact blank_size
      obtain ⟨t, et⟩ : ∃ t, t = junkB q := ⟨_, rfl⟩
      have ht : (((⟨#[122, 122]⟩ : ByteArray) ++ q) ++ bl).extract 0 64 = t := by rw [et, ebl]; rfl
      have hts : (((⟨#[122, 122]⟩ : ByteArray) ++ q) ++ bl).size = q.size + 66 := by
        rw [ByteArray.size_append, ByteArray.size_append, hbs]
        show 2 + q.size + 64 = _; omega
      have ht64 : t.size = 64 := by rw [et]; exact junk_size q
      have HT : Hid (t = junkB q) := et
      have hS0 : wr.drew.cell? ⟨w.heap.size, k, none⟩ = some (.string q) ∧ Below wr.heap.size wr wr.drew := ⟨hc, (Below.refl _ _).drew⟩
      have hm1 : q.size + 66 ≤ 126 := by omega
      have hm2 : ¬ 9223372036854775807 < 2 + q.size := by omega
      have hm3 : ¬ 9223372036854775807 < 2 + q.size + 64 := by omega
      have hm4 : ¬ 9223372036854775807 < q.size + 66 := by omega
      have hm5 : (64 : Int) ≤ (q.size : Int) + 66 := by omega
      clear eq ebl et
      go_wp2_with fail
      refine region_det (fun W => W.cell? ⟨w.heap.size, k, none⟩ = some (.string q) ∧ Below wr.heap.size wr W) HMX.out (by kernel_rfl) hS0 ?_
      refine det_read 0 (v := ?vx1) rfl (by kernel_rfl) rfl ?hyx1 ?restx1
      case hyx1 => (intro wS hSw; (try dsimp only at hSw); go_simp; try with_reducible rfl)
      try simp only [Act.put, List.setIfInBounds_toArray, List.set_cons_zero, List.set_cons_succ]
      refine det_read 1 (v := ?vx2) rfl (by kernel_rfl) rfl ?hyx2 ?restx2
      case hyx2 => (intro wS hSw; (try dsimp only at hSw); go_simp; try with_reducible rfl)
      try simp only [Act.put, List.setIfInBounds_toArray, List.set_cons_zero, List.set_cons_succ]
      refine det_read 2 (v := ?vx3) rfl (by kernel_rfl) rfl ?hyx3 ?restx3
      case hyx3 => (intro wS hSw; (try dsimp only at hSw); go_simp; try with_reducible rfl)
      try simp only [Act.put, List.setIfInBounds_toArray, List.set_cons_zero, List.set_cons_succ]
      refine det_read 3 (v := ?vx4) rfl (by kernel_rfl) rfl ?hyx4 ?restx4
      case hyx4 => (intro wS hSw; (try dsimp only at hSw); go_simp; try with_reducible rfl)
      try simp only [Act.put, List.setIfInBounds_toArray, List.set_cons_zero, List.set_cons_succ]
      refine det_call 4 rfl (by kernel_rfl) rfl ?hyx8 (fun W h => det_still (hbl W) h) ?restx8
      case hyx8 => (intro wS hSw; go_simp; try with_reducible rfl)
      try simp only [Act.put, List.setIfInBounds_toArray, List.set_cons_zero, List.set_cons_succ]
      refine det_read 5 (v := ?vx5) rfl (by kernel_rfl) rfl ?hyx5 ?restx5
      case hyx5 => (intro wS hSw; (try dsimp only at hSw); go_simp; try with_reducible rfl)
      try simp only [Act.put, List.setIfInBounds_toArray, List.set_cons_zero, List.set_cons_succ]
      refine det_read 6 (v := ?vx6) rfl (by kernel_rfl) rfl ?hyx6 ?restx6
      case hyx6 => (intro wS hSw; (try dsimp only at hSw); go_simp; try with_reducible rfl)
      try simp only [Act.put, List.setIfInBounds_toArray, List.set_cons_zero, List.set_cons_succ]
      refine det_read 7 (v := ?vx7) rfl (by kernel_rfl) rfl ?hyx7 ?restx7
      case hyx7 => (intro wS hSw; (try dsimp only at hSw); go_simp; try with_reducible rfl)
      try simp only [Act.put, List.setIfInBounds_toArray, List.set_cons_zero, List.set_cons_succ]
      refine det_done (by kernel_rfl) ?_
      intro W hW
      have hch := change_mine (HM.out.below hW.2) HCA.out.live k (by omega) t ht64
      have HBW : Hid (Below w0.heap.size w0 W) := below2 HB.out hW.2
      clear hS0 hW ht hts hm1 hm2 hm3 hm4 hm5 hbs hbl hc hz ht64
      go_wp2_with fail
      refine hch.mono ?_
      rintro e w4 ⟨rfl, m4, b4⟩
      have M4 : Hid (Mine w4 w0.heap.size p (D.change k t.data.toList)) := m4
      have B4 : Hid (Below w0.heap.size w0 w4) := HBW.out.trans b4
      clear m4 b4 hch
      go_wp2
      go_roundg (2 - (k + 1))
      case measure => omega
      case rel =>
        refine ⟨k + 1, _, by omega, rfl, by go_num, M4.out, Calm.change HCA.out k _, fun j hj => ?_, B4.out⟩
        by_cases e : j = k
        · subst e; rw [change_same HCA.out (by omega), HT.out, HQ.out]
        · rw [change_other HCA.out e]; exact HLA.out j (by omega)
    · have hkk : k = 2 := by omega
      subst hkk
      have bad : ∀ j, j < 2 → D.slB (j : Nat) = false := fun j hj => Dr.sl_bad HCA.out.live (by omega) (HCA.out.spoilt j) (by
        rw [HLA.out j hj, txt_data]; exact bad_head (junk_size _) (junk_head _))
      have hl0 := Dr.load_none HCA.out.live (bad 0 (by decide)) (bad 1 (by decide))
      have hLoad := fun (W : World) (h : Mine W w0.heap.size p D) => load_mine h
      obtain ⟨ln, eln, LN⟩ := sup_letter Sup.none
      rw [hl0.1, hl0.2, eln] at hLoad
      have HLN : Hid _ := LN
      have hsv := HCA.out.live.saves (by decide) HBS.out.2
      have hSave := fun (W : World) {F : Nat → Prop} (h : DriveAt W p D F) => save_any sup_says h (soS u v r) HBS.out.1 (by rw [HCA.out.live.len]; decide) HCA.out.lens
      rw [hsv.1, hsv.2] at hSave
      have hcs := HCA.out.saved (soS u v r)
      have hh := HCA.out.saved_holds (by decide) HBS.out.2 HBS.out.1
      have hl1 : (D.savedD (soS u v r)).loadE = 0 ∧ (D.savedD (soS u v r)).loadS = soS u v r := by
        have hsl := Dr.slot_lt (soS u v r)
        obtain ⟨_, k2⟩ := HCA.out.saved_keeps (soS u v r) (i := 1 - Dr.slot (soS u v r)) (by omega) (by omega)
        rw [bad _ (by omega)] at k2
        obtain ⟨r1, r2⟩ := Dr.load_one hcs.live hsl (by omega : 1 - Dr.slot (soS u v r) < 2) (by omega) hh.2 k2
        exact ⟨r1, r2.trans hh.1⟩
      have hLoad2 := fun (W : World) (h : Mine W w0.heap.size p (D.savedD (soS u v r))) => load_mine h
      rw [hl1.1, hl1.2] at hLoad2
      obtain ⟨l, el, L⟩ := sup_letter (soS u v r)
      have HSOL := HSO.out
      rw [el] at hSave hLoad2 HSOL
      have hEq := fun W => eqSupL el el W
      rw [decide_eq_true rfl] at hEq
      have HL : Hid _ := L
      have HLoad : Hid _ := hLoad
      have HSave : Hid _ := hSave
      have HLoad2 : Hid _ := hLoad2
      have HSOM : Hid _ := HSOL
      clear bad hl0 hLoad eln LN hsv hSave hcs hh hl1 hLoad2 el L HSOL
      go_wp2_with fail
      refine (HLoad.out wr HM.out).mono ?_
      rintro e w4 ⟨rfl, m4, b4⟩
      have M4 : Hid (Mine w4 w0.heap.size p D) := m4
      have B4 : Hid (Below w0.heap.size w0 w4) := below2 HB.out b4
      clear m4 b4
      have T4 : Hid (∀ C : Array Value, C.size = 10 → (w4.alloc (.cells C 30)).there w4.heap.size 0 ln.toArray.size) := fun C hC => by rw [HLN.out.size]; exact there_new w4 C _ 10 (by omega)
      go_upto_region 13 with (first
        | (refine wpList_store_mid rfl 30 _ _ rfl w4.heap.size 0 ln.toArray rfl rfl (T4.out _ rfl) HLN.out.infoA HLN.out.one ?_; change wpList _ _ _ _ _ (World.setCells _ _ _ ln)))
      obtain ⟨w5, hw5⟩ : ∃ w5, w5 = (w4.alloc (.cells (supL Sup.none).toArray 30)).setCells w4.heap.size 0 ln := ⟨_, rfl⟩
      change Code.wp _ _ _ _ ((w4.alloc (.cells (supL Sup.none).toArray 30)).setCells w4.heap.size 0 ln)
      rw [← hw5]
      have hb5 : Below w4.heap.size w4 w5 := by rw [hw5]; exact ((Below.refl _ w4).alloc (Nat.le_refl _) _).trans (below_setCells (Nat.le_refl _) _)
      have M5 : Hid (Mine w5 w0.heap.size p D) := M4.out.below hb5
      have B5 : Hid (Below w0.heap.size w0 w5) := below2 B4.out hb5
      clear hb5 hw5
      go_wp2_with fail
      refine (HSOM.out _).mono ?_
      rintro e w6 ⟨rfl, b6⟩
      have M6 : Hid (Mine w6 w0.heap.size p D) := M5.out.below b6
      have B6 : Hid (Below w0.heap.size w0 w6) := below2 B5.out b6
      clear b6
      have T6 : Hid (∀ C : Array Value, C.size = 10 → (w6.alloc (.cells C 30)).there w6.heap.size 0 l.toArray.size) := fun C hC => by rw [HL.out.size]; exact there_new w6 C _ 10 (by omega)
      go_upto_region 14 with (first
        | (refine wpList_store_mid rfl 30 _ _ rfl w6.heap.size 0 l.toArray rfl rfl (T6.out _ rfl) HL.out.infoA HL.out.one ?_; change wpList _ _ _ _ _ (World.setCells _ _ _ l)))
      obtain ⟨w7, hw7⟩ : ∃ w7, w7 = (w6.alloc (.cells (supL Sup.none).toArray 30)).setCells w6.heap.size 0 l := ⟨_, rfl⟩
      change Code.wp _ _ _ _ ((w6.alloc (.cells (supL Sup.none).toArray 30)).setCells w6.heap.size 0 l)
      rw [← hw7]
      have hb7 : Below w6.heap.size w6 w7 := by rw [hw7]; exact ((Below.refl _ w6).alloc (Nat.le_refl _) _).trans (below_setCells (Nat.le_refl _) _)
      have R7 : Hid (w7.rangeAt w6.heap.size 0 l) := by rw [hw7]; exact World.rangeAt_setCells_same _ _ _ _ (T6.out _ rfl)
      have HS7 : Hid (w7.heap.size = w6.heap.size + 1) := by show w7.heap.size = _; rw [hw7, size_setCells, World.size_alloc]
      have hd7 : DriveAt w7 p D (fun k => w0.heap.size ≤ k ∧ k < w6.heap.size) := M6.out.1.tight.below hb7
      have hS7 := HSave.out w7 hd7
      have B7 : Hid (Below w0.heap.size w0 w7) := below2 B6.out hb7
      have HB6 : Hid (w0.heap.size ≤ w6.heap.size) := M6.out.2
      clear hb7 hw7 hd7
      go_wp2_with (first
        | (refine wpList_load_mid rfl 30 _ rfl w6.heap.size 0 rfl l _ R7.out Try.underlying30 rfl HL.out.info ?_))
      refine hS7.mono ?_
      rintro e w8 ⟨rfl, hd8, ho8⟩
      have R8 : Hid (w8.rangeAt w6.heap.size 0 l) := range_only R7.out (by rw [HS7.out]; exact Nat.lt_succ_self _) ho8 (fun hk => absurd hk.2 (Nat.lt_irrefl _))
      have M8 : Hid (Mine w8 w0.heap.size p (D.savedD (soS u v r))) := ⟨hd8.mono fun k hk => hk.elim (fun h1 => h1.1) (fun h1 => Nat.le_trans (Nat.le_trans HB6.out (by rw [HS7.out]; exact Nat.le_succ _)) h1), Nat.le_trans (Nat.le_trans HB6.out (by rw [HS7.out]; exact Nat.le_succ _)) ho8.size⟩
      have B8 : Hid (Below w0.heap.size w0 w8) := B7.out.trans (ho8.below (fun k hk => hk.1) (Nat.le_trans HB6.out (by rw [HS7.out]; exact Nat.le_succ _)))
      have HS8 : Hid (w6.heap.size < w8.heap.size) := Nat.lt_of_lt_of_le (by rw [HS7.out]; exact Nat.lt_succ_self _) ho8.size
      clear hd8 ho8 hS7
      go_wp2_with fail
      refine (HLoad2.out w8 M8.out).mono ?_
      rintro e w9 ⟨rfl, _, b9⟩
      have R9 : Hid (w9.rangeAt w6.heap.size 0 l) := range_below R8.out HS8.out b9
      have B9 : Hid (Below w0.heap.size w0 w9) := below2 B8.out b9
      have HS9 : Hid (w6.heap.size < w9.heap.size) := Nat.lt_of_lt_of_le HS8.out b9.size
      clear b9
      have T9 : Hid (∀ C : Array Value, C.size = 10 → (w9.alloc (.cells C 30)).there w9.heap.size 0 l.toArray.size) := fun C hC => by rw [HL.out.size]; exact there_new w9 C _ 10 (by omega)
      go_upto_region 16 with (first
        | (refine wpList_store_mid rfl 30 _ _ rfl w9.heap.size 0 l.toArray rfl rfl (T9.out _ rfl) HL.out.infoA HL.out.one ?_; change wpList _ _ _ _ _ (World.setCells _ _ _ l)))
      obtain ⟨w10, hw10⟩ : ∃ w10, w10 = (w9.alloc (.cells (supL Sup.none).toArray 30)).setCells w9.heap.size 0 l := ⟨_, rfl⟩
      change Code.wp _ _ _ _ ((w9.alloc (.cells (supL Sup.none).toArray 30)).setCells w9.heap.size 0 l)
      rw [← hw10]
      have R10 : Hid (w10.rangeAt w9.heap.size 0 l) := by rw [hw10]; exact World.rangeAt_setCells_same _ _ _ _ (T9.out _ rfl)
      have R10b : Hid (w10.rangeAt w6.heap.size 0 l) := by rw [hw10]; exact World.rangeAt_setCells_apart (World.rangeAt_alloc R9.out _) _ _ _ (.inl (by have := HS9.out; omega))
      have B10 : Hid (Below w0.heap.size w0 w10) := by rw [hw10]; exact below2 B9.out (((Below.refl _ w9).alloc (Nat.le_refl _) _).trans (below_setCells (Nat.le_refl _) _))
      clear hw10
      obtain ⟨v0, v1, v2, v3, v4, v5, v6, v7, v8, v9, hv⟩ := list10 HL.out.len
      have hc := cells10 R10.out hv
      have hd := cells10 R10b.out hv
      rw [hv] at hEq
      obtain ⟨c0, c1, c2, c3, c4, c5, c6, c7, c8, c9⟩ := hc
      obtain ⟨k0, k1, k2, k3, k4, k5, k6, k7, k8, k9⟩ := hd
      clear hv
      go_wp2
      go_ret
      exact ⟨rfl, HB0.out.trans (B10.out.mono (by rw [HS0.out]; exact Nat.le_succ _))⟩
theorem walk (w : World) (a0 : Int) (w0 : (Lit.int .u64 a0).wf = true) (a1 : Int) (w1 : (Lit.int .u64 a1).wf = true) (a2 : Int) (w2 : (Lit.int .u8 a2).wf = true) (s3 : ByteArray × ByteArray) (w3 : s3.1.size ≤ maxLen ∧ s3.2.size ≤ maxLen) :
    Calls Try.prog 5 #[.int .u64 a0, .int .u64 a1, .int .u8 a2, str2V s3] w fun e w' => e = .returned (.bool true) ∧ Below w.heap.size w w' := by
  obtain ⟨x, y⟩ := s3
  unfold str2V
  dsimp only at w3 ⊢
  by_cases h : 60 < x.size ∨ 60 < y.size
  · exact walk_long w a0 a1 a2 x y w3.1 w3.2 h
  · obtain ⟨u, rfl, hu⟩ := u64_nat w0
    obtain ⟨v, rfl, hv⟩ := u64_nat w1
    obtain ⟨r, rfl, hr⟩ := u8_nat w2
    exact walk_short w u v r hu hv hr x y (by omega) (by omega)

theorem own : ownKnob Try.prog.godebug = none := by kernel_rfl
theorem laidOut : laidOutB Try.prog = true := by kernel_rfl
set_option linter.unusedVariables false in
set_option maxRecDepth 100000 in
theorem lifted (os : Os) (started : os.Started) (H : Type) (enc : TypeId × Value → H) :
    ReturnsInHanded {} Try.checked os 5 .any (Rows.slotsNoneSpec.pre6 enc Try.prog Try.f5 Rows.slotsNoneRow.domain false) (Rows.slotsNoneSpec.post enc Try.prog Try.f5 false true false false) := by
  refine returnsInHanded_of_change (C := Try.checked) own started (by kernel_rfl) Try.func5
    (ChangeSpec.witness6 (enc := enc) (C := Try.checked) false ⟨#[], #[.int .u64 0, .int .u64 0, .int .u8 0, .agg #[.string ByteArray.empty, .string ByteArray.empty]], []⟩ 8 (by kernel_rfl) (by kernel_rfl) (by kernel_rfl) (by kernel_rfl)) ?_
  intro W base args ds gs before hval0 hW hcnd _
  have hval : ∀ (j : Nat) t v, Try.f5.params[j]? = some t → args[j]? = some v → Value.okWide Try.prog W .any base t v := hval0
  have hW' := hW
  obtain ⟨p, q, hA0, hV, rfl, hfz, hnd⟩ := hW
  have hA : DataW.TrodAll enc Try.prog W 0 (fun _ => true) true Try.f5.params.toList args.toList ds p := hA0
  rw [Try.params5] at hA hval
  obtain ⟨v0, vs0, d0, ds0, p0, q0, hargs, rfl, rfl, h0, r0⟩ := trodAll_cons hA
  obtain ⟨v1, vs1, d1, ds1, p1, q1, rfl, rfl, rfl, h1, r1⟩ := trodAll_cons r0
  obtain ⟨v2, vs2, d2, ds2, p2, q2, rfl, rfl, rfl, h2, r2⟩ := trodAll_cons r1
  obtain ⟨v3, vs3, d3, ds3, p3, q3, rfl, rfl, rfl, h3, r3⟩ := trodAll_cons r2
  obtain ⟨rfl, rfl, rfl⟩ := trodAll_nil r3
  obtain rfl : args = #[v0, v1, v2, v3] := by cases args; simp_all
  obtain ⟨rfl, rfl⟩ := trodVars_none hV
  obtain ⟨a0, rfl, rfl, rfl, w0⟩ := open_int Try.underlying22 (hval 0 22 v0 rfl rfl) h0
  obtain ⟨a1, rfl, rfl, rfl, w1⟩ := open_int Try.underlying22 (hval 1 22 v1 rfl rfl) h1
  obtain ⟨a2, rfl, rfl, rfl, w2⟩ := open_int Try.underlying5 (hval 2 5 v2 rfl rfl) h2
  obtain ⟨s3, rfl, w3⟩ := open_str2 (hval 3 48 v3 rfl rfl) h3
  have k3 := h3
  have lt3 : ∀ x ∈ p3, x.block < W.heap.size := by obtain ⟨m, hm⟩ := k3; exact DataW.trod_lt m _ _ _ hm
  clear hA0 hval0
  simp only [List.append_nil] at hW'
  refine (walk W a0 w0 a1 w1 a2 w2 s3 w3).mono fun e W' ⟨he, hg⟩ => ?_
  subst he
  exact ⟨_, rfl, _, _, _, [], _, [], hW', trodAll_mk1 (shut_bool Try.underlying4 _), (trodAll_cons_mk (shut_int Try.underlying22 w0) (trodAll_cons_mk (shut_int Try.underlying22 w1) (trodAll_cons_mk (shut_int Try.underlying5 w2) (trodAll_cons_mk (Below.trod laidOut (by kernel_rfl) (of_decide_eq_true (by kernel_rfl)) k3 hg lt3) trodAll_mk0)))), rfl, hg.frame _, fun h => by cases h⟩
/-- For every input the law returns true, and each argument reads as it did. -/
theorem proved : Rows.SlotsNoneSaid :=
  OpenClaim.holds_of_wide 5 Try.f5 rfl rfl rfl rfl rfl rfl rfl ⟨rfl, rfl, rfl, rfl, rfl⟩ rfl rfl rfl rfl rfl (by kernel_rfl) Try.func5 (by kernel_rfl)
    (of_decide_eq_true (by kernel_rfl)) (by unfold Func.isWrapper; first | (rw [if_pos (by decide +kernel)]; kernel_rfl) | (rw [if_neg (by decide +kernel)]; exact ⟨rfl, rfl⟩))
    (fun os started H enc _ => lifted os started H enc)
end Go.Proofs.Ytgkhnfchohcjeaa.slotsNone
