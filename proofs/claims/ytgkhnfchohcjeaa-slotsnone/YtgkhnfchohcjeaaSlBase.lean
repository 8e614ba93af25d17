/- A drive of the call's own whose slots are saved and loaded: the walks that the statements on slots share. -/
import Derived.Test.YtgkhnfchohcjeaaSlNext
import Derived.Test.YtgkhnfchohcjeaaMDrvC
import Derived.Test.YtgkhnfchohcjeaaSupDec
import Derived.Test.YtgkhnfchohcjeaaKitDet
namespace Go.Proofs.Ytgkhnfchohcjeaa
open Go.RowKit

theorem sup_says : SupSays :=
  ⟨fun b w => Decode8_any b w, fun s h1 h2 h3 h4 w => Encode8_any s ⟨h1, h2, h3, h4⟩ w⟩
/-- a superblock's bounds, as its calls ask for them -/
def Su.Bd (s : Su) : Prop := s.uu < 18446744073709551616 ∧ s.ev < 18446744073709551616 ∧ s.c ≤ 9223372036854775807 ∧ s.nw ≤ 9223372036854775807
theorem saved_mine {w w' : World} {B p : Nat} {D D' : Dr} (h : Mine w B p D) (hs : SavedAt w w' p D D' (fun k => B ≤ k)) : Mine w' B p D' ∧ Below B w w' :=
  ⟨⟨based hs.1 h.2, Nat.le_trans h.2 hs.2.size⟩, turned hs.2 h.2⟩
theorem save_mine {w : World} {B p : Nat} {D : Dr} (h : Mine w B p D) (s : Su) (hI : s.Bd) (h2 : 2 ≤ D.safe.length) (hlen : ∀ i, (D.writes i).length < 1000000) :
    Calls Try.prog 13 #[.pointer (some ⟨p, 0, none⟩), .agg (supL s).toArray] w fun e w' => e = .returned (.int .i64 (D.saveE s : Nat)) ∧ Mine w' B p (D.saveD s) ∧ Below B w w' :=
  (save_any sup_says h.1 s hI h2 hlen).mono fun _ _ ⟨he, hs⟩ => ⟨he, saved_mine h hs⟩
theorem next_mine {w : World} {B p : Nat} {D : Dr} (h : Mine w B p D) (s : Su) (hI : s.Bd) (h2 : 2 ≤ D.safe.length) (hlen : ∀ i, (D.writes i).length < 1000000) :
    Calls Try.prog 8 #[.pointer (some ⟨p, 0, none⟩), .agg (supL s).toArray] w fun e w' => e = .returned (.tuple #[.agg (supL (D.nextS s)).toArray, .int .i64 (D.saveE (D.bump s) : Nat)]) ∧ Mine w' B p (D.saveD (D.bump s)) ∧ Below B w w' :=
  (next_any sup_says h.1 s hI h2 hlen).mono fun _ _ ⟨he, hs⟩ => ⟨he, saved_mine h hs⟩
theorem load_mine {w : World} {B p : Nat} {D : Dr} (h : Mine w B p D) :
    Calls Try.prog 10 #[.pointer (some ⟨p, 0, none⟩)] w fun e w' => e = .returned (.tuple #[.agg (supL D.loadS).toArray, .int .i64 (D.loadE : Nat)]) ∧ Mine w' B p D ∧ Below w.heap.size w w' :=
  (load_any sup_says h.1).mono fun _ _ ⟨he, hb⟩ => ⟨he, h.below hb, hb⟩
theorem both_mine {w : World} {B p : Nat} {D : Dr} (h : Mine w B p D) :
    Calls Try.prog 11 #[.pointer (some ⟨p, 0, none⟩)] w fun e w' => e = .returned (.tuple #[.agg (supL (D.slS 0) ++ supL (D.slS 1)).toArray, .agg #[.bool (D.slB 0), .bool (D.slB 1)]]) ∧ Mine w' B p D ∧ Below w.heap.size w w' :=
  (both_any sup_says h.1).mono fun _ _ ⟨he, hb⟩ => ⟨he, h.below hb, hb⟩

namespace Dr
/-- of a drive that lives: what its slots hold, by what was written last -/
theorem sl_read {D : Dr} {n i : Nat} (hv : D.Live n) (hi : i < n) (hs : D.spoilt.getD i false = false) : D.slS i = Sup.decS (txt (D.last i)) ∧ D.slB i = (Sup.decE (txt (D.last i)) == 0) := by
  obtain ⟨h1, h2⟩ := hv.read hi hs
  unfold slS slB
  rw [h1, h2]
  exact ⟨rfl, rfl⟩
theorem sl_holds {D : Dr} {n i : Nat} (hv : D.Live n) (hi : i < n) (hs : D.spoilt.getD i false = false) {s : Su} (hm : Sup.may s) (hI : s.Bd) (hl : D.last i = (Sup.secT s).data.toList) : D.slS i = s ∧ D.slB i = true := by
  obtain ⟨h1, h2⟩ := sl_read hv hi hs
  have hf := Sup.Fit.of_may hm hI.1 hI.2.1
  rw [hl, txt_data] at h1 h2
  rw [Sup.decS_secT hm hf] at h1
  rw [Sup.decE_secT hm hf] at h2
  exact ⟨h1, h2⟩
theorem sl_spoilt {D : Dr} {n i : Nat} (hv : D.Live n) (hi : i < n) (hs : D.spoilt.getD i false = true) : D.slB i = false := by
  unfold slB
  rw [(hv.readNo hi hs).1]; rfl
theorem sl_bad {D : Dr} {n i : Nat} (hv : D.Live n) (hi : i < n) (hs : D.spoilt.getD i false = false) (hd : Sup.decE (txt (D.last i)) ≠ 0) : D.slB i = false := by
  rw [(sl_read hv hi hs).2]; simpa using hd
theorem zero_bad : Sup.decE (txt (List.replicate 64 0)) ≠ 0 := by decide +kernel
/-- a drive whose writes are all flushed, none of whose sectors is spoilt -/
structure Calm (D : Dr) (n : Nat) : Prop where
  live : D.Live n
  spoilt : ∀ i, D.spoilt.getD i false = false
  none : ∀ i, D.writes i = []
theorem Calm.fresh (n : Nat) : (Dr.fresh n).Calm n := ⟨Live.fresh n, fresh_spoilt n, fun _ => rfl⟩
theorem Calm.lens {D : Dr} {n : Nat} (h : D.Calm n) (i : Nat) : (D.writes i).length < 1000000 := by rw [h.none]; decide
theorem Calm.last {D : Dr} {n : Nat} (h : D.Calm n) (i : Nat) : D.last i = D.safe.getD i [] := by unfold Dr.last; rw [if_pos (h.none i)]
/-- one that is saved to it -/
def savedD (D : Dr) (s : Su) : Dr := (D.put (slot s) (Sup.secT s).data.toList).settle fun _ c => c
theorem slot_lt (s : Su) : slot s < 2 := Nat.mod_lt _ (by decide)
theorem Live.saves {D : Dr} {n : Nat} (h : D.Live n) (h2 : 2 ≤ n) {s : Su} (hm : Sup.may s) : D.saveE s = 0 ∧ D.saveD s = D.savedD s := by
  have hb : Sup.mayB s = true := by simpa [Sup.mayB] using hm
  have hs := slot_lt s
  have ht : D.takeE (slot s) 64 = 0 := h.take (by omega) rfl
  have hr : (D.write (slot s) (Sup.secT s).data.toList).runsE = 0 := by rw [h.write]; exact (h.put _ _).run
  have hf : (D.write (slot s) (Sup.secT s).data.toList).flush = D.savedD s := by rw [h.write, (h.put _ _).flush]; rfl
  unfold saveE saveD
  rw [if_pos hb, if_pos hb, if_pos ht, if_pos ht, hr, if_pos rfl, hf]
  exact ⟨rfl, rfl⟩
theorem Calm.saved {D : Dr} {n : Nat} (h : D.Calm n) (s : Su) : (D.savedD s).Calm n :=
  ⟨(h.live.put _ _).settle _, fun i => put_spoilt D (slot s) (Sup.secT s).data.toList (h.spoilt i), fun _ => rfl⟩
theorem Calm.saved_same {D : Dr} {n : Nat} (h : D.Calm n) (h2 : 2 ≤ n) (s : Su) : (D.savedD s).last (slot s) = (Sup.secT s).data.toList := by
  rw [(h.saved s).last]
  have hs := slot_lt s
  exact (flush_one (h.live.put _ _) (by omega)).trans (put_last _ _ _)
theorem Calm.saved_other {D : Dr} {n : Nat} (h : D.Calm n) (s : Su) {i : Nat} (hi : i < n) (hne : i ≠ slot s) : (D.savedD s).last i = D.last i := by
  rw [(h.saved s).last]
  refine (flush_one (h.live.put _ _) hi).trans ?_
  unfold Dr.last
  rw [put_other _ _ hne]
  rfl
theorem Calm.saved_holds {D : Dr} {n : Nat} (h : D.Calm n) (h2 : 2 ≤ n) {s : Su} (hm : Sup.may s) (hI : s.Bd) : (D.savedD s).slS (slot s : Nat) = s ∧ (D.savedD s).slB (slot s : Nat) = true := by
  have hs := slot_lt s
  exact sl_holds (h.saved s).live (by omega) ((h.saved s).spoilt _) hm hI (h.saved_same h2 s)
theorem Calm.saved_keeps {D : Dr} {n : Nat} (h : D.Calm n) (s : Su) {i : Nat} (hi : i < n) (hne : i ≠ slot s) : (D.savedD s).slS i = D.slS i ∧ (D.savedD s).slB i = D.slB i := by
  obtain ⟨a1, a2⟩ := sl_read h.live hi (h.spoilt i)
  obtain ⟨b1, b2⟩ := sl_read (h.saved s).live hi ((h.saved s).spoilt i)
  rw [h.saved_other s hi hne] at b1 b2
  exact ⟨b1.trans a1.symm, b2.trans a2.symm⟩
theorem Calm.fresh_none {n i : Nat} (hi : i < n) : (Dr.fresh n).slB i = false := by
  refine sl_bad (Live.fresh n) hi (fresh_spoilt n i) ?_
  rw [(Calm.fresh n).last, fresh_safe hi]
  exact zero_bad
theorem load_one {D : Dr} {n : Nat} (hv : D.Live n) {j k : Nat} (hj : j < 2) (hk : k < 2) (hjk : j ≠ k) (h1 : D.slB j = true) (h2 : D.slB k = false) : D.loadE = 0 ∧ D.loadS = D.slS j := by
  unfold loadE loadS newest
  rw [hv.dead]
  have : j = 0 ∧ k = 1 ∨ j = 1 ∧ k = 0 := by omega
  rcases this with ⟨rfl, rfl⟩ | ⟨rfl, rfl⟩
  · rw [show D.slB 0 = true from h1, show D.slB 1 = false from h2]; exact ⟨rfl, rfl⟩
  · rw [show D.slB 0 = false from h2, show D.slB 1 = true from h1]; exact ⟨rfl, rfl⟩
theorem load_two {D : Dr} {n : Nat} (hv : D.Live n) {j k : Nat} (hj : j < 2) (hk : k < 2) (hjk : j ≠ k) (h1 : D.slB j = true) (h2 : D.slB k = true) (hlt : (D.slS k).ev < (D.slS j).ev) : D.loadE = 0 ∧ D.loadS = D.slS j := by
  unfold loadE loadS newest
  rw [hv.dead]
  have : j = 0 ∧ k = 1 ∨ j = 1 ∧ k = 0 := by omega
  rcases this with ⟨rfl, rfl⟩ | ⟨rfl, rfl⟩
  · have hd : decide ((D.slS 0).ev < (D.slS 1).ev) = false := by rw [decide_eq_false_iff_not]; have : (D.slS 1).ev < (D.slS 0).ev := hlt; omega
    rw [show D.slB 0 = true from h1, show D.slB 1 = true from h2]; unfold newer; rw [hd]; exact ⟨rfl, rfl⟩
  · have hd : decide ((D.slS 0).ev < (D.slS 1).ev) = true := by rw [decide_eq_true_iff]; exact hlt
    rw [show D.slB 0 = true from h2, show D.slB 1 = true from h1]; unfold newer; rw [hd]; exact ⟨rfl, rfl⟩
theorem load_none {D : Dr} {n : Nat} (hv : D.Live n) (h1 : D.slB 0 = false) (h2 : D.slB 1 = false) : D.loadE = 90 ∧ D.loadS = Sup.none := by
  unfold loadE loadS newest
  rw [hv.dead, h1, h2]; exact ⟨rfl, rfl⟩
end Dr
/-- a superblock of some numbers -/
def soS (u e r : Nat) : Su := ⟨max u 1, e, ((r % 4 : Nat) : Int), 4, 1, 5, false, 5, 0, 0⟩
theorem soS_may (u e r : Nat) : Sup.may (soS u e r) := by
  have := Nat.mod_lt r (show 0 < 4 by decide)
  unfold Sup.may Lay.ok soS
  dsimp only
  refine ⟨⟨by omega, by omega, by omega, by omega⟩, by omega, by omega, by omega, by omega, by omega⟩
theorem soS_bd {u e r : Nat} (hu : u < 18446744073709551616) (he : e < 18446744073709551616) : (soS u e r).Bd := ⟨by show max u 1 < _; omega, he, by show (4 : Int) ≤ _; decide, by show (0 : Int) ≤ _; decide⟩
set_option maxRecDepth 100000 in
set_option maxHeartbeats 1000000 in
theorem some9_any (u e r : Nat) (hr : r < 256) (w : World) :
    Calls Try.prog 9 #[.int .u64 (u : Int), .int .u64 (e : Int), .int .u8 (r : Int)] w fun x w' => x = .returned (.agg (supL (soS u e r)).toArray) ∧ Below w.heap.size w w' := by
  obtain ⟨U, hU⟩ : ∃ U : Nat, max (u : Int) 1 = (U : Int) := ⟨max u 1, by omega⟩
  obtain ⟨R, hR⟩ : ∃ R : Nat, (r : Int) % 4 = (R : Int) := ⟨r % 4, by omega⟩
  have hr8 : (r : Int) < 256 := by omega
  have HS : Hid (supL (soS u e r) = supL ⟨U, e, (R : Int), 4, 1, 5, false, 5, 0, 0⟩) := by
    unfold Hid soS
    rw [show max u 1 = U by omega, show ((r % 4 : Nat) : Int) = (R : Int) by omega]
  clear hr
  go_enter Try.func9, Try.ntmps9
  have T : Hid _ := there_new w (supL Sup.none).toArray 30 10 (by decide)
  go_wp2_with (first
    | (refine wpList_store_mid rfl 30 _ _ rfl w.heap.size 0 (supL ⟨U, e, (R : Int), 4, 1, 5, false, 5, 0, 0⟩).toArray rfl rfl T.out info_sup (supL_one _) ?_))
  refine bodyPost_ret (results_cell_mid rfl _ _ w.heap.size 0 (supL ⟨U, e, (R : Int), 4, 1, 5, false, 5, 0, 0⟩) _ rfl (World.rangeAt_setCells_same _ _ _ _ T.out) Try.underlying30 rfl info_sup) rfl ⟨by rw [HS.out], ?_⟩
  exact ((Below.refl _ w).alloc (Nat.le_refl _) _).trans (below_setCells (Nat.le_refl _) _)
/-- two superblocks held against one another -/
theorem eqSupL {l m : List Value} {s t : Su} (hl : supL s = l) (hm : supL t = m) (w : World) : (Op.equalIn 10000 30 (.agg l.toArray) (.agg m.toArray)).run Try.prog w = .ok (decide (s = t)) w := by
  rw [← hl, ← hm]; exact eqSup s t w
/-- a superblock's cells are loaded in every world where they lie there -/
theorem loadL {l : List Value} {s : Su} (L : SupL l s) (b o : Nat) (w : World) (h : w.rangeAt b o l) : (Instr.loadAt 30 (.pointer (some ⟨b, o, none⟩))).run Try.prog w = .ok (.agg l.toArray) w :=
  run_loadAt_mid w b o 30 l _ h Try.underlying30 rfl L.info
theorem exec_load {op : Oper} {a : Act} {w : World} {l : List Value} {s : Su} (L : SupL l s) {x : Operand} (ho : op.op = .load 30 x) (b o : Nat) (hx : a.eval x = .pointer (some ⟨b, o, none⟩)) (hc : w.rangeAt b o l) : (execOp a.eval op).run Try.prog w = .ok (.value (.agg l.toArray)) w := by
  unfold execOp
  simp only [ho, hx, Instr.loadAt, Instr.sureAddr, Sem.run_bind, Sem.run_pure, Result.andThen_ok, run_loadVar_mid w b o 30 l _ hc Try.underlying30 rfl L.info]
/-- what a region holds on to: a superblock's cells, and what lay below is as it was -/
def Keep1 (wr : World) (b : Nat) (l : List Value) (B : Nat) (W : World) : Prop := W.rangeAt b 0 l ∧ b < W.heap.size ∧ Below B wr W
theorem Keep1.det {P : Program} {f : FuncId} {args : Array Value} {v : Value} {wr W : World} {b B : Nat} {l : List Value} (hB : B ≤ wr.heap.size) (h : Calls P f args W fun e w' => e = .returned v ∧ Below W.heap.size W w') (hW : Keep1 wr b l B W) :
    Calls P f args W fun e w' => e = .returned v ∧ Keep1 wr b l B w' :=
  h.mono fun _ _ ⟨e, hb⟩ => ⟨e, range_below hW.1 hW.2.1 hb, Nat.lt_of_lt_of_le hW.2.1 hb.size, hW.2.2.trans (hb.mono (Nat.le_trans hB hW.2.2.size))⟩
theorem keep1_new {wr w4 : World} {B : Nat} {l : List Value} {t : TypeId} (hl : l.length = 10) (hb : Below B wr w4) (hB : B ≤ w4.heap.size) (C : Array Value) (hC : C.size = 10) :
    Keep1 wr w4.heap.size l B ((w4.alloc (.cells C t)).setCells w4.heap.size 0 l).drew := by
  have e : (w4.alloc (.cells C t)).heap.size = w4.heap.size + 1 := World.size_alloc ..
  refine ⟨(World.rangeAt_drew _ _ _ _).2 (World.rangeAt_setCells_same _ _ _ _ (by rw [hl]; exact there_new w4 C t 10 (by omega))), ?_, ((hb.alloc hB _).trans (below_setCells hB _)).drew⟩
  show w4.heap.size < ((w4.alloc (.cells C t)).setCells w4.heap.size 0 l).heap.size
  rw [size_setCells, e]; exact Nat.lt_succ_self _

set_option maxRecDepth 100000 in
set_option maxHeartbeats 2000000 in
theorem shown9_any (w : World) : Calls Try.prog 6 #[] w fun e w' => e = .returned (.bool true) ∧ Below w.heap.size w w' := by
  have HMX : Hid (Try.prog.follows .mixedOrders = true) := by show _ = _; kernel_rfl
  have hm := soS_may 9 3 1
  have hbd := soS_bd (u := 9) (e := 3) (r := 1) (by decide) (by decide)
  have hcalm := (Dr.Calm.fresh 4).saved (soS 9 3 1)
  obtain ⟨hs1, hs2⟩ := (Dr.Live.fresh 4).saves (by decide) hm
  have hslot : Dr.slot (soS 9 3 1) = 1 := rfl
  obtain ⟨h1, h2⟩ := (Dr.Calm.fresh 4).saved_holds (by decide) hm hbd
  obtain ⟨_, h3⟩ := (Dr.Calm.fresh 4).saved_keeps (soS 9 3 1) (i := 0) (by decide) (by decide)
  rw [Dr.Calm.fresh_none (by decide)] at h3
  rw [hslot] at h1 h2
  obtain ⟨hl1, hl2⟩ := Dr.load_one hcalm.live (j := 1) (k := 0) (by decide) (by decide) (by decide) h2 h3
  rw [h1] at hl2
  have hSome := fun W => some9_any 9 3 1 (by decide) W
  have hSave := fun (W : World) (p : Nat) (h : Mine W w.heap.size p (Dr.fresh 4)) => save_mine h (soS 9 3 1) hbd (by decide) (Dr.Calm.fresh 4).lens
  have hLoad := fun (W : World) (p : Nat) (h : Mine W w.heap.size p ((Dr.fresh 4).savedD (soS 9 3 1))) => load_mine h
  rw [hs1, hs2] at hSave
  rw [hl1, hl2] at hLoad
  obtain ⟨l, el, L⟩ := sup_letter (soS 9 3 1)
  rw [el] at hSome hSave hLoad
  have hEq := fun W => eqSupL el el W
  rw [decide_eq_true rfl] at hEq
  have HL : Hid _ := L
  have HSave : Hid _ := hSave
  have HLoad : Hid _ := hLoad
  rw [show ((9 : Nat) : Int) = 9 from rfl, show ((3 : Nat) : Int) = 3 from rfl, show ((1 : Nat) : Int) = 1 from rfl] at hSome
  clear hm hbd hcalm hs1 hs2 h1 h2 h3 hl1 hl2 L el hslot hSave hLoad
  go_enter Try.func6, Try.ntmps6
  go_wp2_with fail
  refine (new_mine 4 w.heap.size (by omega) (by omega) _ (Nat.le_refl _)).mono ?_
  rintro e w1 ⟨p, rfl, m1, b1⟩
  have M1 : Hid (Mine w1 w.heap.size p (Dr.fresh 4)) := m1
  have B1 : Hid (Below w.heap.size w w1) := b1
  clear m1 b1
  go_wp2_with fail
  refine (hSome _).mono ?_
  rintro e w2 ⟨rfl, b2⟩
  have hsv := HSave.out w2 p (M1.out.below b2)
  have B2 : Hid (Below w.heap.size w w2) := below2 B1.out b2
  clear b2
  go_wp2_with fail
  refine hsv.mono ?_
  rintro e w3 ⟨rfl, m3, b3⟩
  have hld := HLoad.out w3 p m3
  have B3 : Hid (Below w.heap.size w w3) := B2.out.trans b3
  clear b3 m3 hsv
  go_wp2_with fail
  refine hld.mono ?_
  rintro e w4 ⟨rfl, m4, b4⟩
  have T4 : Hid (∀ C : Array Value, C.size = 10 → (w4.alloc (.cells C 30)).there w4.heap.size 0 l.toArray.size) := fun C hC => by rw [HL.out.size]; exact there_new w4 C _ 10 (by omega)
  have B4 : Hid (Below w.heap.size w w4) := below2 B3.out b4
  clear b4 m4 hld
  go_upto_region 5 with (first
    | (refine wpList_store_mid rfl 30 _ _ rfl w4.heap.size 0 l.toArray rfl rfl (T4.out _ rfl) HL.out.infoA HL.out.one ?_; change wpList _ _ _ _ _ (World.setCells _ _ _ l)))
  have hK := keep1_new (t := 30) HL.out.len B4.out B4.out.size (supL Sup.none).toArray rfl
  refine region_det (fun W => Keep1 w w4.heap.size l w.heap.size W) HMX.out (by kernel_rfl) hK ?_
  refine det_read 0 (v := .agg l.toArray) rfl (by kernel_rfl) rfl ?hyx1 ?restx1
  case hyx1 => (intro wS hSw; exact (by apply exec_load HL.out (hc := hSw.1) <;> rfl))
  try simp only [Act.put, List.setIfInBounds_toArray, List.set_cons_zero, List.set_cons_succ]
  refine det_call 1 rfl (by kernel_rfl) rfl ?hyx8 (fun W h => Keep1.det (Nat.le_refl _) (hSome W) h) ?restx8
  case hyx8 => (intro wS hSw; go_simp; try with_reducible rfl)
  try simp only [Act.put, List.setIfInBounds_toArray, List.set_cons_zero, List.set_cons_succ]
  refine det_read 2 (v := ?vx3) rfl (by kernel_rfl) rfl ?hyx3 ?restx3
  case hyx3 => (intro wS hSw; (try dsimp only at hSw); go_simp; try with_reducible rfl)
  try simp only [Act.put, List.setIfInBounds_toArray, List.set_cons_zero, List.set_cons_succ]
  refine det_read 3 (v := ?vx4) rfl (by kernel_rfl) rfl ?hyx4 ?restx4
  case hyx4 => (intro wS hSw; (try dsimp only at hSw); go_simp; try with_reducible rfl)
  try simp only [Act.put, List.setIfInBounds_toArray, List.set_cons_zero, List.set_cons_succ]
  refine det_read 4 (v := ?vx5) rfl (by kernel_rfl) rfl ?hyx5 ?restx5
  case hyx5 => (intro wS hSw; (try dsimp only at hSw); go_simp; try with_reducible rfl)
  try simp only [Act.put, List.setIfInBounds_toArray, List.set_cons_zero, List.set_cons_succ]
  refine det_read 5 (v := ?vx6) rfl (by kernel_rfl) rfl ?hyx6 ?restx6
  case hyx6 => (intro wS hSw; (try dsimp only at hSw); go_simp; try with_reducible rfl)
  try simp only [Act.put, List.setIfInBounds_toArray, List.set_cons_zero, List.set_cons_succ]
  refine det_read 6 (v := ?vx7) rfl (by kernel_rfl) rfl ?hyx7 ?restx7
  case hyx7 => (intro wS hSw; (try dsimp only at hSw); go_simp; try with_reducible rfl)
  try simp only [Act.put, List.setIfInBounds_toArray, List.set_cons_zero, List.set_cons_succ]
  refine det_read 7 (v := ?vx2) rfl (by kernel_rfl) rfl ?hyx2 ?restx2
  case hyx2 => (intro wS hSw; (try dsimp only at hSw); go_simp; try with_reducible rfl)
  try simp only [Act.put, List.setIfInBounds_toArray, List.set_cons_zero]
  refine det_done (by kernel_rfl) ?_
  intro W hW
  go_wp2
  go_ret
  exact ⟨rfl, hW.2.2⟩
end Go.Proofs.Ytgkhnfchohcjeaa
