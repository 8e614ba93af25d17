/- The walks of Read and Safe. -/
import Derived.Test.YtgkhnfchohcjeaaDrvFill
namespace Go.Proofs.Ytgkhnfchohcjeaa
open Go.RowKit Go.Maps

/-- a text of the bytes l -/
def txt (l : List UInt8) : ByteArray := ⟨l.toArray⟩

namespace Dr
def safeE (D : Dr) (i : Int) : Nat := if D.hasB i then 0 else 70
def safeS (D : Dr) (i : Int) : List UInt8 := if D.hasB i then D.safe.getD i.toNat [] else []
def readE (D : Dr) (i : Int) : Nat := if D.reachE i = 0 then (if D.spoilt.getD i.toNat false then 41 else 0) else D.reachE i
def readS (D : Dr) (i : Int) : List UInt8 := if D.readE i = 0 then D.last i.toNat else []
theorem hasB_nat {D : Dr} {i : Int} (h : D.hasB i = true) : ∃ k : Nat, i = (k : Int) ∧ k < D.safe.length := by
  unfold hasB at h
  simp only [Bool.and_eq_true, decide_eq_true_eq] at h
  exact ⟨i.toNat, by omega, by omega⟩
theorem hasB_yes {D : Dr} {i : Nat} (h : i < D.safe.length) : D.hasB i = true := by unfold hasB; simp [h]
theorem reach_has {D : Dr} {i : Int} (h : D.reachE i = 0) : D.runsE = 0 ∧ D.hasB i = true := by
  unfold reachE at h
  split at h
  · rename_i h0
    refine ⟨h0, ?_⟩
    cases hb : D.hasB i with
    | true => rfl
    | false => rw [hb] at h; simp at h
  · rename_i h0; exact absurd h h0
end Dr
set_option maxHeartbeats 400000 in
theorem read_reach {w : World} {p : Nat} {D : Dr} {F : Nat → Prop} (h : DriveAt w p D F) (i : Int) (hr : D.reachE i ≠ 0) :
    Calls Try.prog 33 #[.pointer (some ⟨p, 0, none⟩), .int .i64 i] w fun e w' => e = .returned (.tuple #[.string (txt []), .int .i64 (D.reachE i : Nat)]) ∧ w' = w := by
  have hc := reaches_any h i
  have hle := reachE_le D i
  obtain ⟨r, er⟩ : ∃ r, r = D.reachE i := ⟨_, rfl⟩
  rw [← er] at hc hr hle ⊢
  have hne : ((r : Int) == 0) = false := by rw [beq_eq_false_iff_ne]; omega
  clear er
  go_enter Try.func33, Try.ntmps33
  go_wp2_with fail
  refine hc.mono ?_
  rintro e w' ⟨rfl, rfl⟩
  go_wp2
  go_ret2
  exact ⟨rfl, rfl⟩

set_option maxHeartbeats 400000 in
theorem read_spoilt {w : World} {p : Nat} {D : Dr} {F : Nat → Prop} (h : DriveAt w p D F) (i : Nat) (hr : D.reachE i = 0) (hi : i < D.safe.length) (hs : D.spoilt.getD i false = true) :
    Calls Try.prog 33 #[.pointer (some ⟨p, 0, none⟩), .int .i64 (i : Nat)] w fun e w' => e = .returned (.tuple #[.string (txt []), .int .i64 41]) ∧ w' = w := by
  have hc := reaches_any h i
  rw [hr] at hc
  obtain ⟨sb, pb, mb, hd, hin, hf⟩ := h
  have c1 := hin.cells.c1
  have cs := (hin.markAt hi).1
  rw [hs] at cs
  have hle := hin.ok.le
  obtain ⟨n, hn⟩ : ∃ n, n = D.safe.length := ⟨_, rfl⟩
  rw [← hn] at c1 hle hi
  clear hin hr hn hf hs
  go_enter Try.func33, Try.ntmps33
  go_wp2_with fail
  refine hc.mono ?_
  rintro e w' ⟨rfl, rfl⟩
  go_wp2
  go_ret2
  exact ⟨rfl, rfl⟩

/-- the map's look-up -/
theorem MapIn.look {w : World} {mb : Nat} {hd : Nat → Value} {D : Dr} {M : DataW Unit} (h : MapIn w mb hd D M) {i : Nat} (hi : i < D.safe.length) (hle : D.safe.length ≤ 4096) {d : DataW Unit} (hh : hdrD (hd i) = some (d, [])) :
    (Instr.lookup 53 (.map (some mb)) (.int .i64 (i : Nat)) false).run Try.prog w = .ok (hd i) w := by
  obtain ⟨v, ps, hrun, hv⟩ := h.owns.lookup (t := 53) (e := 51) (int_keyed Try.underlying3) Try.underlying53 (z := .slice none 0 0) (by kernel_rfl) (zd := .nil) (zp := []) hdrD_nil (keyOf_at i (by omega))
  rw [h.at_ i hi d hh] at hv
  rw [hrun, hdrD_inj hv hh]

/-- one new block of 64 bytes, written -/
theorem new_world {w w2 : World} {A : Array Value} {t : TypeId} {vs : List Value} (e2 : (w.alloc (.cells A t)).setCells w.heap.size 0 vs = w2) (hA : A.size = 64) (hv : vs.length = 64) :
    w2.rangeAt w.heap.size 0 vs ∧ w2.there w.heap.size 0 64 ∧ Below w.heap.size w w2 ∧ w2.heap.size = w.heap.size + 1 := by
  subst e2
  have t1 : (w.alloc (.cells A t)).there w.heap.size 0 64 := there_new w A t 64 (by omega)
  obtain ⟨h1, h2, h3, h4, h5⟩ := setCells_os w.heap.size vs 0 (w.alloc (.cells A t))
  exact ⟨World.rangeAt_setCells_same _ _ _ _ (by rw [hv]; exact t1), World.there_setCells t1 _ _ _, ((Below.refl _ w).alloc (Nat.le_refl _) _).trans ⟨h1, h2, h3, by rw [h4]; exact Nat.le_refl _, fun k hk => h5 k (by omega)⟩, by rw [h4]; simp⟩
/-- .. written once more -/
theorem again_world {w w2 w3 : World} {g : Nat} {vs : List Value} (e3 : w2.setCells g 0 vs = w3) (ht : w2.there g 0 64) (hv : vs.length = 64) (hb : Below w.heap.size w w2) (hg : w.heap.size ≤ g) : w3.rangeAt g 0 vs ∧ Below w.heap.size w w3 := by
  subst e3
  exact ⟨World.rangeAt_setCells_same _ _ _ _ (by rw [hv]; exact ht), hb.trans ((Only.setCells (One g) w2 g 0 vs rfl).below (fun k hk => by rw [hk]; exact hg) hb.size)⟩
theorem DrvIn.below {w w' : World} {p sb pb mb : Nat} {hd : Nat → Value} {D : Dr} (h : DrvIn w p sb pb mb hd D) (hb : Below w.heap.size w w') : DrvIn w' p sb pb mb hd D :=
  h.only (Only.of_below hb (fun _ => False)) (fun _ _ hf => hf)

set_option maxHeartbeats 1000000 in
theorem read_old {w : World} {p : Nat} {D : Dr} {F : Nat → Prop} (h : DriveAt w p D F) (i : Nat) (hr : D.reachE i = 0) (hi : i < D.safe.length) (hs : D.spoilt.getD i false = false) (hw : D.writes i = []) :
    Calls Try.prog 33 #[.pointer (some ⟨p, 0, none⟩), .int .i64 (i : Nat)] w fun e w' => e = .returned (.tuple #[.string (txt (D.safe.getD i [])), .int .i64 0]) ∧ Below w.heap.size w w' := by
  have hc := reaches_any h i
  rw [hr] at hc
  obtain ⟨sb, pb, mb, hd, hin, hf⟩ := h
  have c0 := hin.cells.c0
  have c1 := hin.cells.c1
  have cs := (hin.markAt hi).1
  rw [hs] at cs
  have hle := hin.ok.le
  obtain ⟨cur, hcur, hs2⟩ := hin.safe
  have hrange := range_row hcur (by rw [hs2, List.take_of_length_le (by rw [flat_length hin.ok.sector]; exact Nat.le_refl _)]) hin.ok.sector hi
  have hl : (D.safe.getD i []).length = 64 := hin.ok.sector _ (Dr.getD_mem hi)
  obtain ⟨x, hx⟩ : ∃ x, x = D.safe.getD i [] := ⟨_, rfl⟩
  rw [← hx] at hrange hl ⊢
  have hnil := hin.nil i hw
  obtain ⟨M, hM⟩ := hin.map
  have R : Hid (w.rangeAt sb (i * 64) (byteVals x)) := hrange
  have I : Hid ((Try.prog.info? 71).map (·.size) = some (byteVals x).length) := by unfold Hid; rw [byteVals_length, hl]; exact info_sector
  have J : Hid ((Try.prog.info? 71).map (·.size) = some (byteVals x).toArray.size) := I
  have L : Hid (x.length = 64) := hl
  have T : ∀ (C : Array Value), C.size = 64 → Hid ((w.alloc (.cells C 71)).there w.heap.size 0 (byteVals x).toArray.size) := fun C hC => by
    unfold Hid; rw [show (byteVals x).toArray.size = 64 from (byteVals_length x).trans hl]; exact there_new w C _ 64 (by omega)
  have HI : Hid (DrvIn w p sb pb mb hd D) := hin
  have HM : Hid (MapIn w mb hd D M) := hM
  have HN : Hid (hd i = .slice none 0 0) := hnil
  have Hi : Hid (i < D.safe.length) := hi
  obtain ⟨n, hn⟩ : ∃ n, n = D.safe.length := ⟨_, rfl⟩
  rw [← hn] at c0 c1 hle hi
  have Hle : Hid (D.safe.length ≤ 4096) := by rw [← hn]; exact hle
  clear hin hr hn hf hs hrange hl hx hnil hM hw hcur hs2
  go_enter Try.func33, Try.ntmps33
  go_wp2_with fail
  refine hc.mono ?_
  rintro e w' ⟨rfl, rfl⟩
  go_wp2_with (first
    | (refine wpList_load_mid rfl 71 _ rfl sb (i * 64) rfl (byteVals x) _ R.out Try.underlying71 rfl I.out ?_)
    | (refine wpList_store_mid rfl 71 _ _ rfl w'.heap.size 0 (byteVals x).toArray rfl rfl (T _ rfl).out J.out (all_oneCell_toArray (byteVals_one x)) ?_; generalize e2 : World.setCells _ _ _ _ = w2; obtain ⟨r1, r2, r3, r4⟩ := new_world e2 rfl ((byteVals_length x).trans L.out); have c2 := (HI.out.below r3).cells.c2; have lk := (HM.out.only (Only.of_below r3 (fun _ => False)) (fun hf => hf)).look Hi.out Hle.out (by rw [HN.out]; exact hdrD_nil); rw [HN.out] at lk; have hcv := fun (cap : Nat) => range_back r1 23 9 5 (cap := cap) L.out Try.underlying23 Try.underlying5 Try.underlying9; have B : Hid (Below w'.heap.size w' w2) := r3; clear e2 r1 r2 r3 r4))
  go_ret2
  exact ⟨rfl, B.out⟩

/-- the last write of a sector -/
theorem row_last {w : World} {p sb pb mb : Nat} {hd : Nat → Value} {D : Dr} (h : DrvIn w p sb pb mb hd D) {i : Nat} (hw : D.writes i ≠ []) :
    ∃ g m cap, hd i = .slice (some ⟨g, 0, none⟩) (m + 1) cap ∧ (D.writes i).length = m + 1 ∧ m + 1 ≤ cap ∧ cap ≤ maxLen ∧ ∀ k, k < m + 1 → w.rangeAt g (k * 64) (byteVals ((D.writes i).getD k [])) := by
  rcases (h.rows i).2 with ⟨_, h0⟩ | ⟨g, cap, cur, e, _, hg, hle, hcap, hsz, htake⟩
  · exact absurd (List.length_eq_zero_iff.1 h0) hw
  · cases hl : (D.writes i).length with
    | zero => exact absurd (List.length_eq_zero_iff.1 hl) hw
    | succ m =>
      rw [hl] at e hle
      exact ⟨g, m, cap, e, rfl, hle, hcap, fun k hk => range_row hg htake (h.ok.writes i) (by omega)⟩

set_option maxHeartbeats 2000000 in
theorem read_new {w : World} {p : Nat} {D : Dr} {F : Nat → Prop} (h : DriveAt w p D F) (i : Nat) (hr : D.reachE i = 0) (hi : i < D.safe.length) (hs : D.spoilt.getD i false = false) (hw : D.writes i ≠ []) :
    Calls Try.prog 33 #[.pointer (some ⟨p, 0, none⟩), .int .i64 (i : Nat)] w fun e w' => e = .returned (.tuple #[.string (txt ((D.writes i).getD ((D.writes i).length - 1) [])), .int .i64 0]) ∧ Below w.heap.size w w' := by
  have hc := reaches_any h i
  rw [hr] at hc
  obtain ⟨sb, pb, mb, hd, hin, hf⟩ := h
  have c0 := hin.cells.c0
  have c1 := hin.cells.c1
  have cs := (hin.markAt hi).1
  rw [hs] at cs
  have hle := hin.ok.le
  obtain ⟨cur, hcur, hs2⟩ := hin.safe
  have hrange := range_row hcur (by rw [hs2, List.take_of_length_le (by rw [flat_length hin.ok.sector]; exact Nat.le_refl _)]) hin.ok.sector hi
  have hl : (D.safe.getD i []).length = 64 := hin.ok.sector _ (Dr.getD_mem hi)
  obtain ⟨g, m, cap, hhd, hlen, hcap, hcap2, hrow⟩ := row_last hin hw
  have hyr := hrow m (by omega)
  have hyl : ((D.writes i).getD m []).length = 64 := hin.ok.writes i _ (Dr.getD_mem (by omega))
  rw [show (D.writes i).length - 1 = m by omega]
  obtain ⟨x, hx⟩ : ∃ x, x = D.safe.getD i [] := ⟨_, rfl⟩
  obtain ⟨y, hy⟩ : ∃ y, y = (D.writes i).getD m [] := ⟨_, rfl⟩
  rw [← hx] at hrange hl
  rw [← hy] at hyr hyl ⊢
  obtain ⟨M, hM⟩ := hin.map
  have R : Hid (w.rangeAt sb (i * 64) (byteVals x)) := hrange
  have I : Hid ((Try.prog.info? 71).map (·.size) = some (byteVals x).length) := by unfold Hid; rw [byteVals_length, hl]; exact info_sector
  have J : Hid ((Try.prog.info? 71).map (·.size) = some (byteVals x).toArray.size) := I
  have L : Hid (x.length = 64) := hl
  have R' : Hid (w.rangeAt g (m * 64) (byteVals y)) := hyr
  have I' : Hid ((Try.prog.info? 71).map (·.size) = some (byteVals y).length) := by unfold Hid; rw [byteVals_length, hyl]; exact info_sector
  have J' : Hid ((Try.prog.info? 71).map (·.size) = some (byteVals y).toArray.size) := I'
  have L' : Hid (y.length = 64) := hyl
  have T : ∀ (C : Array Value), C.size = 64 → Hid ((w.alloc (.cells C 71)).there w.heap.size 0 (byteVals x).toArray.size) := fun C hC => by
    unfold Hid; rw [show (byteVals x).toArray.size = 64 from (byteVals_length x).trans hl]; exact there_new w C _ 64 (by omega)
  have HI : Hid (DrvIn w p sb pb mb hd D) := hin
  have HM : Hid (MapIn w mb hd D M) := hM
  have HN : Hid (hd i = .slice (some ⟨g, 0, none⟩) (m + 1) cap) := hhd
  have Hi : Hid (i < D.safe.length) := hi
  have hgl : g < w.heap.size := hin.lt g (.inr (.inr (.inr (.inr ⟨i, by rw [hhd]; rfl⟩))))
  have HG : Hid (g < w.heap.size) := hgl
  obtain ⟨n, hn⟩ : ∃ n, n = D.safe.length := ⟨_, rfl⟩
  rw [← hn] at c0 c1 hle hi
  have Hle : Hid (D.safe.length ≤ 4096) := by rw [← hn]; exact hle
  unfold maxLen at hcap2
  clear hin hr hn hf hs hrange hl hx hM hw hcur hs2 hhd hrow hyr hyl hy hlen hgl
  go_enter Try.func33, Try.ntmps33
  go_wp2_with fail
  refine hc.mono ?_
  rintro e w' ⟨rfl, rfl⟩
  have t1 : True := trivial
  go_wp2_with (first
    | (have _t := t1; refine wpList_load_mid rfl 71 _ rfl sb (i * 64) rfl (byteVals x) _ R.out Try.underlying71 rfl I.out ?_)
    | (have _t := t1; refine wpList_store_mid rfl 71 _ _ rfl w'.heap.size 0 (byteVals x).toArray rfl rfl (T _ rfl).out J.out (all_oneCell_toArray (byteVals_one x)) ?_; generalize e2 : World.setCells _ _ _ _ = w2; obtain ⟨r1, r2, r3, r4⟩ := new_world e2 rfl ((byteVals_length x).trans L.out); have c2 := (HI.out.below r3).cells.c2; have lk := (HM.out.only (Only.of_below r3 (fun _ => False)) (fun hf => hf)).look Hi.out Hle.out (by rw [HN.out]; exact hdrD_some _ _ _); rw [HN.out] at lk; have B : Hid (Below w'.heap.size w' w2) := r3; have TT : Hid (w2.there w'.heap.size 0 (byteVals y).toArray.size) := (by unfold Hid; rw [show (byteVals y).toArray.size = 64 from (byteVals_length y).trans L'.out]; exact r2); have R2 : Hid (w2.rangeAt g (m * 64) (byteVals y)) := (fun j v hv => ((r3.cell (p := ⟨g, m * 64 + j, none⟩) HG.out).trans (R'.out j v hv))); clear e2 r1 r2 r3 r4 t1)
    | (refine wpList_load_mid rfl 71 _ rfl g (m * 64) rfl (byteVals y) _ R2.out Try.underlying71 rfl I'.out ?_)
    | (refine wpList_store_mid rfl 71 _ _ rfl w'.heap.size 0 (byteVals y).toArray rfl rfl TT.out J'.out (all_oneCell_toArray (byteVals_one y)) ?_; generalize e3 : World.setCells _ _ _ _ = w3; obtain ⟨r1, r3⟩ := again_world e3 (by have h5 := TT.out; rw [show (byteVals y).toArray.size = 64 from (byteVals_length y).trans L'.out] at h5; exact h5) ((byteVals_length y).trans L'.out) B.out (Nat.le_refl _); have hcv := fun (cap : Nat) => range_back r1 23 9 5 (cap := cap) L'.out Try.underlying23 Try.underlying5 Try.underlying9; have B3 : Hid (Below w'.heap.size w' w3) := r3; clear e3 r1 r3))
  go_ret2
  exact ⟨rfl, B3.out⟩

theorem read_any {w : World} {p : Nat} {D : Dr} {F : Nat → Prop} (h : DriveAt w p D F) (i : Int) :
    Calls Try.prog 33 #[.pointer (some ⟨p, 0, none⟩), .int .i64 i] w fun e w' => e = .returned (.tuple #[.string (txt (D.readS i)), .int .i64 (D.readE i : Nat)]) ∧ Below w.heap.size w w' := by
  unfold Dr.readS Dr.readE
  by_cases hr : D.reachE i = 0
  · obtain ⟨h0, hb⟩ := Dr.reach_has hr
    obtain ⟨k, rfl, hk⟩ := Dr.hasB_nat hb
    simp only [hr, if_true, Int.toNat_natCast]
    by_cases hs : D.spoilt.getD k false = true
    · refine (read_spoilt h k hr hk hs).mono ?_
      rintro e w' ⟨rfl, rfl⟩
      exact ⟨by rw [if_pos hs]; rfl, Below.refl _ _⟩
    · have hs' : D.spoilt.getD k false = false := by cases h0 : D.spoilt.getD k false with | true => exact absurd h0 hs | false => rfl
      unfold Dr.last
      by_cases hw : D.writes k = []
      · refine (read_old h k hr hk hs' hw).mono ?_
        rintro e w' ⟨rfl, hb⟩
        exact ⟨by rw [if_neg hs, if_pos hw]; rfl, hb⟩
      · refine (read_new h k hr hk hs' hw).mono ?_
        rintro e w' ⟨rfl, hb⟩
        exact ⟨by rw [if_neg hs, if_neg hw]; rfl, hb⟩
  · refine (read_reach h i hr).mono ?_
    rintro e w' ⟨rfl, rfl⟩
    exact ⟨by simp [hr], Below.refl _ _⟩
end Go.Proofs.Ytgkhnfchohcjeaa
