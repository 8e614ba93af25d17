import Derived.Test.YtdgkhjgnjfgnlaaGreatMDrvA
import Derived.Lib.LazyBuf
import Derived.Deep.WholeRow
namespace Go.Proofs.YtdgkhjgnjfgnlaaGreat
open Go.RowKit Go.Maps
theorem info_sector : (Tryz.prog.info? 128).map (·.size) = some 64 := by kernel_rfl
theorem there_new (w : World) (C : Array Value) (t : TypeId) (n : Nat) (h : n ≤ C.size) : (w.alloc (.cells C t)).there w.heap.size 0 n :=
 there_row (heap_alloc_last w (.cells C t)) (by omega)
theorem results_cell_mid {P : Program} {fn : Func} {p : Tmp} {ty : TypeId} (h : fn.results = #[.cell p ty]) (tmps : Array Value) (w : World) (g o : Nat) (cs : List Value) (d : TypeDesc)
  (hp : tmps.getD p undef = .pointer (some ⟨g, o, none⟩)) (hg : w.rangeAt g o cs) (hu : P.underlying ty = some d) (hd : d.isRow = true) (hi : (P.info? ty).map (·.size) = some cs.length) :
  (results fn tmps).run P w = .ok (.agg cs.toArray) w := by
 have hp' : tmps[p]?.getD undef = .pointer (some ⟨g, o, none⟩) := by simpa using hp
 simp [results, h, hp', asAddr, run_loadVar_mid w g o ty cs d hg hu hd hi]
theorem fill_world {w w2 : World} {A B : Array Value} {t u : TypeId} {vs : List Value} (e2 : ((w.alloc (.cells A t)).alloc (.cells B u)).setCells (w.heap.size + 1) 0 vs = w2) (hA : A.size = 64) (hB : B.size = 64) (hv : vs.length = 64) :
  w2.rangeAt (w.heap.size + 1) 0 vs ∧ w2.there w.heap.size 0 64 ∧ Below w.heap.size w w2 := by
 subst e2
 have e : (w.alloc (.cells A t)).heap.size = w.heap.size + 1 := by simp
 have t1 : (w.alloc (.cells A t)).there w.heap.size 0 64 := there_new w A t 64 (by omega)
 have t2 : ((w.alloc (.cells A t)).alloc (.cells B u)).there (w.heap.size + 1) 0 64 := by rw [← e]; exact there_new _ B u 64 (by omega)
 refine ⟨World.rangeAt_setCells_same _ _ _ _ (by rw [hv]; exact t2), World.there_setCells (World.there_alloc t1 _) _ _ _, ?_⟩
 obtain ⟨h1, h2, h3, h4, h5⟩ := setCells_os (w.heap.size + 1) vs 0 ((w.alloc (.cells A t)).alloc (.cells B u))
 exact (((Below.refl _ w).alloc (Nat.le_refl _) _).alloc (by simp) _).trans ⟨h1, h2, h3, by rw [h4]; exact Nat.le_refl _, fun k hk => h5 k (by omega)⟩
set_option maxRecDepth 100000 in
set_option maxHeartbeats 400000 in
theorem filled_any (s : ByteArray) (hs : s.size = 64) (w : World) :
  Calls Tryz.prog 95 #[.string s] w fun e w' => e = .returned (.agg (byteVals s.data.toList).toArray) ∧ Below w.heap.size w w' := by
 have hl : (byteVals s.data.toList).length = 64 := by rw [byteVals_length]; exact hs
 have hone := byteVals_one s.data.toList
 obtain ⟨vs, hvs⟩ : ∃ vs, vs = byteVals s.data.toList := ⟨_, rfl⟩
 rw [← hvs] at hl hone ⊢
 have Hvs : Hid (vs = byteVals s.data.toList) := hvs
 have Hs : Hid (s.size = 64) := hs
 have Hl : Hid (vs.length = 64) := hl
 clear hvs hs hl
 go_enter Tryz.func95, Tryz.ntmps95
 go_wp2_with fail
 have hth : ∀ (A B : Array Value), A.size = 64 → B.size = 64 → ((w.alloc (.cells A 128)).alloc (.cells B 128)).there (w.heap.size + 1) 0 s.size := fun A B hA hB => by
  rw [Hs.out]; exact (show (w.alloc (.cells A 128)).heap.size = w.heap.size + 1 by simp) ▸ there_new (w.alloc _) _ _ 64 (by omega)
 rw [run_copy_string (P := Tryz.prog) _ _ _ _ 5 (w.heap.size + 1) 0 64 64 s Tryz.underlying109 Tryz.sizeOf5 (by rw [Hs.out]; exact Nat.le_refl _) (fun j hj => (hth _ _ rfl rfl j hj).1) (fun j hj => (hth _ _ rfl rfl j hj).2)]
 change Oper.upon _ _ _ _ _ ((Result.ok _ (World.setCells _ _ _ (byteVals s.data.toList))).andThen _)
 rw [← Hvs.out]
 generalize e2 : World.setCells _ _ _ vs = w2
 obtain ⟨r1, r2, r3⟩ := fill_world e2 rfl rfl Hl.out
 clear e2 hth
 have R1 : Hid (w2.rangeAt (w.heap.size + 1) 0 vs) := r1
 have R2 : Hid (w2.there w.heap.size 0 64) := r2
 have R3 : Hid (Below w.heap.size w w2) := r3
 have Hone : Hid (∀ v ∈ vs, v.oneCell' = true) := hone
 clear r1 r2 r3 hone
 have e64 : vs.toArray.size = 64 := Hl.out
 have T : Hid (w2.there w.heap.size 0 vs.toArray.size) := by unfold Hid; rw [e64]; exact R2.out
 have I : Hid ((Tryz.prog.info? 128).map (·.size) = some vs.toArray.size) := by unfold Hid; rw [e64]; exact info_sector
 have E64 : Hid (vs.toArray.size = 64) := e64
 clear e64
 go_wp2_with (first
  | (refine wpList_load_mid rfl 128 _ rfl (w.heap.size + 1) 0 rfl vs _ R1.out Tryz.underlying128 rfl I.out ?_)
  | (refine wpList_store_mid rfl 128 _ _ rfl w.heap.size 0 vs.toArray rfl rfl T.out I.out (all_oneCell_toArray Hone.out) ?_))
 refine bodyPost_ret (results_cell_mid rfl _ _ w.heap.size 0 vs _ rfl (World.rangeAt_setCells_same _ _ _ _ T.out) Tryz.underlying128 rfl I.out) rfl ⟨rfl, ?_⟩
 exact R3.out.trans ((Only.setCells (One w.heap.size) w2 w.heap.size 0 _ rfl).below (fun k hk => by rw [hk]; exact Nat.le_refl _) R3.out.size)
end Go.Proofs.YtdgkhjgnjfgnlaaGreat
namespace Go.Proofs.YtdgkhjgnjfgnlaaGreat
open Go.RowKit Go.Maps
def txt (l : List UInt8) : ByteArray := ⟨l.toArray⟩
namespace Dr
def safeE (D : Dr) (i : Int) : Nat := if D.hasB i then 0 else 70
def safeS (D : Dr) (i : Int) : List UInt8 := if D.hasB i then D.safe.getD i.toNat [] else []
def readE (D : Dr) (i : Int) : Nat := if D.reachE i = 0 then (if D.spoilt.getD i.toNat false then 41 else 0) else D.reachE i
def readS (D : Dr) (i : Int) : List UInt8 := if D.readE i = 0 then D.last i.toNat else []
theorem hasB_nat {D : Dr} {i : Int} (h : D.hasB i = true) : ∃ k : Nat, i = (k : Int) ∧ k < D.safe.length := by
 unfold hasB at h
 simp only [Bool.and_eq_true, decide_eq_true_eq] at h
 exact ⟨i.toNat, by omega, by omega⟩
theorem reach_has {D : Dr} {i : Int} (h : D.reachE i = 0) : D.runsE = 0 ∧ D.hasB i = true := by
 unfold reachE at h
 split at h
 ·rename_i h0
  refine ⟨h0, ?_⟩
  cases hb : D.hasB i with
  | true => rfl
  | false => rw [hb] at h; simp at h
 ·rename_i h0; exact absurd h h0
end Dr
set_option maxRecDepth 100000 in
set_option maxHeartbeats 400000 in
theorem read_reach {w : World} {p : Nat} {D : Dr} {F : Nat → Prop} (h : DriveAt w p D F) (i : Int) (hr : D.reachE i ≠ 0) :
  Calls Tryz.prog 76 #[.pointer (some ⟨p, 0, none⟩), .int .i64 i] w fun e w' => e = .returned (.tuple #[.string (txt []), .int .i64 (D.reachE i : Nat)]) ∧ w' = w := by
 have hc := reaches_any h i
 have hle := reachE_le D i
 obtain ⟨r, er⟩ : ∃ r, r = D.reachE i := ⟨_, rfl⟩
 rw [← er] at hc hr hle ⊢
 have hne : ((r : Int) == 0) = false := by rw [beq_eq_false_iff_ne]; omega
 clear er
 go_enter Tryz.func76, Tryz.ntmps76
 go_wp2_with fail
 refine hc.mono ?_
 rintro e w' ⟨rfl, rfl⟩
 go_wp2
 go_ret2
 exact ⟨rfl, rfl⟩
set_option maxRecDepth 100000 in
set_option maxHeartbeats 400000 in
theorem read_spoilt {w : World} {p : Nat} {D : Dr} {F : Nat → Prop} (h : DriveAt w p D F) (i : Nat) (hr : D.reachE i = 0) (hi : i < D.safe.length) (hs : D.spoilt.getD i false = true) :
  Calls Tryz.prog 76 #[.pointer (some ⟨p, 0, none⟩), .int .i64 (i : Nat)] w fun e w' => e = .returned (.tuple #[.string (txt []), .int .i64 41]) ∧ w' = w := by
 have hc := reaches_any h i
 rw [hr] at hc
 obtain ⟨sb, pb, mb, hd, hin, hf⟩ := h
 have c1 := hin.cells.c1
 have cs := (hin.markAt hi).1
 rw [hs] at cs
 have hle := hin.ok.le
 obtain ⟨n, hn⟩ : ∃ n, n = D.safe.length := ⟨_, rfl⟩
 rw [← hn] at c1 hle hi
 clear hin hr hn hf hs
 go_enter Tryz.func76, Tryz.ntmps76
 go_wp2_with fail
 refine hc.mono ?_
 rintro e w' ⟨rfl, rfl⟩
 go_wp2
 go_ret2
 exact ⟨rfl, rfl⟩
theorem MapIn.look {w : World} {mb : Nat} {hd : Nat → Value} {D : Dr} {M : DataW Unit} (h : MapIn w mb hd D M) {i : Nat} (hi : i < D.safe.length) (hle : D.safe.length ≤ 4096) {d : DataW Unit} (hh : hdrD (hd i) = some (d, [])) :
  (Instr.lookup 105 (.map (some mb)) (.int .i64 (i : Nat)) false).run Tryz.prog w = .ok (hd i) w := by
 obtain ⟨v, ps, hrun, hv⟩ := h.owns.lookup (t := 105) (e := 104) (int_keyed Tryz.underlying3) Tryz.underlying105 (z := .slice none 0 0) (by kernel_rfl) (zd := .nil) (zp := []) hdrD_nil (keyOf_at i (by omega))
 rw [h.at_ i hi d hh] at hv
 rw [hrun, hdrD_inj hv hh]
theorem new_world {w w2 : World} {A : Array Value} {t : TypeId} {vs : List Value} (e2 : (w.alloc (.cells A t)).setCells w.heap.size 0 vs = w2) (hA : A.size = 64) (hv : vs.length = 64) :
  w2.rangeAt w.heap.size 0 vs ∧ w2.there w.heap.size 0 64 ∧ Below w.heap.size w w2 ∧ w2.heap.size = w.heap.size + 1 := by
 subst e2
 have t1 : (w.alloc (.cells A t)).there w.heap.size 0 64 := there_new w A t 64 (by omega)
 obtain ⟨h1, h2, h3, h4, h5⟩ := setCells_os w.heap.size vs 0 (w.alloc (.cells A t))
 exact ⟨World.rangeAt_setCells_same _ _ _ _ (by rw [hv]; exact t1), World.there_setCells t1 _ _ _, ((Below.refl _ w).alloc (Nat.le_refl _) _).trans ⟨h1, h2, h3, by rw [h4]; exact Nat.le_refl _, fun k hk => h5 k (by omega)⟩, by rw [h4]; simp⟩
theorem again_world {w w2 w3 : World} {g : Nat} {vs : List Value} (e3 : w2.setCells g 0 vs = w3) (ht : w2.there g 0 64) (hv : vs.length = 64) (hb : Below w.heap.size w w2) (hg : w.heap.size ≤ g) : w3.rangeAt g 0 vs ∧ Below w.heap.size w w3 := by
 subst e3
 exact ⟨World.rangeAt_setCells_same _ _ _ _ (by rw [hv]; exact ht), hb.trans ((Only.setCells (One g) w2 g 0 vs rfl).below (fun k hk => by rw [hk]; exact hg) hb.size)⟩
theorem DrvIn.below {w w' : World} {p sb pb mb : Nat} {hd : Nat → Value} {D : Dr} (h : DrvIn w p sb pb mb hd D) (hb : Below w.heap.size w w') : DrvIn w' p sb pb mb hd D :=
 h.only (Only.of_below hb (fun _ => False)) (fun _ _ hf => hf)
set_option maxRecDepth 100000 in
set_option maxHeartbeats 1000000 in
theorem read_old {w : World} {p : Nat} {D : Dr} {F : Nat → Prop} (h : DriveAt w p D F) (i : Nat) (hr : D.reachE i = 0) (hi : i < D.safe.length) (hs : D.spoilt.getD i false = false) (hw : D.writes i = []) :
  Calls Tryz.prog 76 #[.pointer (some ⟨p, 0, none⟩), .int .i64 (i : Nat)] w fun e w' => e = .returned (.tuple #[.string (txt (D.safe.getD i [])), .int .i64 0]) ∧ Below w.heap.size w w' := by
 have hc := reaches_any h i
 rw [hr] at hc
 obtain ⟨sb, pb, mb, hd, hin, hf⟩ := h
 have c0 := hin.cells.c0
 have c1 := hin.cells.c1
 have cs := (hin.markAt hi).1
 rw [hs] at cs
 have hle := hin.ok.le
 obtain ⟨cur, hcur, hs2⟩ := hin.safe
 have hrange := range_row hcur (by rw [hs2, List.take_of_length_le (by rw [flat_length hin.ok.sector]; exact Nat.le_refl _)]) hin.ok.sector hi
 have hl : (D.safe.getD i []).length = 64 := hin.ok.sector _ (Dr.getD_mem hi)
 obtain ⟨x, hx⟩ : ∃ x, x = D.safe.getD i [] := ⟨_, rfl⟩
 rw [← hx] at hrange hl ⊢
 have hnil := hin.nil i hw
 obtain ⟨M, hM⟩ := hin.map
 have R : Hid (w.rangeAt sb (i * 64) (byteVals x)) := hrange
 have I : Hid ((Tryz.prog.info? 128).map (·.size) = some (byteVals x).length) := by unfold Hid; rw [byteVals_length, hl]; exact info_sector
 have J : Hid ((Tryz.prog.info? 128).map (·.size) = some (byteVals x).toArray.size) := I
 have L : Hid (x.length = 64) := hl
 have T : ∀ (C : Array Value), C.size = 64 → Hid ((w.alloc (.cells C 128)).there w.heap.size 0 (byteVals x).toArray.size) := fun C hC => by
  unfold Hid; rw [show (byteVals x).toArray.size = 64 from (byteVals_length x).trans hl]; exact there_new w C _ 64 (by omega)
 have HI : Hid (DrvIn w p sb pb mb hd D) := hin
 have HM : Hid (MapIn w mb hd D M) := hM
 have HN : Hid (hd i = .slice none 0 0) := hnil
 have Hi : Hid (i < D.safe.length) := hi
 obtain ⟨n, hn⟩ : ∃ n, n = D.safe.length := ⟨_, rfl⟩
 rw [← hn] at c0 c1 hle hi
 have Hle : Hid (D.safe.length ≤ 4096) := by rw [← hn]; exact hle
 clear hin hr hn hf hs hrange hl hx hnil hM hw hcur hs2
 go_enter Tryz.func76, Tryz.ntmps76
 go_wp2_with fail
 refine hc.mono ?_
 rintro e w' ⟨rfl, rfl⟩
 go_wp2_with (first
  | (refine wpList_load_mid rfl 128 _ rfl sb (i * 64) rfl (byteVals x) _ R.out Tryz.underlying128 rfl I.out ?_)
  | (refine wpList_store_mid rfl 128 _ _ rfl w'.heap.size 0 (byteVals x).toArray rfl rfl (T _ rfl).out J.out (all_oneCell_toArray (byteVals_one x)) ?_; generalize e2 : World.setCells _ _ _ _ = w2; obtain ⟨r1, r2, r3, r4⟩ := new_world e2 rfl ((byteVals_length x).trans L.out); have c2 := (HI.out.below r3).cells.c2; have lk := (HM.out.only (Only.of_below r3 (fun _ => False)) (fun hf => hf)).look Hi.out Hle.out (by rw [HN.out]; exact hdrD_nil); rw [HN.out] at lk; have hcv := fun (cap : Nat) => range_back r1 109 9 5 (cap := cap) L.out Tryz.underlying109 Tryz.underlying5 Tryz.underlying9; have B : Hid (Below w'.heap.size w' w2) := r3; clear e2 r1 r2 r3 r4))
 go_ret2
 exact ⟨rfl, B.out⟩
theorem row_last {w : World} {p sb pb mb : Nat} {hd : Nat → Value} {D : Dr} (h : DrvIn w p sb pb mb hd D) {i : Nat} (hw : D.writes i ≠ []) :
  ∃ g m cap, hd i = .slice (some ⟨g, 0, none⟩) (m + 1) cap ∧ (D.writes i).length = m + 1 ∧ m + 1 ≤ cap ∧ cap ≤ maxLen ∧ ∀ k, k < m + 1 → w.rangeAt g (k * 64) (byteVals ((D.writes i).getD k [])) := by
 rcases (h.rows i).2 with ⟨_, h0⟩ | ⟨g, cap, cur, e, _, hg, hle, hcap, hsz, htake⟩
 ·exact absurd (List.length_eq_zero_iff.1 h0) hw
 ·cases hl : (D.writes i).length with
  | zero => exact absurd (List.length_eq_zero_iff.1 hl) hw
  | succ m =>
   rw [hl] at e hle
   exact ⟨g, m, cap, e, rfl, hle, hcap, fun k hk => range_row hg htake (h.ok.writes i) (by omega)⟩
set_option maxRecDepth 100000 in
set_option maxHeartbeats 2000000 in
theorem read_new {w : World} {p : Nat} {D : Dr} {F : Nat → Prop} (h : DriveAt w p D F) (i : Nat) (hr : D.reachE i = 0) (hi : i < D.safe.length) (hs : D.spoilt.getD i false = false) (hw : D.writes i ≠ []) :
  Calls Tryz.prog 76 #[.pointer (some ⟨p, 0, none⟩), .int .i64 (i : Nat)] w fun e w' => e = .returned (.tuple #[.string (txt ((D.writes i).getD ((D.writes i).length - 1) [])), .int .i64 0]) ∧ Below w.heap.size w w' := by
 have hc := reaches_any h i
 rw [hr] at hc
 obtain ⟨sb, pb, mb, hd, hin, hf⟩ := h
 have c0 := hin.cells.c0
 have c1 := hin.cells.c1
 have cs := (hin.markAt hi).1
 rw [hs] at cs
 have hle := hin.ok.le
 obtain ⟨cur, hcur, hs2⟩ := hin.safe
 have hrange := range_row hcur (by rw [hs2, List.take_of_length_le (by rw [flat_length hin.ok.sector]; exact Nat.le_refl _)]) hin.ok.sector hi
 have hl : (D.safe.getD i []).length = 64 := hin.ok.sector _ (Dr.getD_mem hi)
 obtain ⟨g, m, cap, hhd, hlen, hcap, hcap2, hrow⟩ := row_last hin hw
 have hyr := hrow m (by omega)
 have hyl : ((D.writes i).getD m []).length = 64 := hin.ok.writes i _ (Dr.getD_mem (by omega))
 rw [show (D.writes i).length - 1 = m by omega]
 obtain ⟨x, hx⟩ : ∃ x, x = D.safe.getD i [] := ⟨_, rfl⟩
 obtain ⟨y, hy⟩ : ∃ y, y = (D.writes i).getD m [] := ⟨_, rfl⟩
 rw [← hx] at hrange hl
 rw [← hy] at hyr hyl ⊢
 obtain ⟨M, hM⟩ := hin.map
 have R : Hid (w.rangeAt sb (i * 64) (byteVals x)) := hrange
 have I : Hid ((Tryz.prog.info? 128).map (·.size) = some (byteVals x).length) := by unfold Hid; rw [byteVals_length, hl]; exact info_sector
 have J : Hid ((Tryz.prog.info? 128).map (·.size) = some (byteVals x).toArray.size) := I
 have L : Hid (x.length = 64) := hl
 have R' : Hid (w.rangeAt g (m * 64) (byteVals y)) := hyr
 have I' : Hid ((Tryz.prog.info? 128).map (·.size) = some (byteVals y).length) := by unfold Hid; rw [byteVals_length, hyl]; exact info_sector
 have J' : Hid ((Tryz.prog.info? 128).map (·.size) = some (byteVals y).toArray.size) := I'
 have L' : Hid (y.length = 64) := hyl
 have T : ∀ (C : Array Value), C.size = 64 → Hid ((w.alloc (.cells C 128)).there w.heap.size 0 (byteVals x).toArray.size) := fun C hC => by
  unfold Hid; rw [show (byteVals x).toArray.size = 64 from (byteVals_length x).trans hl]; exact there_new w C _ 64 (by omega)
 have HI : Hid (DrvIn w p sb pb mb hd D) := hin
 have HM : Hid (MapIn w mb hd D M) := hM
 have HN : Hid (hd i = .slice (some ⟨g, 0, none⟩) (m + 1) cap) := hhd
 have Hi : Hid (i < D.safe.length) := hi
 have hgl : g < w.heap.size := hin.lt g (.inr (.inr (.inr (.inr ⟨i, by rw [hhd]; rfl⟩))))
 have HG : Hid (g < w.heap.size) := hgl
 obtain ⟨n, hn⟩ : ∃ n, n = D.safe.length := ⟨_, rfl⟩
 rw [← hn] at c0 c1 hle hi
 have Hle : Hid (D.safe.length ≤ 4096) := by rw [← hn]; exact hle
 unfold maxLen at hcap2
 clear hin hr hn hf hs hrange hl hx hM hw hcur hs2 hhd hrow hyr hyl hy hlen hgl
 go_enter Tryz.func76, Tryz.ntmps76
 go_wp2_with fail
 refine hc.mono ?_
 rintro e w' ⟨rfl, rfl⟩
 have t1 : True := trivial
 go_wp2_with (first
  | (have _t := t1; refine wpList_load_mid rfl 128 _ rfl sb (i * 64) rfl (byteVals x) _ R.out Tryz.underlying128 rfl I.out ?_)
  | (have _t := t1; refine wpList_store_mid rfl 128 _ _ rfl w'.heap.size 0 (byteVals x).toArray rfl rfl (T _ rfl).out J.out (all_oneCell_toArray (byteVals_one x)) ?_; generalize e2 : World.setCells _ _ _ _ = w2; obtain ⟨r1, r2, r3, r4⟩ := new_world e2 rfl ((byteVals_length x).trans L.out); have c2 := (HI.out.below r3).cells.c2; have lk := (HM.out.only (Only.of_below r3 (fun _ => False)) (fun hf => hf)).look Hi.out Hle.out (by rw [HN.out]; exact hdrD_some _ _ _); rw [HN.out] at lk; have B : Hid (Below w'.heap.size w' w2) := r3; have TT : Hid (w2.there w'.heap.size 0 (byteVals y).toArray.size) := (by unfold Hid; rw [show (byteVals y).toArray.size = 64 from (byteVals_length y).trans L'.out]; exact r2); have R2 : Hid (w2.rangeAt g (m * 64) (byteVals y)) := (fun j v hv => ((r3.cell (p := ⟨g, m * 64 + j, none⟩) HG.out).trans (R'.out j v hv))); clear e2 r1 r2 r3 r4 t1)
  | (refine wpList_load_mid rfl 128 _ rfl g (m * 64) rfl (byteVals y) _ R2.out Tryz.underlying128 rfl I'.out ?_)
  | (refine wpList_store_mid rfl 128 _ _ rfl w'.heap.size 0 (byteVals y).toArray rfl rfl TT.out J'.out (all_oneCell_toArray (byteVals_one y)) ?_; generalize e3 : World.setCells _ _ _ _ = w3; obtain ⟨r1, r3⟩ := again_world e3 (by have h5 := TT.out; rw [show (byteVals y).toArray.size = 64 from (byteVals_length y).trans L'.out] at h5; exact h5) ((byteVals_length y).trans L'.out) B.out (Nat.le_refl _); have hcv := fun (cap : Nat) => range_back r1 109 9 5 (cap := cap) L'.out Tryz.underlying109 Tryz.underlying5 Tryz.underlying9; have B3 : Hid (Below w'.heap.size w' w3) := r3; clear e3 r1 r3))
 go_ret2
 exact ⟨rfl, B3.out⟩
theorem read_any {w : World} {p : Nat} {D : Dr} {F : Nat → Prop} (h : DriveAt w p D F) (i : Int) :
  Calls Tryz.prog 76 #[.pointer (some ⟨p, 0, none⟩), .int .i64 i] w fun e w' => e = .returned (.tuple #[.string (txt (D.readS i)), .int .i64 (D.readE i : Nat)]) ∧ Below w.heap.size w w' := by
 unfold Dr.readS Dr.readE
 by_cases hr : D.reachE i = 0
 ·obtain ⟨h0, hb⟩ := Dr.reach_has hr
  obtain ⟨k, rfl, hk⟩ := Dr.hasB_nat hb
  simp only [hr, if_true, Int.toNat_natCast]
  by_cases hs : D.spoilt.getD k false = true
  ·refine (read_spoilt h k hr hk hs).mono ?_
   rintro e w' ⟨rfl, rfl⟩
   exact ⟨by rw [if_pos hs]; rfl, Below.refl _ _⟩
  ·have hs' : D.spoilt.getD k false = false := by cases h0 : D.spoilt.getD k false with | true => exact absurd h0 hs | false => rfl
   unfold Dr.last
   by_cases hw : D.writes k = []
   ·refine (read_old h k hr hk hs' hw).mono ?_
    rintro e w' ⟨rfl, hb⟩
    exact ⟨by rw [if_neg hs, if_pos hw]; rfl, hb⟩
   ·refine (read_new h k hr hk hs' hw).mono ?_
    rintro e w' ⟨rfl, hb⟩
    exact ⟨by rw [if_neg hs, if_neg hw]; rfl, hb⟩
 ·refine (read_reach h i hr).mono ?_
  rintro e w' ⟨rfl, rfl⟩
  exact ⟨by simp [hr], Below.refl _ _⟩
end Go.Proofs.YtdgkhjgnjfgnlaaGreat
namespace Go.Proofs.YtdgkhjgnjfgnlaaGreat
open Go.RowKit Go.Maps
def Zs (n : Nat) : Array Value := (List.replicate (n * 64) (Value.int .u8 0)).toArray
def Fs (n : Nat) : Array Value := (List.replicate n (Value.bool false)).toArray
theorem info_sector3 : (Tryz.prog.info? 128).map (fun i => (i.zero, i.size, i.bytes)) = some (some (.agg (Array.replicate 64 (.int .u8 0))), 64, 64) := by kernel_rfl
theorem info_bool3 : (Tryz.prog.info? 4).map (fun i => (i.zero, i.size, i.bytes)) = some (some (.bool false), 1, 1) := by kernel_rfl
theorem made_const (c : Value) (k n : Nat) (hk : 0 < k) : madeCells (Array.replicate k c) n = (List.replicate n c).toArray := by
 apply Array.ext'
 unfold madeCells
 rw [List.toList_toArray, Array.toList_map, Array.toList_range]
 apply List.ext_getElem
 ·simp
 ·intro i h1 h2
  simp only [List.getElem_map, List.getElem_range, List.getElem_replicate, Array.size_replicate]
  have : i % k < k := Nat.mod_lt _ hk
  simp [this]
theorem make_sectors (n : Nat) (hn : n ≤ 4096) (w : World) : (Instr.makeSlice 104 (.int .i64 (n : Int)) (.int .i64 (n : Int))).run Tryz.prog w = .ok (.slice (some ⟨w.heap.size, 0, none⟩) n n) (w.alloc (.cells (Zs n) 128)) := by
 obtain ⟨i, hi, hz, hs, hb⟩ := info_parts info_sector3
 have h := run_make (P := Tryz.prog) w 104 128 i _ Tryz.underlying104 hi hz .i64 .i64 (n : Int) (n : Int) (by omega) (Int.le_refl _) (by rw [hb]; omega) (by omega)
 rw [h, hs]
 show Result.ok _ (w.alloc (.cells (madeCells (Array.replicate 64 (Value.int .u8 0)) (((n : Int).toNat) * 64)) 128)) = _
 rw [made_const _ _ _ (by decide)]
 rfl
theorem make_marks (n : Nat) (hn : n ≤ 4096) (w : World) : (Instr.makeSlice 71 (.int .i64 (n : Int)) (.int .i64 (n : Int))).run Tryz.prog w = .ok (.slice (some ⟨w.heap.size, 0, none⟩) n n) (w.alloc (.cells (Fs n) 4)) := by
 obtain ⟨i, hi, hz, hs, hb⟩ := info_parts info_bool3
 have h := run_make (P := Tryz.prog) w 71 4 i _ Tryz.underlying71 hi hz .i64 .i64 (n : Int) (n : Int) (by omega) (Int.le_refl _) (by rw [hb]; omega) (by omega)
 rw [h, hs]
 show Result.ok _ (w.alloc (.cells (madeCells (Array.replicate 1 (Value.bool false)) (((n : Int).toNat) * 1)) 4)) = _
 rw [made_const _ _ _ (by decide), Nat.mul_one]
 rfl
theorem fresh_at {w : World} {n p sb pb mb : Nat} (h1 : 1 ≤ n) (h2 : n ≤ 4096)
  (hp : w.heap[p]? = some (.cells #[.slice (some ⟨sb, 0, none⟩) n n, .slice (some ⟨pb, 0, none⟩) n n, .map (some mb), .bool false, .bool false, .int .i64 0] 107 (0, 0)))
  (hs : w.heap[sb]? = some (.cells (Zs n) 128 (0, 0))) (hb : w.heap[pb]? = some (.cells (Fs n) 4 (0, 0))) (hm : w.heap[mb]? = some (.map #[] 0)) : DrvIn w p sb pb mb (fun _ => .slice none 0 0) (Dr.fresh n) := by
 have hl : (Dr.fresh n).safe.length = n := by simp [Dr.fresh]
 refine ⟨Dr.Ok.fresh h1 h2, by rw [hl]; exact hp, ⟨_, hs, ?_⟩, ⟨_, hb, ?_⟩, ⟨.map [], ?_⟩, fun i => ?_, fun _ _ => rfl, fun i e => by simp [Value.ownBlock] at e, fun i j _ k hk => by simp [Value.ownBlock] at hk⟩
 ·show (Zs n).toList = flat (List.replicate n (List.replicate 64 0))
  rw [flat_zeros]; rfl
 ·show (Fs n).toList = (List.replicate n false).map Value.bool
  rw [List.map_replicate]; rfl
 ·refine ⟨⟨#[], 0, hm, ⟨by simp, MapKept.stamped_empty 0, by simp⟩, Nat.le_refl _, rfl⟩, fun i hi d hd => ?_, fun i hi => rfl, fun kl hk => by cases hk⟩
  cases hd; rfl
 ·exact World.ownsRow_nil w 0 _ 64
theorem four (w : World) (A B C E : Obj) : ((((w.alloc A).alloc B).alloc C).alloc E).drew.heap[w.heap.size]? = some A ∧ ((((w.alloc A).alloc B).alloc C).alloc E).drew.heap[w.heap.size + 1]? = some B ∧ ((((w.alloc A).alloc B).alloc C).alloc E).drew.heap[w.heap.size + 1 + 1]? = some C ∧ ((((w.alloc A).alloc B).alloc C).alloc E).drew.heap[w.heap.size + 1 + 1 + 1]? = some E ∧ Below w.heap.size w ((((w.alloc A).alloc B).alloc C).alloc E).drew := by
 have s1 : (w.alloc A).heap.size = w.heap.size + 1 := by simp
 have s2 : ((w.alloc A).alloc B).heap.size = w.heap.size + 1 + 1 := by simp
 have s3 : (((w.alloc A).alloc B).alloc C).heap.size = w.heap.size + 1 + 1 + 1 := by simp
 refine ⟨?_, ?_, ?_, ?_, ((((Below.refl _ w).alloc (Nat.le_refl _) _).alloc (by simp) _).alloc (by simp; omega) _).alloc (by simp; omega) _ |>.drew⟩
 ·show ((((w.alloc A).alloc B).alloc C).alloc E).heap[w.heap.size]? = _
  rw [Below.heap_alloc _ _ _ (by omega), Below.heap_alloc _ _ _ (by omega), Below.heap_alloc _ _ _ (by omega)]
  exact heap_alloc_last w A
 ·show ((((w.alloc A).alloc B).alloc C).alloc E).heap[w.heap.size + 1]? = _
  rw [Below.heap_alloc _ _ _ (by omega), Below.heap_alloc _ _ _ (by omega), ← s1]
  exact heap_alloc_last _ B
 ·show ((((w.alloc A).alloc B).alloc C).alloc E).heap[w.heap.size + 1 + 1]? = _
  rw [Below.heap_alloc _ _ _ (by omega), ← s2]
  exact heap_alloc_last _ C
 ·show ((((w.alloc A).alloc B).alloc C).alloc E).heap[w.heap.size + 1 + 1 + 1]? = _
  rw [← s3]
  exact heap_alloc_last _ E
theorem foot_new {w : World} {p sb pb mb : Nat} (h1 : w.heap.size ≤ p) (h2 : w.heap.size ≤ sb) (h3 : w.heap.size ≤ pb) (h4 : w.heap.size ≤ mb) : ∀ k, Foot p sb pb mb (fun _ => .slice none 0 0) k → w.heap.size ≤ k := by
 intro k hk
 rcases hk with rfl | rfl | rfl | rfl | ⟨i, hi⟩
 ·exact h1
 ·exact h2
 ·exact h3
 ·exact h4
 ·simp [Value.ownBlock] at hi
set_option maxRecDepth 100000 in
set_option maxHeartbeats 1000000 in
theorem new_yes (n : Nat) (h1 : 1 ≤ n) (h2 : n ≤ 4096) (w : World) : Calls Tryz.prog 32 #[.int .i64 (n : Nat)] w fun e w' => ∃ p, e = .returned (.pointer (some ⟨p, 0, none⟩)) ∧ DriveAt w' p (Dr.fresh n) (fun k => w.heap.size ≤ k) ∧ Below w.heap.size w w' := by
 have m1 := make_sectors n h2
 have m2 := make_marks n h2
 have m3 := fun W => run_makeMap (P := Tryz.prog) 105 W
 have t1 : ¬ (n : Int) < 1 := by omega
 have t2 : ¬ (4096 : Int) < n := by omega
 have h3 : (n : Int) ≤ 4096 := by omega
 go_enter Tryz.func32, Tryz.ntmps32
 go_wp2
 go_region
 all_goals
  go_wp2
  go_ret
  refine ⟨_, rfl, ⟨_, _, _, _, fresh_at h1 h2 (four w _ _ _ _).2.2.2.1 ?_ ?_ ?_, foot_new (by omega) (by omega) (by omega) (by omega)⟩, (four w _ _ _ _).2.2.2.2⟩
  all_goals first | exact (four w _ _ _ _).1 | exact (four w _ _ _ _).2.1 | exact (four w _ _ _ _).2.2.1
end Go.Proofs.YtdgkhjgnjfgnlaaGreat
namespace Go.Proofs.YtdgkhjgnjfgnlaaGreat
open Go.RowKit Go.Maps
namespace Dr
def sumTo (n : Nat) (f : Nat → Nat) : Nat := ((List.range n).map f).sum
def doneSum (D : Dr) (L : Nat → Bool) : Nat := sumTo D.safe.length fun i => if L i then 0 else (D.writes i).length
end Dr
theorem MapIn.key {w : World} {mb : Nat} {hd : Nat → Value} {D : Dr} {M : DataW Unit} (h : MapIn w mb hd D M) {x : Int} (hx : Maps.has M (.int .i64 x) = true) : ∃ k : Nat, k < D.safe.length ∧ x = (k : Int) := by
 obtain ⟨k, hk, e⟩ := h.keys _ hx
 refine ⟨k, hk, ?_⟩
 unfold keyL at e
 injection e
theorem DrvIn.head {w : World} {p sb pb mb : Nat} {hd : Nat → Value} {D : Dr} (h : DrvIn w p sb pb mb hd D) (i : Nat) : ∃ a cap, hd i = .slice a (D.writes i).length cap := by
 rcases (h.rows i).2 with ⟨e, h0⟩ | ⟨g, cap, cur, e, _⟩
 ·exact ⟨none, 0, by rw [e, h0]⟩
 ·exact ⟨_, _, e⟩
end Go.Proofs.YtdgkhjgnjfgnlaaGreat
namespace Go.Proofs.YtdgkhjgnjfgnlaaGreat
open Go.RowKit Go.Maps
theorem ownsMap_tight {P : Program} {k b n : Nat} {R : Value → Option (DataW Unit × List MemPlace)} {D : DataW Unit} {w : World} (h : w.ownsMap P k R b n D) : w.ownsMap P k R b (Maps.size D) D := by
 obtain ⟨es, cl, hb, F, _, rfl⟩ := h
 exact ⟨es, cl, hb, F, by rw [Maps.size_eq, length_sorted]; simp, rfl⟩
theorem nodup_le {α : Type} [DecidableEq α] : ∀ {l r : List α}, l.Nodup → (∀ x ∈ l, x ∈ r) → l.length ≤ r.length
 | [], _, _, _ => Nat.zero_le _
 | a :: l, r, hn, hs => by
  rw [List.nodup_cons] at hn
  have ha : a ∈ r := hs a (by simp)
  have ih := nodup_le (l := l) (r := r.erase a) hn.2 (fun x hx => (List.mem_erase_of_ne (fun e => hn.1 (by rw [← e]; exact hx))).2 (hs x (by simp [hx])))
  rw [List.length_erase_of_mem ha] at ih
  have := List.length_pos_of_mem ha
  rw [List.length_cons]; omega
theorem MapIn.size_le {w : World} {mb : Nat} {hd : Nat → Value} {D : Dr} {M : DataW Unit} (h : MapIn w mb hd D M) : Maps.size M ≤ D.safe.length := by
 obtain ⟨es, rfl, hp, hk⟩ := h.owns.entries (int_keyed Tryz.underlying3)
 rw [Maps.size_eq]
 have hmem : ∀ p ∈ es, ∃ i, i < D.safe.length ∧ p.1 = keyL i := fun p hp' => h.keys p.1 (by
  rw [Maps.has_eq, List.any_eq_true]
  exact ⟨p, hp', WideAt.sameKey_self (hk p hp')⟩)
 have hn : (es.map fun p => p.1).Nodup := List.pairwise_map.2 hp
 have hsub : (es.map fun p => p.1) ⊆ (List.range D.safe.length).map keyL := by
  intro l hl
  obtain ⟨p, hp', rfl⟩ := List.mem_map.1 hl
  obtain ⟨i, hi, e⟩ := hmem p hp'
  exact List.mem_map.2 ⟨i, List.mem_range.2 hi, e.symm⟩
 have : (es.map fun p => p.1).length ≤ ((List.range D.safe.length).map keyL).length := by classical exact nodup_le hn hsub
 simpa using this
theorem MapIn.put {w w' : World} {mb : Nat} {hd : Nat → Value} {D D' : Dr} {M : DataW Unit} (h : MapIn w mb hd D M) (ok : D.Ok) {i m : Nat} (hi : i < D.safe.length) {v : Value} {d : DataW Unit} (hv : hdrD v = some (d, []))
  (ho : w'.ownsMap Tryz.prog 3 hdrD mb m (M.put (keyL i) d)) (e1 : D'.safe = D.safe) (e2 : D'.writes i ≠ []) (e3 : ∀ j, j ≠ i → D'.writes j = D.writes j) : MapIn w' mb (fun j => if j = i then v else hd j) D' (M.put (keyL i) d) := by
 have hle := ok.le
 have hk := isKeyL i (by omega)
 have hm := h.owns.isMap
 refine ⟨ownsMap_tight ho, ?_, ?_, ?_⟩
 ·rw [e1]
  intro j hj d' hd'
  by_cases e : j = i
  ·subst e
   rw [if_pos rfl, hv] at hd'
   cases hd'
   exact atKey_put_same hm hk _ _
  ·rw [if_neg e] at hd'
   rw [atKey_put_other (fun x => e (keyL_inj x))]
   exact h.at_ j hj d' hd'
 ·rw [e1]
  intro j hj
  by_cases e : j = i
  ·subst e
   rw [has_put_same hm hk]
   cases e0 : D'.writes j with
   | nil => exact absurd e0 e2
   | cons _ _ => rfl
  ·rw [has_put_other (fun x => e (keyL_inj x)), e3 j e]
   exact h.has j hj
 ·rw [e1]
  intro kl hkl
  by_cases e : kl = keyL i
  ·exact ⟨i, hi, e⟩
  ·rw [has_put_other e] at hkl
   exact h.keys kl hkl
theorem MapIn.none {w : World} {mb cl : Nat} {D : Dr} (hb : w.heap[mb]? = some (.map #[] cl)) (hs : MapKept.Stamped #[] cl) (hw : ∀ i, D.writes i = []) : MapIn w mb (fun _ => .slice none 0 0) D (.map []) :=
 ⟨⟨#[], cl, hb, ⟨by simp, hs, by simp⟩, Nat.le_refl _, rfl⟩, fun i hi d hd => by cases hd; rfl, fun i hi => by rw [hw i]; rfl, fun kl hk => by cases hk⟩
end Go.Proofs.YtdgkhjgnjfgnlaaGreat
namespace Go.Proofs.YtdgkhjgnjfgnlaaGreat
open Go.RowKit Go.Maps
theorem fill_list : ∀ (l : List Value) (k : Nat) (Z : Array Value), k + l.length = Z.size → ((l.zipIdx k).foldl (fun cs (x : Value × Nat) => cs.setIfInBounds (0 + x.2) x.1) Z).toList = Z.toList.take k ++ l
 | [], k, Z, h => by simp at h ⊢; rw [List.take_of_length_le (by simp; omega)]
 | v :: r, k, Z, h => by
  simp only [List.length_cons] at h
  rw [List.zipIdx_cons, List.foldl_cons]
  rw [fill_list r (k + 1) (Z.setIfInBounds (0 + k) v) (by simp; omega)]
  rw [Array.toList_setIfInBounds, Nat.zero_add, List.take_succ_eq_append_getElem (by simp; omega)]
  rw [List.take_set_of_le (by omega)]
  simp
theorem run_build_sector (cells : Array Value) (hc : cells.size = 64) (W : World) : (Instr.buildSlice 104 1 #[(0, .agg cells)]).run Tryz.prog W = .ok (.slice (some ⟨W.heap.size, 0, none⟩) 1 1) (W.alloc (.cells cells 128)) := by
 obtain ⟨i, hi, hz, hs, hb⟩ := info_parts info_sector3
 have hf : ∀ Z : Array Value, Z.size = 64 → Instr.fill (fun j => some (j * 64, 64)) Z [(0, .agg cells)] = some cells := by
  intro Z hZ
  have h1 : (cells.zipIdx.foldl (fun cs (x : Value × Nat) => cs.setIfInBounds (0 + x.2) x.1) Z) = cells := by
   apply Array.ext'
   rw [← Array.foldl_toList, Array.toList_zipIdx]
   rw [fill_list cells.toList 0 Z (by simp; omega)]
   simp
  have hcs : (Value.agg cells).cells = cells := rfl
  simp only [Nat.zero_add] at h1
  simp [Instr.fill, hcs, hc, hZ]
  rw [show cells.zipIdx.size = 64 by simp [hc]] at h1
  exact h1
 have hZ : ((Array.range (1 * 64)).map (fun x => ((Value.agg (Array.replicate 64 (.int .u8 0))).cells)[x % ((Value.agg (Array.replicate 64 (.int .u8 0))).cells).size]!)).size = 64 := by simp
 have hF := hf _ hZ
 simp [Instr.buildSlice, run_underlying Tryz.underlying104, sizeOf, typeInfo, hi, hs, zeroValue, hz]
 rw [show 1 * 64 = 64 from rfl] at hF
 rw [hF]
 simp [newRow]
theorem wpList_build_sector {ops : Array Oper} {rest : List Oper} {o : Oper} {a : Act} {w : World} {Q : Exit → Act → World → Prop} (hgd : o.guard = none) (x : Operand)
  (ho : o.op = .buildSlice 104 1 #[(0, x)]) (cells : Array Value) (hx : a.eval x = .agg cells) (hc : cells.size = 64)
  (h : wpList Tryz.prog ops Q rest (a.put o.dst (.slice (some ⟨w.heap.size, 0, none⟩) 1 1)) (w.alloc (.cells cells 128))) : wpList Tryz.prog ops Q (o :: rest) a w := by
 refine wpList_plain hgd fun K hK => ?_
 have hr := run_build_sector cells hc w
 unfold Oper.wp execOp
 simp only [ho, Sem.run_bind, Sem.run_pure, Result.andThen_ok, List.map_toArray, List.map_cons, List.map_nil, hx, hr]
 exact hK _ _ h
theorem DrvIn.wrote {w w2 w3 w4 : World} {p sb pb mb : Nat} {hd : Nat → Value} {D : Dr} {M : DataW Unit} (h : DrvIn w p sb pb mb hd D) (hM : MapIn w mb hd D M) {i m : Nat} (hi : i < D.safe.length) {s : List UInt8} (hs : s.length = 64)
  (h2 : Below w.heap.size w w2) {v : Value} {d : DataW Unit} (h3 : w2.grownBy w3 (hd i).ownBlock) (hr : w3.ownsRow 0 128 64 v ((D.writes i).length + 1) (flat (D.writes i) ++ byteVals s))
  (hl : v.ownBlock = (hd i).ownBlock ∨ v.ownBlock = some w2.heap.size) (hv : hdrD v = some (d, [])) (ho : w4.ownsMap Tryz.prog 3 hdrD mb m (M.put (keyL i) d)) (h4 : w3.grownBy w4 (some mb)) :
  DrvIn w4 p sb pb mb (fun j => if j = i then v else hd j) { D with writes := fun j => if j = i then D.writes i ++ [s] else D.writes j } ∧ Only (Foot p sb pb mb hd) w w4 ∧ ∀ k, Foot p sb pb mb (fun j => if j = i then v else hd j) k → Foot p sb pb mb hd k ∨ w.heap.size ≤ k := by
 have ho1 := h.others
 have lt := h.lt
 have hok := h.ok
 obtain ⟨c1, hsf, hs2⟩ := h.safe
 obtain ⟨c2, hp, hp2⟩ := h.spoilt
 have o2 : Only (Foot p sb pb mb hd) w w2 := Only.of_below h2 _
 have o3 : Only (fun k => (hd i).ownBlock = some k) w2 w3 := Only.of_grown h3 _ (fun k hk => hk)
 have o4 : Only (One mb) w3 w4 := Only.of_grown h4 _ (fun k hk => by injection hk with hk; exact hk.symm)
 have hold : ∀ k, k < w.heap.size → k ≠ mb → (hd i).ownBlock ≠ some k → w4.heap[k]? = w.heap[k]? := by
  intro k hk h1 h2'
  have hk2 : k < w2.heap.size := Nat.lt_of_lt_of_le hk h2.size
  rw [o4.block k (Nat.lt_of_lt_of_le hk2 o3.size) h1, o3.block k hk2 h2']
  exact h2.block k hk
 have vnew : ∀ k, v.ownBlock = some k → (hd i).ownBlock = some k ∨ w.heap.size ≤ k := by
  intro k hk
  rcases hl with e | e
  ·exact .inl (by rw [← e]; exact hk)
  ·rw [hk] at e; injection e with e; exact .inr (by rw [e]; exact h2.size)
 have vlt : ∀ k, v.ownBlock = some k → k < w3.heap.size := fun k hk => (hr.lt k hk).2
 have mne : ∀ k, v.ownBlock = some k → k ≠ mb := by
  intro k hk e
  rcases vnew k hk with h1 | h1
  ·exact ho1.r_mb i (by rw [h1, e])
  ·have := lt mb (.inr (.inr (.inr (.inl rfl)))); omega
 refine ⟨⟨?_, ?_, ⟨c1, ?_, hs2⟩, ⟨c2, ?_, hp2⟩, ⟨M.put (keyL i) d, ?_⟩, ?_, ?_, ?_, ?_⟩, ?_, ?_⟩
 ·have := hok.put hi hs
  exact ⟨hok.pos, hok.le, hok.spoilt, hok.sector, this.writes, this.out, hok.left⟩
 ·exact (hold p (lt p (.inl rfl)) ho1.p_mb (ho1.r_p i)).trans h.self
 ·exact (hold sb (lt sb (.inr (.inl rfl))) ho1.sb_mb (ho1.r_sb i)).trans hsf
 ·exact (hold pb (lt pb (.inr (.inr (.inl rfl)))) ho1.pb_mb (ho1.r_pb i)).trans hp
 ·exact hM.put hok hi hv ho rfl (by simp) (fun j hj => by simp [hj])
 ·intro j
  by_cases e : j = i
  ·subst e
   have e2 : (if j = j then D.writes j ++ [s] else D.writes j) = D.writes j ++ [s] := if_pos rfl
   have hr4 := ownsRow_only o4 hr (fun k hk => mne k hk)
   show w4.ownsRow 0 128 64 (if j = j then v else hd j) (if j = j then D.writes j ++ [s] else D.writes j).length (flat (if j = j then D.writes j ++ [s] else D.writes j))
   rw [e2, if_pos rfl, List.length_append, flat_append]
   have e3 : flat [s] = byteVals s := by rw [flat_cons, flat_nil, List.append_nil]
   rw [e3]
   exact hr4
  ·show w4.ownsRow 0 128 64 (if j = i then v else hd j) (if j = i then D.writes i ++ [s] else D.writes j).length (flat (if j = i then D.writes i ++ [s] else D.writes j))
   rw [if_neg e, if_neg e]
   have hr0 := h.rows j
   refine ⟨hr0.1, ?_⟩
   rcases hr0.2 with h0 | ⟨g, cap, cur, eg, hg0, hg, rest⟩
   ·exact .inl h0
   ·have hb : (hd j).ownBlock = some g := by rw [eg]; rfl
    refine .inr ⟨g, cap, cur, eg, hg0, ?_, rest⟩
    rw [hold g (lt g (.inr (.inr (.inr (.inr ⟨j, hb⟩))))) (fun e' => ho1.r_mb j (by rw [hb, e'])) (h.apart j i e g hb)]
    exact hg
 ·intro j hj
  have hj' : (if j = i then D.writes i ++ [s] else D.writes j) = [] := hj
  by_cases e : j = i
  ·rw [if_pos e] at hj'; simp at hj'
  ·rw [if_neg e] at hj'
   show (if j = i then v else hd j) = _
   rw [if_neg e]; exact h.nil j hj'
 ·intro j
  show (if j = i then v else hd j).ownBlock ≠ some sb
  by_cases e : j = i
  ·rw [if_pos e]
   intro hk
   rcases vnew sb hk with h1 | h1
   ·exact ho1.r_sb i h1
   ·have := lt sb (.inr (.inl rfl)); omega
  ·rw [if_neg e]; exact h.off j
 ·intro a b hab k hk hk'
  have hk1 : (if a = i then v else hd a).ownBlock = some k := hk
  have hk2 : (if b = i then v else hd b).ownBlock = some k := hk'
  by_cases ea : a = i
  ·rw [if_pos ea] at hk1
   rw [if_neg (fun eb => hab (ea.trans eb.symm))] at hk2
   rcases vnew k hk1 with h1 | h1
   ·exact h.apart i b (fun e => hab (ea.trans e)) k h1 hk2
   ·have := lt k (.inr (.inr (.inr (.inr ⟨b, hk2⟩)))); omega
  ·rw [if_neg ea] at hk1
   by_cases eb : b = i
   ·rw [if_pos eb] at hk2
    rcases vnew k hk2 with h1 | h1
    ·exact h.apart i a (fun e => ea e.symm) k h1 hk1
    ·have := lt k (.inr (.inr (.inr (.inr ⟨a, hk1⟩)))); omega
   ·rw [if_neg eb] at hk2
    exact h.apart a b hab k hk1 hk2
 ·refine ⟨by rw [o4.os, o3.os, o2.os], by rw [o4.tape, o3.tape, o2.tape], by rw [o4.output, o3.output, o2.output], Nat.le_trans o2.size (Nat.le_trans o3.size o4.size), fun k hk hn => hold k hk (fun e => hn (.inr (.inr (.inr (.inl e))))) (fun e => hn (.inr (.inr (.inr (.inr ⟨i, e⟩)))))⟩
 ·intro k hk
  rcases hk with e | e | e | e | ⟨j, hj⟩
  ·exact .inl (.inl e)
  ·exact .inl (.inr (.inl e))
  ·exact .inl (.inr (.inr (.inl e)))
  ·exact .inl (.inr (.inr (.inr (.inl e))))
  ·have hj' : (if j = i then v else hd j).ownBlock = some k := hj
   by_cases e : j = i
   ·rw [if_pos e] at hj'
    rcases vnew k hj' with h1 | h1
    ·exact .inl (.inr (.inr (.inr (.inr ⟨i, h1⟩))))
    ·exact .inr h1
   ·rw [if_neg e] at hj'
    exact .inl (.inr (.inr (.inr (.inr ⟨j, hj'⟩))))
end Go.Proofs.YtdgkhjgnjfgnlaaGreat
