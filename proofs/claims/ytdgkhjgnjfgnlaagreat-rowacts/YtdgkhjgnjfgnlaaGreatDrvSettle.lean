import Derived.Test.YtdgkhjgnjfgnlaaGreatDrvWrite
import Derived.Test.YtdgkhjgnjfgnlaaGreatSorted
namespace Go.Proofs.YtdgkhjgnjfgnlaaGreat
open Go.RowKit Go.Maps Go.ChangeMaps
theorem busy_keys {w : World} {mb : Nat} {hd : Nat → Value} {D : Dr} {M : DataW Unit} (h : MapIn w mb hd D M) {ss : List Int} (hp : ss.Perm (intKeys M)) : ss.mergeSort leI = D.busy.map (fun i : Nat => (i : Int)) := by
 obtain ⟨es, rfl, hap, hk⟩ := h.owns.entries (int_keyed Tryz.underlying3)
 have hmem : ∀ p ∈ es, ∃ i, i < D.safe.length ∧ p.1 = keyL i := fun p hp' => h.keys p.1 (by
  rw [Maps.has_eq, List.any_eq_true]
  exact ⟨p, hp', WideAt.sameKey_self (hk p hp')⟩)
 have hnd : (D.busy.map (fun i : Nat => (i : Int))).Nodup := List.pairwise_map.2 (D.busy_nodup.imp fun {a b} hne e => hne (by omega))
 have hm : ∀ x, x ∈ D.busy.map (fun i : Nat => (i : Int)) ↔ Maps.has (.map es) (.int .i64 x) = true := by
  intro x
  rw [List.mem_map]
  constructor
  ·rintro ⟨i, hi, rfl⟩
   obtain ⟨h1, h2⟩ := Dr.busy_mem.1 hi
   have := h.has i h1
   rw [show (Lit.int .i64 (i : Int)) = keyL i from rfl, this]
   cases e : D.writes i with
   | nil => exact absurd e h2
   | cons _ _ => rfl
  ·intro hx
   obtain ⟨k, hk1, rfl⟩ := h.key hx
   refine ⟨k, Dr.busy_mem.2 ⟨hk1, fun e => ?_⟩, rfl⟩
   have := h.has k hk1
   rw [show (Lit.int .i64 (k : Int)) = keyL k from rfl] at hx
   rw [hx, e] at this
   cases this
 have hperm := perm_intKeys hap (fun p hp' => by obtain ⟨i, _, e⟩ := hmem p hp'; exact ⟨_, e⟩) hnd hm
 rw [mergeSort_of_perm_i (hp.trans hperm.symm)]
 have tr : ∀ a b c : Int, leI a b = true → leI b c = true → leI a c = true := fun a b c h1 h2 => by simp only [leI, decide_eq_true_eq] at *; exact Int.le_trans h1 h2
 have to : ∀ a b : Int, (leI a b || leI b a) = true := fun a b => by simp only [leI, Bool.or_eq_true, decide_eq_true_eq]; exact Int.le_total a b
 refine List.Perm.eq_of_pairwise (le := fun a b => leI a b = true) (fun a b _ _ h1 h2 => ?_) (List.pairwise_mergeSort tr to _) (List.pairwise_map.2 (D.busy_sorted.imp fun {a b} hlt => by simp only [leI, decide_eq_true_eq]; omega)) (List.mergeSort_perm _ leI)
 simp only [leI, decide_eq_true_eq] at h1 h2
 omega
theorem DrvIn.setSafe {w : World} {p sb pb mb : Nat} {hd : Nat → Value} {D : Dr} (h : DrvIn w p sb pb mb hd D) {i : Nat} (hi : i < D.safe.length) {s : List UInt8} (hs : s.length = 64) : DrvIn (w.setCells sb (i * 64) (byteVals s)) p sb pb mb hd { D with safe := D.safe.set i s } := by
 have ho := h.others
 obtain ⟨c1, hsf, hs2⟩ := h.safe
 obtain ⟨c2, hp, hp2⟩ := h.spoilt
 obtain ⟨M, hM⟩ := h.map
 have lt := h.lt
 have hg : Only (One sb) w (w.setCells sb (i * 64) (byteVals s)) := Only.setCells _ w sb _ _ rfl
 have hl : (D.safe.set i s).length = D.safe.length := List.length_set
 refine ⟨⟨by rw [hl]; exact h.ok.pos, by rw [hl]; exact h.ok.le, by rw [hl]; exact h.ok.spoilt, ?_, h.ok.writes, by rw [hl]; exact h.ok.out, h.ok.left⟩, by rw [hl]; exact (hg.block p (lt p (.inl rfl)) ho.p_sb).trans h.self, flat_setCells hsf hs2 h.ok.sector hi hs, ⟨c2, (hg.block pb (lt pb (.inr (.inr (.inl rfl)))) (fun e => ho.sb_pb e.symm)).trans hp, hp2⟩, ⟨M, ?_⟩, fun j => ownsRow_only hg (h.rows j) (fun k hk e => ho.r_sb j (by rw [hk]; exact congrArg some e)), h.nil, h.off, h.apart⟩
 ·intro t ht
  rcases List.mem_or_eq_of_mem_set ht with h1 | h1
  ·exact h.ok.sector t h1
  ·rw [h1]; exact hs
 ·have h1 := hM.only hg (fun e => ho.sb_mb e.symm)
  exact ⟨h1.owns, by rw [hl]; exact h1.at_, by rw [hl]; exact h1.has, by rw [hl]; exact h1.keys⟩
theorem DrvIn.cleared {w : World} {p sb pb mb : Nat} {hd : Nat → Value} {D : Dr} (h : DrvIn w p sb pb mb hd D) : ∃ w', (∀ ty, (Builtin.clear_ #[105] ty #[.map (some mb)]).run Tryz.prog w = .ok (.tuple #[]) w') ∧ DrvIn w' p sb pb mb (fun _ => .slice none 0 0) { D with writes := fun _ => [] } ∧ Only (One mb) w w' := by
 have ho := h.others
 obtain ⟨c1, hsf, hs2⟩ := h.safe
 obtain ⟨c2, hp, hp2⟩ := h.spoilt
 obtain ⟨M, hM⟩ := h.map
 have lt := h.lt
 obtain ⟨es, cl, hb, _⟩ := hM.owns
 have hrun : ∀ ty, (Builtin.clear_ #[105] ty #[.map (some mb)]).run Tryz.prog w = .ok (.tuple #[]) (setBlock w mb (.map #[] cl)) := fun ty => by
  simp [Builtin.clear_, run_underlying Tryz.underlying105, MapKept.run_getObj_map hb, MapKept.run_setObj_map _ hb, Result.andThen, setBlock]
 have hg : Only (One mb) w (setBlock w mb (.map #[] cl)) := ⟨rfl, rfl, rfl, by simp [setBlock], fun k _ hn => heap_setBlock_other hb _ (fun e => hn e)⟩
 refine ⟨_, hrun, ⟨⟨h.ok.pos, h.ok.le, h.ok.spoilt, h.ok.sector, fun i s hs => absurd hs List.not_mem_nil, fun i _ => rfl, h.ok.left⟩, (hg.block p (lt p (.inl rfl)) ho.p_mb).trans h.self, ⟨c1, (hg.block sb (lt sb (.inr (.inl rfl))) ho.sb_mb).trans hsf, hs2⟩, ⟨c2, (hg.block pb (lt pb (.inr (.inr (.inl rfl)))) ho.pb_mb).trans hp, hp2⟩, ⟨.map [], MapIn.none (heap_setBlock_same hb _) (MapKept.stamped_empty _) (fun _ => rfl)⟩, fun i => World.ownsRow_nil _ 0 _ 64, fun _ _ => rfl, fun i e => by simp [Value.ownBlock] at e, fun i j _ k hk => by simp [Value.ownBlock] at hk⟩, hg⟩
theorem sorted_row {w w1 : World} {base mb : Nat} {hd : Nat → Value} {D : Dr} {M : DataW Unit} {v : Value} {ss : List Int} (h : MapIn w mb hd D M) (hp : ss.Perm (intKeys M)) (hr : w1.ownsRow base 3 1 v ss.length ((ss.mergeSort fun x y => decide (x ≤ y)).map encZ)) :
  ∃ a cap, v = .slice a D.busy.length cap ∧ RowI .i64 w1 a D.busy.length (fun j => ((D.busy.getD j 0 : Nat) : Int)) ∧ ∀ x, a = some x → base ≤ x.block := by
 have hk := busy_keys h hp
 have hl : ss.length = D.busy.length := by have := congrArg List.length hk; simpa using this
 rw [show (ss.mergeSort fun x y => decide (x ≤ y)) = _ from hk, hl] at hr
 obtain ⟨a, cap, e, hI, hb⟩ := RowI.of_owns (k := .i64) hr
 exact ⟨a, cap, e, hI.mono (Nat.le_refl _) (fun j _ => natCast_getD _ j), hb⟩
theorem held_load {P : Program} {ops : Array Oper} {Q : Exit → Act → World → Prop} {md : Region.Mode} {S : World → Prop} (i : Nat) {oi : Oper} {fuel : Nat} {listed : Array Bool} {a : Act} {w : World} (hi : nthOp ops.toList i = some oi)
  (hc : (Region.noSelect ops && Region.free md ops listed i && (Region.ready md ops listed).contains i) = true) (cs : List Value)
  (hQ : ∀ c a w, Q (.panic c) (a.put oi.dst (.agg cs.toArray)) w → Q (.panic c) a w) (hS : S w) (hw : Region.wanted oi (yielded ops a.tmps) = true)
  (ty : TypeId) (x : Operand) (ho : oi.op = .load ty x) (b o : Nat) (hx : a.eval x = .pointer (some ⟨b, o, none⟩)) (d : TypeDesc) (hr : ∀ w, S w → w.rangeAt b o cs)
  (hu : P.underlying ty = some d) (hd : d.isRow = true) (hsz : (P.info? ty).map (·.size) = some cs.length)
  (h : wpAnyH P md ops Q S fuel (listed.setIfInBounds i true) (a.put oi.dst (.agg cs.toArray)) w) : wpAnyH P md ops Q S (fuel + 1) listed a w := by
 rw [Bool.and_eq_true, Bool.and_eq_true] at hc
 exact wpAnyH_take (ops_at hi) hc.1.1 hc.1.2 hc.2 hQ (yieldsIf_load_mid hw ty x ho b o hx cs d hr hu hd hsz) hS h
def Dr.at_ (D : Dr) (K : Nat → Nat → Nat) (k : Nat) : Dr := { D with safe := D.safeAt K k }
theorem Dr.at_len (D : Dr) (K : Nat → Nat → Nat) (k : Nat) : (D.at_ K k).safe.length = D.safe.length := Dr.safeAt_length D K k
def KeepsAt (f : Nat) (cs : Array Value) (K : Nat → Nat → Nat) (G : World → Prop) : Prop :=
 ∀ (W : World), G W → ∀ k c : Nat, k < 4096 → c ≤ 1000000 → Calls Tryz.prog f (#[.int .i64 (k : Nat), .int .i64 (c : Nat)] ++ cs) W fun e w' => e = .returned (.int .i64 (K k c : Nat)) ∧ Below W.heap.size W w'
set_option maxRecDepth 100000 in
set_option maxHeartbeats 2000000 in
theorem settle_any {w : World} {p : Nat} {D : Dr} {F : Nat → Prop} (h : DriveAt w p D F) (f : Nat) (cs : Array Value) (K : Nat → Nat → Nat) (hK : ∀ k c, K k c ≤ c) (hlen : ∀ i, (D.writes i).length ≤ 1000000)
  (G : World → Prop) (hG : ∀ W, Only F w W → G W) (hf : KeepsAt f cs K G) (hcf : ∀ args W, (callFunc f args).run Tryz.prog W = .ok (.enter f args) W) :
  Calls Tryz.prog 70 #[.pointer (some ⟨p, 0, none⟩), .func (.func f) #[] cs] w fun e w' => e = .returned (.tuple #[]) ∧ DriveAt w' p (D.settle K) F ∧ Only F w w' := by
 obtain ⟨sb, pb, mb, hd, hin, hft⟩ := h
 have c2 := hin.cells.c2
 obtain ⟨M, hM⟩ := hin.map
 have hle := hin.ok.le
 have hms := hM.size_le
 have HI : Hid (DrvIn w p sb pb mb hd D) := hin
 have HM : Hid (MapIn w mb hd D M) := hM
 have HF : Hid (∀ k, Foot p sb pb mb hd k → F k) := hft
 have HK : Hid (∀ k c, K k c ≤ c) := hK
 have HL : Hid (∀ i, (D.writes i).length ≤ 1000000) := hlen
 have HG : Hid (∀ W, Only F w W → G W) := hG
 have HKF : Hid (KeepsAt f cs K G) := hf
 have HLE : Hid (D.safe.length ≤ 4096) := hle
 have HMS : Hid (Maps.size M ≤ D.safe.length) := hms
 have hmbl : mb < w.heap.size := hM.owns.lt
 clear hin hM hft hK hlen hG hf hle hms
 go_enter Tryz.func70, Tryz.ntmps70
 go_wp2_with (first
  | (go_at_call 102; refine (callsIn_wide.1 (Tryz.keysCall _ _)).mono ?_; rintro e w' ⟨rfl, rfl⟩)
  | (go_at_call 101; refine (callsIn_wide.1 (Tryz.sortedCall mb (Maps.size M) M hdrD w HM.out.owns (by have h1 := HMS.out; have h2 := HLE.out; unfold maxLen; omega) (by have h1 := HMS.out; have h2 := HLE.out; omega))).mono ?_; rintro e w1 ⟨v, ss, rfl, hperm, hrow, hnil, hb1⟩; obtain ⟨a, cap, rfl, hI, hbase⟩ := sorted_row HM.out hperm hrow; have hB1 : Hid (Below w.heap.size w w1) := (((Below.refl _ w).alloc (Nat.le_refl _) _).trans (hb1.mono (by simp))); have HIr : Hid (RowI .i64 w1 a D.busy.length (fun j => ((D.busy.getD j 0 : Nat) : Int))) := hI; have HBa : Hid (∀ x, a = some x → w.heap.size ≤ x.block) := (fun x hx => Nat.le_trans (by simp) (hbase x hx)); have hbl := D.busy_length_le; obtain ⟨m, em⟩ : ∃ m, m = D.busy.length := ⟨_, rfl⟩; rw [← em]; have EM : Hid (m = D.busy.length) := em; have hm4 : m ≤ 4096 := (by have h2 := HLE.out; omega); clear hperm hrow hnil hb1 hI hbase hbl em))
 go_loopw [15] (fun k wr => ∃ k0 : Nat, k0 ≤ m ∧ k = .int .i64 k0 ∧ DrvIn wr p sb pb mb hd (D.at_ K k0) ∧ Only (One sb) w1 wr) (fun k _ => m - (intOf k).toNat)
 case atStart => exact ⟨0, Nat.zero_le _, rfl, HI.out.below hB1.out, Only.refl _ _⟩
 case round =>
  obtain ⟨k0, hk0, rfl, hwr, hon⟩ := hrel
  have HWR : Hid (DrvIn wr p sb pb mb hd (D.at_ K k0)) := hwr
  have HON : Hid (Only (One sb) w1 wr) := hon
  clear hwr hon
  by_cases hlt : k0 < m
  ·have hbm := Dr.busy_getD_mem (D := D) (k := k0) (by rw [← EM.out]; exact hlt)
   obtain ⟨i, hi⟩ : ∃ i, i = D.busy.getD k0 0 := ⟨_, rfl⟩
   rw [← hi] at hbm
   obtain ⟨hin1, hw1⟩ := Dr.busy_mem.1 hbm
   obtain ⟨b, off, ha, hc⟩ := HIr.out k0 (by rw [← EM.out]; exact hlt)
   subst ha
   replace hc : w1.cell? ⟨b, off + k0, none⟩ = some (.int .i64 (D.busy.getD k0 0 : Nat)) := hc
   rw [← hi] at hc
   have hbb := HBa.out _ rfl
   have hcr : wr.cell? ⟨b, off + k0, none⟩ = some (.int .i64 (i : Nat)) := (World.cell?_of_block (w := w1) (a := ⟨b, off + k0, none⟩) (HON.out.block b (World.block_lt_of_cell? w1 _ hc) (fun e => by have h1 := HI.out.lt sb (.inr (.inl rfl)); have e' : b = sb := e; have h2 : w.heap.size ≤ b := hbb; omega))).trans hc
   obtain ⟨g, mm, cap2, hhd, hlen, hcap, hcap2, hrow⟩ := row_last HWR.out (i := i) hw1
   obtain ⟨M', hM'⟩ := HWR.out.map
   have c2r := HWR.out.cells.c2
   have lk := hM'.look (i := i) (by rw [Dr.at_len]; exact hin1) (by rw [Dr.at_len]; exact HLE.out) (by rw [hhd]; exact hdrD_some _ _ _)
   rw [hhd] at lk
   obtain ⟨q, hq⟩ : ∃ q, q = mm + 1 := ⟨_, rfl⟩
   rw [← hq] at lk hlen hcap hrow
   have hq6 : q ≤ 1000000 := by rw [← hlen]; exact HL.out i
   have HROW : Hid (∀ k, k < q → wr.rangeAt g (k * 64) (byteVals ((D.writes i).getD k []))) := hrow
   have HQ : Hid ((D.writes i).length = q) := hlen
   have HIi : Hid (i = D.busy.getD k0 0) := hi
   have HGG : Hid ((hd i).ownBlock = some g) := by unfold Hid; rw [hhd]; rfl
   have hcal := HKF.out wr (HG.out wr ((Only.of_below hB1.out F).then (HON.out.mono fun k hk => by rw [hk]; exact HF.out sb (.inr (.inl rfl))))) k0 q (by omega) hq6
   have Hin : Hid (i < D.safe.length) := hin1
   have hqc : q ≤ cap2 := hcap
   unfold maxLen at hcap2
   clear hbm hi hc hbb hhd hlen hcap hrow hM' hq hw1 hin1
   go_wp2_with fail
   refine hcal.mono ?_
   rintro e w5 ⟨rfl, hb5⟩
   have HW5 : Hid (DrvIn w5 p sb pb mb hd (D.at_ K k0)) := HWR.out.below hb5
   have HON5 : Hid (Only (One sb) w1 w5) := HON.out.then (Only.of_below hb5 _)
   have HQK : Hid (K k0 q ≤ q) := HK.out k0 q
   have hgl : g < wr.heap.size := HWR.out.lt g (.inr (.inr (.inr (.inr ⟨i, HGG.out⟩))))
   have HROW5 : Hid (∀ k, k < q → w5.rangeAt g (k * 64) (byteVals ((D.writes i).getD k []))) := fun k hk j v hv => (hb5.cell (p := ⟨g, k * 64 + j, none⟩) hgl).trans (HROW.out k hk j v hv)
   clear hcal hb5 c2r lk hcr hgl
   cases hkc : K k0 q with
   | zero =>
    have e0 : D.at_ K (k0 + 1) = D.at_ K k0 := by
     have e : D.safeAt K (k0 + 1) = D.safeAt K k0 := by
      show D.step K (D.safeAt K k0) k0 = _
      unfold Dr.step; dsimp only
      rw [← HIi.out, HQ.out, hkc, if_neg (by omega)]
     unfold Dr.at_; rw [e]
    have E0 : Hid (D.at_ K (k0 + 1) = D.at_ K k0) := e0
    clear e0 hkc
    go_wp2
    go_roundw
    case rel => exact ⟨k0 + 1, by omega, by go_num, by rw [E0.out]; exact HW5.out, HON5.out⟩
    case measure => simp [intOf]; omega
   | succ c =>
    have hcq : c < q := by have := HQK.out; omega
    have hxr := HROW5.out c hcq
    have hxl : ((D.writes i).getD c []).length = 64 := HI.out.ok.writes i _ (Dr.getD_mem (by rw [HQ.out]; exact hcq))
    have e1 : D.at_ K (k0 + 1) = { D.at_ K k0 with safe := (D.at_ K k0).safe.set i ((D.writes i).getD c []) } := by
     have e : D.safeAt K (k0 + 1) = (D.safeAt K k0).set i ((D.writes i).getD c []) := by
      show D.step K (D.safeAt K k0) k0 = _
      unfold Dr.step; dsimp only
      rw [← HIi.out, HQ.out, hkc, if_pos (by omega)]; rfl
     unfold Dr.at_; rw [e]
    obtain ⟨x, hx⟩ : ∃ x, x = (D.writes i).getD c [] := ⟨_, rfl⟩
    rw [← hx] at hxr hxl e1
    have E1 : Hid (D.at_ K (k0 + 1) = { D.at_ K k0 with safe := (D.at_ K k0).safe.set i x }) := e1
    have XR : Hid (w5.rangeAt g (c * 64) (byteVals x)) := hxr
    have XL : Hid (x.length = 64) := hxl
    have XI : Hid ((Tryz.prog.info? 128).map (·.size) = some (byteVals x).length) := by unfold Hid; rw [byteVals_length, hxl]; exact info_sector
    have XJ : Hid ((Tryz.prog.info? 128).map (·.size) = some (byteVals x).toArray.size) := XI.out
    have c05 := HW5.out.cells.c0
    rw [Dr.at_len] at c05
    obtain ⟨n, hn⟩ : ∃ n, n = D.safe.length := ⟨_, rfl⟩
    rw [← hn] at c05
    have hin2 : i < n := by rw [hn]; exact Hin.out
    have hn4 : n ≤ 4096 := by rw [hn]; exact HLE.out
    have hmx : Hid (Tryz.prog.follows .mixedOrders = true) := by unfold Hid; kernel_rfl
    have HN : Hid (n = D.safe.length) := hn
    clear hxr hxl e1 hx hkc hn
    go_wp2_with fail
    refine wp_region_held (S := fun W => W.cell? ⟨p, 0, none⟩ = some (.slice (some ⟨sb, 0, none⟩) n n) ∧ W.rangeAt g (c * 64) (byteVals x)) hmx.out ?_
    have hS : (fun W : World => W.cell? ⟨p, 0, none⟩ = some (.slice (some ⟨sb, 0, none⟩) n n) ∧ W.rangeAt g (c * 64) (byteVals x)) w5.drew := ⟨c05, XR.out⟩
    change wpAnyH _ _ _ _ _ _ _ _ w5.drew
    have hwc : IntKind.i64.wrap (c : Int) = (c : Int) := by rw [IntKind.wrap_i64]; omega
    refine held_quiet 0 (v := ?v0q1) rfl (by kernel_rfl) (fun _ _ _ h => h) (by assumption) rfl ?hy0q1 ?rest0q1
    case hy0q1 => (intro wS hSw; (try dsimp only at hSw); go_simp; try with_reducible rfl)
    try simp only [Act.put, List.setIfInBounds_toArray, List.set_cons_zero, List.set_cons_succ]
    refine held_quiet 1 (v := ?v1q2) rfl (by kernel_rfl) (fun _ _ _ h => h) (by assumption) rfl ?hy1q2 ?rest1q2
    case hy1q2 => (intro wS hSw; (try dsimp only at hSw); go_simp; try with_reducible rfl)
    try simp only [Act.put, List.setIfInBounds_toArray, List.set_cons_zero, List.set_cons_succ]
    refine held_quiet 2 (v := ?v2q3) rfl (by kernel_rfl) (fun _ _ _ h => h) (by assumption) rfl ?hy2q3 ?rest2q3
    case hy2q3 => (intro wS hSw; (try dsimp only at hSw); go_simp; try with_reducible rfl)
    try simp only [Act.put, List.setIfInBounds_toArray, List.set_cons_zero, List.set_cons_succ]
    refine held_quiet 3 (v := ?v3q4) rfl (by kernel_rfl) (fun _ _ _ h => h) (by assumption) rfl ?hy3q4 ?rest3q4
    case hy3q4 => (intro wS hSw; (try dsimp only at hSw); go_simp; try with_reducible rfl)
    try simp only [Act.put, List.setIfInBounds_toArray, List.set_cons_zero, List.set_cons_succ]
    refine held_quiet 4 (v := ?v4q5) rfl (by kernel_rfl) (fun _ _ _ h => h) (by assumption) rfl ?hy4q5 ?rest4q5
    case hy4q5 => (intro wS hSw; (try dsimp only at hSw); go_simp; try with_reducible rfl)
    try simp only [Act.put, List.setIfInBounds_toArray, List.set_cons_zero, List.set_cons_succ]
    refine held_quiet 5 (v := ?v5q6) rfl (by kernel_rfl) (fun _ _ _ h => h) (by assumption) rfl ?hy5q6 ?rest5q6
    case hy5q6 => (intro wS hSw; (try dsimp only at hSw); go_simp; try with_reducible rfl)
    try simp only [Act.put, List.setIfInBounds_toArray, List.set_cons_zero, List.set_cons_succ]
    refine held_quiet 6 (v := ?v6q7) rfl (by kernel_rfl) (fun _ _ _ h => h) (by assumption) rfl ?hy6q7 ?rest6q7
    case hy6q7 => (intro wS hSw; (try dsimp only at hSw); go_simp; try with_reducible rfl)
    try simp only [Act.put, List.setIfInBounds_toArray, List.set_cons_zero, List.set_cons_succ]
    refine held_quiet 7 (v := ?v7q8) rfl (by kernel_rfl) (fun _ _ _ h => h) (by assumption) rfl ?hy7q8 ?rest7q8
    case hy7q8 => (intro wS hSw; (try dsimp only at hSw); go_simp; try with_reducible rfl)
    try simp only [Act.put, List.setIfInBounds_toArray, List.set_cons_zero, List.set_cons_succ]
    refine held_quiet 8 (v := ?v8q9) rfl (by kernel_rfl) (fun _ _ _ h => h) (by assumption) rfl ?hy8q9 ?rest8q9
    case hy8q9 => (intro wS hSw; (try dsimp only at hSw); go_simp; try with_reducible rfl)
    try simp only [Act.put, List.setIfInBounds_toArray, List.set_cons_zero, List.set_cons_succ]
    refine held_load 9 rfl (by kernel_rfl) (byteVals x) (fun _ _ _ h => h) hS rfl 128 _ rfl g (c * 64) rfl _ (fun W h => h.2) Tryz.underlying128 rfl XI.out ?_
    try simp only [Act.put, List.setIfInBounds_toArray, List.set_cons_zero, List.set_cons_succ]
    refine held_quiet 10 (v := ?v10q10) rfl (by kernel_rfl) (fun _ _ _ h => h) (by assumption) rfl ?hy10q10 ?rest10q10
    case hy10q10 => (intro wS hSw; (try dsimp only at hSw); go_simp; try with_reducible rfl)
    try simp only [Act.put, List.setIfInBounds_toArray, List.set_cons_zero, List.set_cons_succ]
    refine held_one 11 rfl (by kernel_rfl) ?_
    obtain ⟨cur5, hcur5, hcur52⟩ := HW5.out.safe
    have hcs5 : cur5.size = D.safe.length * 64 := by rw [← Array.length_toList, hcur52, flat_length HW5.out.ok.sector, Dr.at_len]
    refine wpList_store_mid rfl 128 _ _ rfl sb (i * 64) (byteVals x).toArray rfl rfl (there_row (w := w5.drew) hcur5 (by rw [show (byteVals x).toArray.size = 64 from (byteVals_length x).trans XL.out, hcs5]; have := Hin.out; omega)) XJ.out (all_oneCell_toArray (byteVals_one x)) ?_
    have hD6 : DrvIn (w5.drew.setCells sb (i * 64) (byteVals x)) p sb pb mb hd { D.at_ K k0 with safe := (D.at_ K k0).safe.set i x } := DrvIn.setSafe (w := w5.drew) (HW5.out.only (Only.drew (fun _ => False) w5) (fun _ _ hf => hf)) (by rw [Dr.at_len]; exact Hin.out) XL.out
    have hO6 : Only (One sb) w1 (w5.drew.setCells sb (i * 64) (byteVals x)) := (HON5.out.then (Only.drew _ w5)).then (Only.setCells _ w5.drew sb _ _ rfl)
    have hne : g ≠ sb := fun e => HW5.out.others.r_sb i (by rw [HGG.out, e])
    have hR6 : (w5.drew.setCells sb (i * 64) (byteVals x)).rangeAt g (c * 64) (byteVals x) := World.rangeAt_setCells_apart (w := w5.drew) XR.out sb (i * 64) _ (.inl hne)
    generalize e6 : w5.drew.setCells sb (i * 64) (byteVals x) = w6 at hD6 hO6 hR6 ⊢
    have hl6 : ((D.at_ K k0).safe.set i x).length = n := by rw [List.length_set, Dr.at_len, HN.out]
    refine ⟨⟨by have := hD6.cells.c0; rw [hl6] at this; exact this, hR6⟩, ?_⟩
    refine held_done (by kernel_rfl) ?_
    have HD6 : Hid (DrvIn w6 p sb pb mb hd (D.at_ K (k0 + 1))) := by unfold Hid; rw [E1.out]; exact hD6
    have HO6 : Hid (Only (One sb) w1 w6) := hO6
    clear hD6 hO6 e6 hcur5 hcur52 hcs5 c05 hne hR6 hl6
    go_wp2
    go_roundw
    case rel => exact ⟨k0 + 1, by omega, by go_num, HD6.out, HO6.out⟩
    case measure => simp [intOf]; omega
  ·have hkm : k0 = m := by omega
   subst hkm
   obtain ⟨w9, hcl, hd9, ho9⟩ := HWR.out.cleared
   have c2r := HWR.out.cells.c2
   have H9 : Hid (DrvIn w9 p sb pb mb (fun _ => .slice none 0 0) (D.settle K)) := by
    have e : D.settle K = { D.at_ K k0 with writes := fun _ => [] } := by unfold Dr.settle Dr.at_; rw [← EM.out]
    unfold Hid; rw [e]; exact hd9
   have O9 : Hid (Only F w w9) := ((Only.of_below hB1.out F).then (HON.out.mono fun k hk => by rw [hk]; exact HF.out sb (.inr (.inl rfl)))).then (ho9.mono fun k hk => by rw [hk]; exact HF.out mb (.inr (.inr (.inr (.inl rfl)))))
   clear hd9 ho9
   go_wp2
   go_end0
   refine ⟨rfl, ⟨sb, pb, mb, _, H9.out, fun k hk => ?_⟩, O9.out⟩
   rcases hk with e | e | e | e | ⟨j, hj⟩
   ·exact HF.out k (.inl e)
   ·exact HF.out k (.inr (.inl e))
   ·exact HF.out k (.inr (.inr (.inl e)))
   ·exact HF.out k (.inr (.inr (.inr (.inl e))))
   ·simp [Value.ownBlock] at hj
set_option maxRecDepth 100000 in
set_option maxHeartbeats 400000 in
theorem flushing (k c : Nat) (w : World) : Calls Tryz.prog 100 #[.int .i64 (k : Nat), .int .i64 (c : Nat)] w fun e w' => e = .returned (.int .i64 (c : Nat)) ∧ w' = w := by
 go_enter Tryz.func100, Tryz.ntmps100
 go_wp2
 go_ret
 exact ⟨rfl, rfl⟩
theorem run_enter {P : Program} {f : FuncId} {fn : Func} (hf : P.funcs[f]? = some fn) (hname : (fn.name == "runtime.NumGoroutine") = false) (hb : fn.body.isSome = true) (args : Array Value) (w : World) :
  (callFunc f args).run P w = .ok (.enter f args) w := by
 have h1 : fn.name ≠ "runtime.NumGoroutine" := by simpa using hname
 obtain ⟨c, hc⟩ := Option.isSome_iff_exists.1 hb
 simp [callFunc, hf, h1, hc]
theorem call_flushing (args : Array Value) (W : World) : (callFunc 100 args).run Tryz.prog W = .ok (.enter 100 args) W := run_enter Tryz.func100 (by kernel_rfl) (by kernel_rfl) args W
end Go.Proofs.YtdgkhjgnjfgnlaaGreat
