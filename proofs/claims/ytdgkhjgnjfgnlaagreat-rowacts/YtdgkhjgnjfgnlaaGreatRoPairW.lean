import Derived.Test.YtdgkhjgnjfgnlaaGreatMRoE
import Derived.Test.YtdgkhjgnjfgnlaaGreatRefNewN
import Derived.Test.YtdgkhjgnjfgnlaaGreatMKitD
import Derived.Deep.AppendLies
import Derived.Deep.CutBlock
namespace Go.Proofs.YtdgkhjgnjfgnlaaGreat
open Go.RowKit
attribute [local go_sem] Oper.semAt_some
theorem refNew16N (n : Nat) (h1 : 1 ≤ n) (h2 : n ≤ 4096) (w : World) : Calls Tryz.prog 33 #[.int .i64 (n : Nat)] w fun e w' => ∃ rp, e = .returned (.pointer (some ⟨rp, 0, none⟩)) ∧ RefAt w' rp (Dr.fresh n) (fun k => w.heap.size ≤ k) ∧ Below w.heap.size w w' := by
  refine (refNewN n h1 h2 w).mono ?_
  rintro e w' ⟨rp, vS, vW, vP, he, hr, hb⟩
  have hst : RefSt w' rp vS vW vP (fun _ => nilS) (Dr.fresh n) := by
    refine ⟨?_, Dr.Ok.fresh h1 h2, fun i => World.ownsRow_nil _ _ _ _, fun i k hk => by simp [nilS, Value.ownBlock] at hk, fun _ _ => rfl⟩
    have e1 : (Dr.fresh n).safe.map txt = List.replicate n blankB := by show (List.replicate n _).map txt = _; rw [List.map_replicate]; rfl
    refine ⟨hr.self, Nat.zero_le _, ?_, ?_, hr.spoilt.mono (Nat.zero_le _)⟩
    · have := hr.safes.mono (Nat.zero_le _)
      rw [← e1] at this
      exact this
    · have e2 : (List.range (Dr.fresh n).safe.length).map (fun _ => nilS) = List.replicate n nilS := by
        rw [show (Dr.fresh n).safe.length = n from List.length_replicate, List.map_const', List.length_range]
      have := hr.writes.mono (Nat.zero_le _)
      rw [← e2] at this
      exact this
  have hlow : ∀ k, RFeet rp vS vW vP (fun _ => nilS) k → w.heap.size ≤ k := fun k hk => by
    rcases hk with hk | ⟨i, hi⟩
    · exact (hr.lt k hk).1
    · simp [nilS, Value.ownBlock] at hi
  exact ⟨rp, he, ⟨vS, vW, vP, _, hst, fun k hk => hlow k hk⟩, hb⟩
def New16 (t n : Nat) (C : Nat → Ro.Col) : Prop := ∀ i, i < t → ∃ p, C i = some (p, Dr.fresh n)
theorem New16.more {t n p : Nat} {C : Nat → Ro.Col} (h : New16 t n C) : New16 (t + 1) n (swap1 C t (some (p, Dr.fresh n))) := fun i hi => by
 by_cases e : i = t
 ·rw [e, swap1_same]; exact ⟨p, rfl⟩
 ·rw [swap1_other _ _ e]; exact h i (by omega)
theorem two16_own0 {w : World} {B c np nq nr ns n : Nat} {vP vQ vR vS : Value} {C D : Nat → Ro.Col} {f g : Nat → Int} (h : Many w B (4 + 2 * c) (two16 c np nq nr ns vP vQ vR vS C D f g)) (e : n = np) : w.ownsRow 0 59 1 vP n (ptrs16 np C) :=
 many_own h (by omega) two16_0 (by rw [ptrs16_len]; exact e)
theorem two16_own1 {w : World} {B c np nq nr ns n : Nat} {vP vQ vR vS : Value} {C D : Nat → Ro.Col} {f g : Nat → Int} (h : Many w B (4 + 2 * c) (two16 c np nq nr ns vP vQ vR vS C D f g)) (e : n = nq) : w.ownsRow 0 3 1 vQ n (ints16 nq f) :=
 many_own h (by omega) two16_1 (by rw [ints16_len]; exact e)
theorem two16_own2 {w : World} {B c np nq nr ns n : Nat} {vP vQ vR vS : Value} {C D : Nat → Ro.Col} {f g : Nat → Int} (h : Many w B (4 + 2 * c) (two16 c np nq nr ns vP vQ vR vS C D f g)) (e : n = nr) : w.ownsRow 0 67 1 vR n (ptrs16 nr D) :=
 many_own h (by omega) two16_2 (by rw [ptrs16_len]; exact e)
theorem two16_own3 {w : World} {B c np nq nr ns n : Nat} {vP vQ vR vS : Value} {C D : Nat → Ro.Col} {f g : Nat → Int} (h : Many w B (4 + 2 * c) (two16 c np nq nr ns vP vQ vR vS C D f g)) (e : n = ns) : w.ownsRow 0 3 1 vS n (ints16 ns g) :=
 many_own h (by omega) two16_3 (by rw [ints16_len]; exact e)
namespace Box5
variable {w : World} {b : Nat} {c0 c1 c2 c3 c4 : Value}
theorem put0 (h : Box5 w b c0 c1 c2 c3 c4) (x : Value) : Box5 (w.setCell ⟨b, 0, none⟩ x) b x c1 c2 c3 c4 :=
 ⟨World.cell?_setCell_same _ _ _ h.k0, (World.cell?_setCell_other _ _ _ _ (fun e => by injection e with _ e2; cases e2)).trans h.k1, (World.cell?_setCell_other _ _ _ _ (fun e => by injection e with _ e2; cases e2)).trans h.k2, (World.cell?_setCell_other _ _ _ _ (fun e => by injection e with _ e2; cases e2)).trans h.k3, (World.cell?_setCell_other _ _ _ _ (fun e => by injection e with _ e2; cases e2)).trans h.k4, fun j => (World.frozen?_setCell _ _ _ _).trans (h.fz j)⟩
theorem put1 (h : Box5 w b c0 c1 c2 c3 c4) (x : Value) : Box5 (w.setCell ⟨b, 1, none⟩ x) b c0 x c2 c3 c4 :=
 ⟨(World.cell?_setCell_other _ _ _ _ (fun e => by injection e with _ e2; cases e2)).trans h.k0, World.cell?_setCell_same _ _ _ h.k1, (World.cell?_setCell_other _ _ _ _ (fun e => by injection e with _ e2; cases e2)).trans h.k2, (World.cell?_setCell_other _ _ _ _ (fun e => by injection e with _ e2; cases e2)).trans h.k3, (World.cell?_setCell_other _ _ _ _ (fun e => by injection e with _ e2; cases e2)).trans h.k4, fun j => (World.frozen?_setCell _ _ _ _).trans (h.fz j)⟩
theorem put2 (h : Box5 w b c0 c1 c2 c3 c4) (x : Value) : Box5 (w.setCell ⟨b, 2, none⟩ x) b c0 c1 x c3 c4 :=
 ⟨(World.cell?_setCell_other _ _ _ _ (fun e => by injection e with _ e2; cases e2)).trans h.k0, (World.cell?_setCell_other _ _ _ _ (fun e => by injection e with _ e2; cases e2)).trans h.k1, World.cell?_setCell_same _ _ _ h.k2, (World.cell?_setCell_other _ _ _ _ (fun e => by injection e with _ e2; cases e2)).trans h.k3, (World.cell?_setCell_other _ _ _ _ (fun e => by injection e with _ e2; cases e2)).trans h.k4, fun j => (World.frozen?_setCell _ _ _ _).trans (h.fz j)⟩
end Box5
def stored16 (w : World) (a b : Nat) (d0 d1 d2 d3 d4 e0 e1 e2 e3 e4 : Value) : World :=
 (((((((((w.setCell ⟨a, 0, none⟩ d0).setCell ⟨a, 1, none⟩ d1).setCell ⟨a, 2, none⟩ d2).setCell ⟨a, 3, none⟩ d3).setCell ⟨a, 4, none⟩ d4).setCell ⟨b, 0, none⟩ e0).setCell ⟨b, 1, none⟩ e1).setCell ⟨b, 2, none⟩ e2).setCell ⟨b, 3, none⟩ e3).setCell ⟨b, 4, none⟩ e4
theorem stored16_says {w : World} {a b : Nat} {c0 c1 c2 c3 c4 f0 f1 f2 f3 f4 : Value} (h1 : Box5 w a c0 c1 c2 c3 c4) (h2 : Box5 w b f0 f1 f2 f3 f4) (hne : a ≠ b) (d0 d1 d2 d3 d4 e0 e1 e2 e3 e4 : Value) :
  Box5 (stored16 w a b d0 d1 d2 d3 d4 e0 e1 e2 e3 e4) a d0 d1 d2 d3 d4 ∧ Box5 (stored16 w a b d0 d1 d2 d3 d4 e0 e1 e2 e3 e4) b e0 e1 e2 e3 e4 ∧ Only (fun k => k = a ∨ k = b) w (stored16 w a b d0 d1 d2 d3 d4 e0 e1 e2 e3 e4) := by
 have o : ∀ (W : World) (p : Addr) (x : Value), (p.block = a ∨ p.block = b) → Only (fun k => k = a ∨ k = b) W (W.setCell p x) := fun W p x h => Only.setCell _ _ _ _ h
 exact ⟨((((((((((h1.put0 d0).put1 d1).put2 d2).put3 d3).put4 d4).far (p := ⟨b, 0, none⟩) (Ne.symm hne) e0).far (p := ⟨b, 1, none⟩) (Ne.symm hne) e1).far (p := ⟨b, 2, none⟩) (Ne.symm hne) e2).far (p := ⟨b, 3, none⟩) (Ne.symm hne) e3).far (p := ⟨b, 4, none⟩) (Ne.symm hne) e4),
  (((((((((h2.far (p := ⟨a, 0, none⟩) hne d0).far (p := ⟨a, 1, none⟩) hne d1).far (p := ⟨a, 2, none⟩) hne d2).far (p := ⟨a, 3, none⟩) hne d3).far (p := ⟨a, 4, none⟩) hne d4).put0 e0).put1 e1).put2 e2).put3 e3).put4 e4,
  (((((((((o w ⟨a, 0, none⟩ d0 (.inl rfl)).then (o _ ⟨a, 1, none⟩ d1 (.inl rfl))).then (o _ ⟨a, 2, none⟩ d2 (.inl rfl))).then (o _ ⟨a, 3, none⟩ d3 (.inl rfl))).then (o _ ⟨a, 4, none⟩ d4 (.inl rfl))).then (o _ ⟨b, 0, none⟩ e0 (.inr rfl))).then (o _ ⟨b, 1, none⟩ e1 (.inr rfl))).then (o _ ⟨b, 2, none⟩ e2 (.inr rfl))).then (o _ ⟨b, 3, none⟩ e3 (.inr rfl))).then (o _ ⟨b, 4, none⟩ e4 (.inr rfl))⟩
theorem Box5.range {w : World} {b : Nat} {c0 c1 c2 c3 c4 : Value} (h : Box5 w b c0 c1 c2 c3 c4) : w.rangeAt b 0 [c0, c1, c2, c3, c4] := fun j v hv => by
 rcases j with _ | _ | _ | _ | _ | j
 ·have e : some c0 = some v := hv
  rw [← e]; exact h.k0
 ·have e : some c1 = some v := hv
  rw [← e]; exact h.k1
 ·have e : some c2 = some v := hv
  rw [← e]; exact h.k2
 ·have e : some c3 = some v := hv
  rw [← e]; exact h.k3
 ·have e : some c4 = some v := hv
  rw [← e]; exact h.k4
 ·have e : (none : Option Value) = some v := hv
  cases e
theorem results_two16 {P : Program} {fn : Func} {p q : Tmp} {ty ty' : TypeId} (h : fn.results = #[.cell p ty, .cell q ty']) (tmps : Array Value) (w : World) (g g' : Nat) (cs cs' : List Value) (d d' : TypeDesc)
  (hp : tmps.getD p undef = .pointer (some ⟨g, 0, none⟩)) (hg : w.rangeAt g 0 cs) (hu : P.underlying ty = some d) (hd : d.isRow = true) (hi : (P.info? ty).map (·.size) = some cs.length)
  (hp' : tmps.getD q undef = .pointer (some ⟨g', 0, none⟩)) (hg' : w.rangeAt g' 0 cs') (hu' : P.underlying ty' = some d') (hd' : d'.isRow = true) (hi' : (P.info? ty').map (·.size) = some cs'.length) :
  (results fn tmps).run P w = .ok (.tuple #[.agg cs.toArray, .agg cs'.toArray]) w := by
 have h1 : tmps[p]?.getD undef = .pointer (some ⟨g, 0, none⟩) := by simpa using hp
 have h2 : tmps[q]?.getD undef = .pointer (some ⟨g', 0, none⟩) := by simpa using hp'
 simp [results, h, h1, h2, asAddr, run_loadVar_mid w g 0 ty cs d hg hu hd hi, run_loadVar_mid w g' 0 ty' cs' d' hg' hu' hd' hi']
theorem set16_size : (Tryz.prog.info? 30).map (·.size) = some 5 ∧ (Tryz.prog.info? 33).map (·.size) = some 5 := ⟨by kernel_rfl, by kernel_rfl⟩
def PairAns (w : World) (c k r n : Nat) (e : Ending) (w' : World) : Prop :=
 (∃ da ca db cb ea ga eb gb, e = .returned (.tuple #[.agg #[.int .i64 (c : Int), .int .i64 (k : Int), .int .i64 (r : Int), .slice da c ca, .slice db c cb], .agg #[.int .i64 (c : Int), .int .i64 (k : Int), .int .i64 (r : Int), .slice ea c ga, .slice eb c gb]]) ∧
  ∃ C D, New16 c n C ∧ New16 c n D ∧ Many w' (w.heap.size + 5) (4 + 2 * c) (two16 c c c c c (.slice da c ca) (.slice db c cb) (.slice ea c ga) (.slice eb c gb) C D (fun _ => (r : Int)) (fun _ => (r : Int)))) ∧ Below w.heap.size w w'
set_option maxRecDepth 100000 in
set_option maxHeartbeats 16000000 in
theorem pair16_any (c k r : Nat) (hok : Lay.ok (c : Int) (k : Int) (r : Int)) (fewer : Bool) (n : Nat) (hn : n = if fewer then 4 + r * k - 1 else 4 + r * k) (w : World) :
  Calls Tryz.prog 9 #[.agg #[.int .i64 (c : Int), .int .i64 (k : Int), .int .i64 (r : Int)], .bool fewer] w (PairAns w c k r n) := by
 have hc10 : c ≤ 10 := by have := hok.1; omega
 have hrk : 1 ≤ r * k ∧ r * k ≤ 1024 := by
  obtain ⟨_, ⟨k1, k2⟩, r1, r2⟩ := hok
  exact ⟨Nat.mul_pos (by omega) (by omega), Nat.mul_le_mul (by omega : r ≤ 256) (by omega : k ≤ 4)⟩
 obtain ⟨x, hx⟩ : ∃ x, r * k = x := ⟨_, rfl⟩
 have hxi : (r : Int) * (k : Int) = (x : Int) := by rw [← hx, Int.natCast_mul]
 have e1 : IntKind.i64.wrap ((r : Int) * (k : Int)) = (x : Int) := by rw [hxi, IntKind.wrap_i64]; omega
 rw [hx] at hrk hn
 have P0 : Hid _ := Pair16.start w c k r (fun _ => (r : Int)) (fun _ => (r : Int)) 26 30 33
 have hmx : Tryz.prog.follows .mixedOrders = true := by kernel_rfl
 have HMX : Hid (Tryz.prog.follows .mixedOrders = true) := hmx
 obtain ⟨iP, hP0, hP1, hP2, hP3⟩ := info_parts (show (Tryz.prog.info? 59).map (fun i => (i.zero, i.size, i.bytes)) = some (some (.pointer none), 1, 8) by kernel_rfl)
 obtain ⟨iR, hR0, hR1, hR2, hR3⟩ := info_parts (show (Tryz.prog.info? 67).map (fun i => (i.zero, i.size, i.bytes)) = some (some (.pointer none), 1, 8) by kernel_rfl)
 obtain ⟨iI, hI0, hI1, hI2, hI3⟩ := info_parts (show (Tryz.prog.info? 3).map (fun i => (i.zero, i.size, i.bytes)) = some (some (.int .i64 0), 1, 8) by kernel_rfl)
 have HIP : Hid (Tryz.prog.info? 59 = some iP ∧ iP.zero = some (.pointer none) ∧ iP.size = 1 ∧ iP.bytes = 8) := ⟨hP0, hP1, hP2, hP3⟩
 have HIR : Hid (Tryz.prog.info? 67 = some iR ∧ iR.zero = some (.pointer none) ∧ iR.size = 1 ∧ iR.bytes = 8) := ⟨hR0, hR1, hR2, hR3⟩
 have HII : Hid (Tryz.prog.info? 3 = some iI ∧ iI.zero = some (.int .i64 0) ∧ iI.size = 1 ∧ iI.bytes = 8) := ⟨hI0, hI1, hI2, hI3⟩
 clear hP0 hP1 hP2 hP3 hR0 hR1 hR2 hR3 hI0 hI1 hI2 hI3 hmx hx hxi
 cases fewer with
 | true =>
  have hn2 : 4 + (x : Int) - 1 = (n : Int) := by rw [hn]; first | (simp; done) | (simp; omega)
  have HNN : Hid (1 ≤ n ∧ n ≤ 4096) := by exact ⟨by rw [hn]; first | (simp; done) | (simp; omega), by rw [hn]; first | (simp; done) | (simp; omega)⟩
  clear hn
  go_enter Tryz.func9, Tryz.ntmps9
  go_wp2_with fail
  simp only [Nat.add_assoc, Nat.reduceAdd]
  try rw [hn2]
  clear hn2 e1 hok hrk
  have HNP : Hid (∀ W, Calls Tryz.prog 32 #[.int .i64 (n : Nat)] W fun e w' => ∃ p, e = .returned (.pointer (some ⟨p, 0, none⟩)) ∧ DriveAt w' p (Dr.fresh n) (fun k => W.heap.size ≤ k) ∧ Below W.heap.size W w') := fun W => new_yes n HNN.out.1 HNN.out.2 W
  have HNR : Hid (∀ W, Calls Tryz.prog 33 #[.int .i64 (n : Nat)] W fun e w' => ∃ p, e = .returned (.pointer (some ⟨p, 0, none⟩)) ∧ RefAt w' p (Dr.fresh n) (fun k => W.heap.size ≤ k) ∧ Below W.heap.size W w') := fun W => refNew16N n HNN.out.1 HNN.out.2 W
  go_loopg [9] c (fun gg s9 wr => ∃ t : Nat, t ≤ c ∧ gg = c - t ∧ s9 = .int .i64 (t : Int) ∧ ∃ vP vQ vR vS C D, Pair16 w c k r t t t t vP vQ vR vS C D (fun _ => (r : Int)) (fun _ => (r : Int)) wr ∧ New16 t n C ∧ New16 t n D)
  case atStart => exact ⟨0, Nat.zero_le _, rfl, rfl, _, _, _, _, _, _, P0.out, fun _ h => absurd h (Nat.not_lt_zero _), fun _ h => absurd h (Nat.not_lt_zero _)⟩
  case round =>
   obtain ⟨t, ht, rfl, rfl, vP, vQ, vR, vS, C, D, hP, hC, hD⟩ := hrel
   have HP : Hid (Pair16 w c k r t t t t vP vQ vR vS C D (fun _ => (r : Int)) (fun _ => (r : Int)) wr) := hP
   have HCD : Hid (New16 t n C ∧ New16 t n D) := ⟨hC, hD⟩
   have hsz := hP.size
   obtain ⟨g0, g1, g2⟩ := hP.geo
   clear P0 hC hD
   by_cases hlt : t < c
   ·have hi : (t : Int) < (c : Int) := by omega
    obtain ⟨aP, cP, rfl⟩ := head_of hP.many (i := 0) (by omega) two16_0 (ptrs16_len t C)
    obtain ⟨x0, x1, x2, x3, x4, xf⟩ := hP.s6
    clear hP
    go_upto_region 9 with fail
    go_cut [34] from 29 to 56 (fun s34 wc => ∃ v' C', Pair16 w c k r (t + 1) t t t v' vQ vR vS C' D (fun _ => (r : Int)) (fun _ => (r : Int)) wc ∧ New16 (t + 1) n C')
    case first =>
     refine wp_region_held (S := fun _ => True) HMX.out ?_
     have hS : (fun _ : World => True) wr.drew := trivial
     change wpAnyH _ _ _ _ _ _ _ _ wr.drew
     refine held_quiet 0 (v := ?v0q1) rfl (by kernel_rfl) (fun _ _ _ h => h) (by assumption) rfl ?hy0q1 ?rest0q1
     case hy0q1 => (intro wS hSw; (try dsimp only at hSw); go_simp; try with_reducible rfl)
     try simp only [Act.put, List.setIfInBounds_toArray, List.set_cons_zero, List.set_cons_succ]
     refine held_quiet 2 (v := ?v2q2) rfl (by kernel_rfl) (fun _ _ _ h => h) (by assumption) rfl ?hy2q2 ?rest2q2
     case hy2q2 => (intro wS hSw; (try dsimp only at hSw); go_simp; try with_reducible rfl)
     try simp only [Act.put, List.setIfInBounds_toArray, List.set_cons_zero, List.set_cons_succ]
     refine held_two 1 3 rfl rfl (by kernel_rfl) ?_ ?_
     ·go_wp2_with fail
      try refine ⟨trivial, ?_⟩
      refine held_one 3 rfl (by kernel_rfl) ?_
      go_wp2_with (go_at_call 32; refine (HNP.out _).mono ?_; rintro e w2 ⟨p, rfl, hd2, hb2⟩)
      try refine ⟨trivial, ?_⟩
      have hbw : Below wr.heap.size wr w2 := (Below.refl _ wr).drew.trans hb2
      have M2 : Hid (Many w2 (w.heap.size + 5) (4 + 2 * c) (two16 c t t t t (.slice aP t cP) vQ vR vS (swap1 C t (some (p, Dr.fresh n))) D (fun _ => (r : Int)) (fun _ => (r : Int)))) := two16_newP HP.out.many hlt hbw hd2 (fun k hk => hk)
      have HBW : Hid (Below (w.heap.size + 5) wr w2) := hbw.mono hsz
      have O2 : Hid (w2.ownsRow 0 59 1 (.slice aP t cP) t (ptrs16 t (swap1 C t (some (p, Dr.fresh n))))) := two16_own0 M2.out rfl
      obtain ⟨hP0, hP1, hP2, hP3⟩ := HIP.out
      clear hbw hb2 hd2
      refine held_one 4 rfl (by kernel_rfl) ?_
      go_wp2_with fail
      try refine ⟨trivial, ?_⟩
      refine held_one 5 rfl (by kernel_rfl) ?_
      refine wpList_append_lies _ rfl _ _ 27 rfl 0 59 iP (.pointer none) 1 8 Tryz.underlying27 hP0 hP1 hP2 hP3 rfl (by decide) (.slice aP t cP) t (ptrs16 t (swap1 C t (some (p, Dr.fresh n)))) rfl (O2.out.alloc _) ⟨w2.heap.size, 0, none⟩ 1 1 [.pointer (some ⟨p, 0, none⟩)] rfl rfl (cell_one_new _ _ _) (by simp [Value.oneCell']) (by decide) (by unfold maxLen; omega) (by omega) (Nat.zero_le _) _ rfl ?_
      intro g5 c6 w3 own1 grow1 lies1 lt1
      obtain ⟨m3, b3⟩ := many_growL (l' := ptrs16 (t + 1) (swap1 C t (some (p, Dr.fresh n)))) M2.out (i := 0) (by omega) two16_0 (by rw [ptrs16_len]) ((Below.refl _ _).alloc (Nat.le_refl _) _) (by rw [ptrs16_snoc, swap1_same]; exact own1) grow1 lies1
      have M3 : Hid (Many w3 (w.heap.size + 5) (4 + 2 * c) (two16 c (t + 1) t t t (.slice (some ⟨g5, 0, none⟩) (t + 1) c6) vQ vR vS (swap1 C t (some (p, Dr.fresh n))) D (fun _ => (r : Int)) (fun _ => (r : Int)))) := m3.congr fun j _ => two16_rowP j
      have B3 : Hid (Below (w.heap.size + 5) wr w3) := HBW.out.trans b3
      have hsz3 := M3.out.size
      obtain ⟨y0, y1, y2, y3, y4, yf⟩ := HP.out.keep6 B3.out
      have yf3 := yf 3
      have hl3 : w.heap.size + 3 < w3.heap.size := by omega
      clear m3 b3 own1 grow1 lies1 lt1 M2 HBW O2 yf
      go_wp2_with fail
      try refine ⟨trivial, ?_⟩
      refine held_quiet 6 (v := ?v6q3) rfl (by kernel_rfl) (fun _ _ _ h => h) (by assumption) rfl ?hy6q3 ?rest6q3
      case hy6q3 => (intro wS hSw; (try dsimp only at hSw); go_simp; try with_reducible rfl)
      try simp only [Act.put, List.setIfInBounds_toArray, List.set_cons_zero, List.set_cons_succ]
      refine held_one 7 rfl (by kernel_rfl) ?_
      go_wp2_with fail
      try refine ⟨trivial, ?_⟩
      refine held_done (by kernel_rfl) ?_
      go_wp2_with fail
      go_meet
      exact ⟨_, _, HP.out.putP B3.out M3.out, HCD.out.1.more⟩
     ·go_wp2_with (go_at_call 32; refine (HNP.out _).mono ?_; rintro e w2 ⟨p, rfl, hd2, hb2⟩)
      try refine ⟨trivial, ?_⟩
      have z3 := (hb2.cell (p := ⟨w.heap.size + 3, 3, none⟩) (by show w.heap.size + 3 < wr.heap.size; omega)).trans x3
      have hlz : w.heap.size + 3 < w2.heap.size := by have := hb2.size; have : wr.heap.size ≤ w2.heap.size := hb2.size; omega
      have hbw : Below wr.heap.size wr w2 := (Below.refl _ wr).drew.trans hb2
      have M2 : Hid (Many w2 (w.heap.size + 5) (4 + 2 * c) (two16 c t t t t (.slice aP t cP) vQ vR vS (swap1 C t (some (p, Dr.fresh n))) D (fun _ => (r : Int)) (fun _ => (r : Int)))) := two16_newP HP.out.many hlt hbw hd2 (fun k hk => hk)
      have HBW : Hid (Below (w.heap.size + 5) wr w2) := hbw.mono hsz
      have O2 : Hid (w2.ownsRow 0 59 1 (.slice aP t cP) t (ptrs16 t (swap1 C t (some (p, Dr.fresh n))))) := two16_own0 M2.out rfl
      obtain ⟨hP0, hP1, hP2, hP3⟩ := HIP.out
      clear hbw hb2 hd2
      have z4 := (((Below.refl _ w2).alloc (Nat.le_refl _) (.cells #[.pointer (some ⟨p, 0, none⟩)] 59)).cell (p := ⟨w.heap.size + 3, 3, none⟩) hlz).trans z3
      have hlz4 : w.heap.size + 3 < (w2.alloc (.cells #[.pointer (some ⟨p, 0, none⟩)] 59)).heap.size := by rw [World.size_alloc]; omega
      refine held_two 1 4 rfl rfl (by kernel_rfl) ?_ ?_
      ·clear z4 hlz4
       go_wp2_with fail
       try refine ⟨trivial, ?_⟩
       clear z3 hlz
       refine held_one 4 rfl (by kernel_rfl) ?_
       go_wp2_with fail
       try refine ⟨trivial, ?_⟩
       refine held_one 5 rfl (by kernel_rfl) ?_
       refine wpList_append_lies _ rfl _ _ 27 rfl 0 59 iP (.pointer none) 1 8 Tryz.underlying27 hP0 hP1 hP2 hP3 rfl (by decide) (.slice aP t cP) t (ptrs16 t (swap1 C t (some (p, Dr.fresh n)))) rfl (O2.out.alloc _) ⟨w2.heap.size, 0, none⟩ 1 1 [.pointer (some ⟨p, 0, none⟩)] rfl rfl (cell_one_new _ _ _) (by simp [Value.oneCell']) (by decide) (by unfold maxLen; omega) (by omega) (Nat.zero_le _) _ rfl ?_
       intro g5 c6 w3 own1 grow1 lies1 lt1
       obtain ⟨m3, b3⟩ := many_growL (l' := ptrs16 (t + 1) (swap1 C t (some (p, Dr.fresh n)))) M2.out (i := 0) (by omega) two16_0 (by rw [ptrs16_len]) ((Below.refl _ _).alloc (Nat.le_refl _) _) (by rw [ptrs16_snoc, swap1_same]; exact own1) grow1 lies1
       have M3 : Hid (Many w3 (w.heap.size + 5) (4 + 2 * c) (two16 c (t + 1) t t t (.slice (some ⟨g5, 0, none⟩) (t + 1) c6) vQ vR vS (swap1 C t (some (p, Dr.fresh n))) D (fun _ => (r : Int)) (fun _ => (r : Int)))) := m3.congr fun j _ => two16_rowP j
       have B3 : Hid (Below (w.heap.size + 5) wr w3) := HBW.out.trans b3
       have hsz3 := M3.out.size
       obtain ⟨y0, y1, y2, y3, y4, yf⟩ := HP.out.keep6 B3.out
       have yf3 := yf 3
       have hl3 : w.heap.size + 3 < w3.heap.size := by omega
       clear m3 b3 own1 grow1 lies1 lt1 M2 HBW O2 yf
       go_wp2_with fail
       try refine ⟨trivial, ?_⟩
       refine held_quiet 6 (v := ?v6q4) rfl (by kernel_rfl) (fun _ _ _ h => h) (by assumption) rfl ?hy6q4 ?rest6q4
       case hy6q4 => (intro wS hSw; (try dsimp only at hSw); go_simp; try with_reducible rfl)
       try simp only [Act.put, List.setIfInBounds_toArray, List.set_cons_zero, List.set_cons_succ]
       refine held_one 7 rfl (by kernel_rfl) ?_
       go_wp2_with fail
       try refine ⟨trivial, ?_⟩
       refine held_done (by kernel_rfl) ?_
       go_wp2_with fail
       go_meet
       exact ⟨_, _, HP.out.putP B3.out M3.out, HCD.out.1.more⟩
      ·go_wp2_with fail
       try refine ⟨trivial, ?_⟩
       refine held_one 1 rfl (by kernel_rfl) ?_
       go_wp2_with fail
       try refine ⟨trivial, ?_⟩
       clear z3 hlz z4 hlz4
       refine held_one 5 rfl (by kernel_rfl) ?_
       refine wpList_append_lies _ rfl _ _ 27 rfl 0 59 iP (.pointer none) 1 8 Tryz.underlying27 hP0 hP1 hP2 hP3 rfl (by decide) (.slice aP t cP) t (ptrs16 t (swap1 C t (some (p, Dr.fresh n)))) rfl (O2.out.alloc _) ⟨w2.heap.size, 0, none⟩ 1 1 [.pointer (some ⟨p, 0, none⟩)] rfl rfl (cell_one_new _ _ _) (by simp [Value.oneCell']) (by decide) (by unfold maxLen; omega) (by omega) (Nat.zero_le _) _ rfl ?_
       intro g5 c6 w3 own1 grow1 lies1 lt1
       obtain ⟨m3, b3⟩ := many_growL (l' := ptrs16 (t + 1) (swap1 C t (some (p, Dr.fresh n)))) M2.out (i := 0) (by omega) two16_0 (by rw [ptrs16_len]) ((Below.refl _ _).alloc (Nat.le_refl _) _) (by rw [ptrs16_snoc, swap1_same]; exact own1) grow1 lies1
       have M3 : Hid (Many w3 (w.heap.size + 5) (4 + 2 * c) (two16 c (t + 1) t t t (.slice (some ⟨g5, 0, none⟩) (t + 1) c6) vQ vR vS (swap1 C t (some (p, Dr.fresh n))) D (fun _ => (r : Int)) (fun _ => (r : Int)))) := m3.congr fun j _ => two16_rowP j
       have B3 : Hid (Below (w.heap.size + 5) wr w3) := HBW.out.trans b3
       have hsz3 := M3.out.size
       obtain ⟨y0, y1, y2, y3, y4, yf⟩ := HP.out.keep6 B3.out
       have yf3 := yf 3
       have hl3 : w.heap.size + 3 < w3.heap.size := by omega
       clear m3 b3 own1 grow1 lies1 lt1 M2 HBW O2 yf
       go_wp2_with fail
       try refine ⟨trivial, ?_⟩
       refine held_quiet 6 (v := ?v6q5) rfl (by kernel_rfl) (fun _ _ _ h => h) (by assumption) rfl ?hy6q5 ?rest6q5
       case hy6q5 => (intro wS hSw; (try dsimp only at hSw); go_simp; try with_reducible rfl)
       try simp only [Act.put, List.setIfInBounds_toArray, List.set_cons_zero, List.set_cons_succ]
       refine held_one 7 rfl (by kernel_rfl) ?_
       go_wp2_with fail
       try refine ⟨trivial, ?_⟩
       refine held_done (by kernel_rfl) ?_
       go_wp2_with fail
       go_meet
       exact ⟨_, _, HP.out.putP B3.out M3.out, HCD.out.1.more⟩
    case rest =>
     obtain ⟨vP1, C1, hP1, hC1⟩ := hcut
     obtain ⟨wa, hwa⟩ : ∃ wa, wa = wc := ⟨_, rfl⟩
     subst hwa
     have HP1 : Hid (Pair16 w c k r (t + 1) t t t vP1 vQ vR vS C1 D (fun _ => (r : Int)) (fun _ => (r : Int)) wa) := hP1
     have HC1 : Hid (New16 (t + 1) n C1) := hC1
     obtain ⟨aP, cP, rfl⟩ := head_of hP1.many (i := 2) (by omega) two16_2 (ptrs16_len t D)
     have hsz := hP1.size
     clear x0 x1 x2 x3 x4 xf g0 g1 g2 HP hC1
     obtain ⟨x0, x1, x2, x3, x4, xf⟩ := hP1.s7
     clear hP1
     go_upto_region 10 with fail
     go_cut [41] from 36 to 56 (fun s41 wc => ∃ v' D', Pair16 w c k r (t + 1) t (t + 1) t vP1 vQ v' vS C1 D' (fun _ => (r : Int)) (fun _ => (r : Int)) wc ∧ New16 (t + 1) n D')
     case first =>
      refine wp_region_held (S := fun _ => True) HMX.out ?_
      have hS : (fun _ : World => True) wa.drew := trivial
      change wpAnyH _ _ _ _ _ _ _ _ wa.drew
      refine held_quiet 0 (v := ?v0q6) rfl (by kernel_rfl) (fun _ _ _ h => h) (by assumption) rfl ?hy0q6 ?rest0q6
      case hy0q6 => (intro wS hSw; (try dsimp only at hSw); go_simp; try with_reducible rfl)
      try simp only [Act.put, List.setIfInBounds_toArray, List.set_cons_zero, List.set_cons_succ]
      refine held_quiet 2 (v := ?v2q7) rfl (by kernel_rfl) (fun _ _ _ h => h) (by assumption) rfl ?hy2q7 ?rest2q7
      case hy2q7 => (intro wS hSw; (try dsimp only at hSw); go_simp; try with_reducible rfl)
      try simp only [Act.put, List.setIfInBounds_toArray, List.set_cons_zero, List.set_cons_succ]
      refine held_two 1 3 rfl rfl (by kernel_rfl) ?_ ?_
      ·go_wp2_with fail
       try refine ⟨trivial, ?_⟩
       refine held_one 3 rfl (by kernel_rfl) ?_
       go_wp2_with (go_at_call 33; refine (HNR.out _).mono ?_; rintro e w2 ⟨p, rfl, hd2, hb2⟩)
       try refine ⟨trivial, ?_⟩
       have hbw : Below wa.heap.size wa w2 := (Below.refl _ wa).drew.trans hb2
       have M2 : Hid (Many w2 (w.heap.size + 5) (4 + 2 * c) (two16 c (t + 1) t t t vP1 vQ (.slice aP t cP) vS C1 (swap1 D t (some (p, Dr.fresh n))) (fun _ => (r : Int)) (fun _ => (r : Int)))) := two16_newR HP1.out.many hbw hd2 (fun k hk => hk)
       have HBW : Hid (Below (w.heap.size + 5) wa w2) := hbw.mono hsz
       have O2 : Hid (w2.ownsRow 0 67 1 (.slice aP t cP) t (ptrs16 t (swap1 D t (some (p, Dr.fresh n))))) := two16_own2 M2.out rfl
       obtain ⟨hP0, hP1, hP2, hP3⟩ := HIR.out
       clear hbw hb2 hd2
       refine held_one 4 rfl (by kernel_rfl) ?_
       go_wp2_with fail
       try refine ⟨trivial, ?_⟩
       refine held_one 5 rfl (by kernel_rfl) ?_
       refine wpList_append_lies _ rfl _ _ 31 rfl 0 67 iR (.pointer none) 1 8 Tryz.underlying31 hP0 hP1 hP2 hP3 rfl (by decide) (.slice aP t cP) t (ptrs16 t (swap1 D t (some (p, Dr.fresh n)))) rfl (O2.out.alloc _) ⟨w2.heap.size, 0, none⟩ 1 1 [.pointer (some ⟨p, 0, none⟩)] rfl rfl (cell_one_new _ _ _) (by simp [Value.oneCell']) (by decide) (by unfold maxLen; omega) (by omega) (Nat.zero_le _) _ rfl ?_
       intro g5 c6 w3 own1 grow1 lies1 lt1
       obtain ⟨m3, b3⟩ := many_growL (l' := ptrs16 (t + 1) (swap1 D t (some (p, Dr.fresh n)))) M2.out (i := 2) (by omega) two16_2 (by rw [ptrs16_len]) ((Below.refl _ _).alloc (Nat.le_refl _) _) (by rw [ptrs16_snoc, swap1_same]; exact own1) grow1 lies1
       have M3 : Hid (Many w3 (w.heap.size + 5) (4 + 2 * c) (two16 c (t + 1) t (t + 1) t vP1 vQ (.slice (some ⟨g5, 0, none⟩) (t + 1) c6) vS C1 (swap1 D t (some (p, Dr.fresh n))) (fun _ => (r : Int)) (fun _ => (r : Int)))) := m3.congr fun j _ => two16_rowR j
       have B3 : Hid (Below (w.heap.size + 5) wa w3) := HBW.out.trans b3
       have hsz3 := M3.out.size
       obtain ⟨y0, y1, y2, y3, y4, yf⟩ := HP1.out.keep7 B3.out
       have yf3 := yf 3
       have hl3 : w.heap.size + 4 < w3.heap.size := by omega
       clear m3 b3 own1 grow1 lies1 lt1 M2 HBW O2 yf
       go_wp2_with fail
       try refine ⟨trivial, ?_⟩
       refine held_quiet 6 (v := ?v6q8) rfl (by kernel_rfl) (fun _ _ _ h => h) (by assumption) rfl ?hy6q8 ?rest6q8
       case hy6q8 => (intro wS hSw; (try dsimp only at hSw); go_simp; try with_reducible rfl)
       try simp only [Act.put, List.setIfInBounds_toArray, List.set_cons_zero, List.set_cons_succ]
       refine held_one 7 rfl (by kernel_rfl) ?_
       go_wp2_with fail
       try refine ⟨trivial, ?_⟩
       refine held_done (by kernel_rfl) ?_
       go_wp2_with fail
       go_meet
       exact ⟨_, _, HP1.out.putR B3.out M3.out, HCD.out.2.more⟩
      ·go_wp2_with (go_at_call 33; refine (HNR.out _).mono ?_; rintro e w2 ⟨p, rfl, hd2, hb2⟩)
       try refine ⟨trivial, ?_⟩
       have z3 := (hb2.cell (p := ⟨w.heap.size + 4, 3, none⟩) (by show w.heap.size + 4 < wa.heap.size; omega)).trans x3
       have hlz : w.heap.size + 4 < w2.heap.size := by have := hb2.size; have : wa.heap.size ≤ w2.heap.size := hb2.size; omega
       have hbw : Below wa.heap.size wa w2 := (Below.refl _ wa).drew.trans hb2
       have M2 : Hid (Many w2 (w.heap.size + 5) (4 + 2 * c) (two16 c (t + 1) t t t vP1 vQ (.slice aP t cP) vS C1 (swap1 D t (some (p, Dr.fresh n))) (fun _ => (r : Int)) (fun _ => (r : Int)))) := two16_newR HP1.out.many hbw hd2 (fun k hk => hk)
       have HBW : Hid (Below (w.heap.size + 5) wa w2) := hbw.mono hsz
       have O2 : Hid (w2.ownsRow 0 67 1 (.slice aP t cP) t (ptrs16 t (swap1 D t (some (p, Dr.fresh n))))) := two16_own2 M2.out rfl
       obtain ⟨hP0, hP1, hP2, hP3⟩ := HIR.out
       clear hbw hb2 hd2
       have z4 := (((Below.refl _ w2).alloc (Nat.le_refl _) (.cells #[.pointer (some ⟨p, 0, none⟩)] 67)).cell (p := ⟨w.heap.size + 4, 3, none⟩) hlz).trans z3
       have hlz4 : w.heap.size + 4 < (w2.alloc (.cells #[.pointer (some ⟨p, 0, none⟩)] 67)).heap.size := by rw [World.size_alloc]; omega
       refine held_two 1 4 rfl rfl (by kernel_rfl) ?_ ?_
       ·clear z4 hlz4
        go_wp2_with fail
        try refine ⟨trivial, ?_⟩
        clear z3 hlz
        refine held_one 4 rfl (by kernel_rfl) ?_
        go_wp2_with fail
        try refine ⟨trivial, ?_⟩
        refine held_one 5 rfl (by kernel_rfl) ?_
        refine wpList_append_lies _ rfl _ _ 31 rfl 0 67 iR (.pointer none) 1 8 Tryz.underlying31 hP0 hP1 hP2 hP3 rfl (by decide) (.slice aP t cP) t (ptrs16 t (swap1 D t (some (p, Dr.fresh n)))) rfl (O2.out.alloc _) ⟨w2.heap.size, 0, none⟩ 1 1 [.pointer (some ⟨p, 0, none⟩)] rfl rfl (cell_one_new _ _ _) (by simp [Value.oneCell']) (by decide) (by unfold maxLen; omega) (by omega) (Nat.zero_le _) _ rfl ?_
        intro g5 c6 w3 own1 grow1 lies1 lt1
        obtain ⟨m3, b3⟩ := many_growL (l' := ptrs16 (t + 1) (swap1 D t (some (p, Dr.fresh n)))) M2.out (i := 2) (by omega) two16_2 (by rw [ptrs16_len]) ((Below.refl _ _).alloc (Nat.le_refl _) _) (by rw [ptrs16_snoc, swap1_same]; exact own1) grow1 lies1
        have M3 : Hid (Many w3 (w.heap.size + 5) (4 + 2 * c) (two16 c (t + 1) t (t + 1) t vP1 vQ (.slice (some ⟨g5, 0, none⟩) (t + 1) c6) vS C1 (swap1 D t (some (p, Dr.fresh n))) (fun _ => (r : Int)) (fun _ => (r : Int)))) := m3.congr fun j _ => two16_rowR j
        have B3 : Hid (Below (w.heap.size + 5) wa w3) := HBW.out.trans b3
        have hsz3 := M3.out.size
        obtain ⟨y0, y1, y2, y3, y4, yf⟩ := HP1.out.keep7 B3.out
        have yf3 := yf 3
        have hl3 : w.heap.size + 4 < w3.heap.size := by omega
        clear m3 b3 own1 grow1 lies1 lt1 M2 HBW O2 yf
        go_wp2_with fail
        try refine ⟨trivial, ?_⟩
        refine held_quiet 6 (v := ?v6q9) rfl (by kernel_rfl) (fun _ _ _ h => h) (by assumption) rfl ?hy6q9 ?rest6q9
        case hy6q9 => (intro wS hSw; (try dsimp only at hSw); go_simp; try with_reducible rfl)
        try simp only [Act.put, List.setIfInBounds_toArray, List.set_cons_zero, List.set_cons_succ]
        refine held_one 7 rfl (by kernel_rfl) ?_
        go_wp2_with fail
        try refine ⟨trivial, ?_⟩
        refine held_done (by kernel_rfl) ?_
        go_wp2_with fail
        go_meet
        exact ⟨_, _, HP1.out.putR B3.out M3.out, HCD.out.2.more⟩
       ·go_wp2_with fail
        try refine ⟨trivial, ?_⟩
        refine held_one 1 rfl (by kernel_rfl) ?_
        go_wp2_with fail
        try refine ⟨trivial, ?_⟩
        clear z3 hlz z4 hlz4
        refine held_one 5 rfl (by kernel_rfl) ?_
        refine wpList_append_lies _ rfl _ _ 31 rfl 0 67 iR (.pointer none) 1 8 Tryz.underlying31 hP0 hP1 hP2 hP3 rfl (by decide) (.slice aP t cP) t (ptrs16 t (swap1 D t (some (p, Dr.fresh n)))) rfl (O2.out.alloc _) ⟨w2.heap.size, 0, none⟩ 1 1 [.pointer (some ⟨p, 0, none⟩)] rfl rfl (cell_one_new _ _ _) (by simp [Value.oneCell']) (by decide) (by unfold maxLen; omega) (by omega) (Nat.zero_le _) _ rfl ?_
        intro g5 c6 w3 own1 grow1 lies1 lt1
        obtain ⟨m3, b3⟩ := many_growL (l' := ptrs16 (t + 1) (swap1 D t (some (p, Dr.fresh n)))) M2.out (i := 2) (by omega) two16_2 (by rw [ptrs16_len]) ((Below.refl _ _).alloc (Nat.le_refl _) _) (by rw [ptrs16_snoc, swap1_same]; exact own1) grow1 lies1
        have M3 : Hid (Many w3 (w.heap.size + 5) (4 + 2 * c) (two16 c (t + 1) t (t + 1) t vP1 vQ (.slice (some ⟨g5, 0, none⟩) (t + 1) c6) vS C1 (swap1 D t (some (p, Dr.fresh n))) (fun _ => (r : Int)) (fun _ => (r : Int)))) := m3.congr fun j _ => two16_rowR j
        have B3 : Hid (Below (w.heap.size + 5) wa w3) := HBW.out.trans b3
        have hsz3 := M3.out.size
        obtain ⟨y0, y1, y2, y3, y4, yf⟩ := HP1.out.keep7 B3.out
        have yf3 := yf 3
        have hl3 : w.heap.size + 4 < w3.heap.size := by omega
        clear m3 b3 own1 grow1 lies1 lt1 M2 HBW O2 yf
        go_wp2_with fail
        try refine ⟨trivial, ?_⟩
        refine held_quiet 6 (v := ?v6q10) rfl (by kernel_rfl) (fun _ _ _ h => h) (by assumption) rfl ?hy6q10 ?rest6q10
        case hy6q10 => (intro wS hSw; (try dsimp only at hSw); go_simp; try with_reducible rfl)
        try simp only [Act.put, List.setIfInBounds_toArray, List.set_cons_zero, List.set_cons_succ]
        refine held_one 7 rfl (by kernel_rfl) ?_
        go_wp2_with fail
        try refine ⟨trivial, ?_⟩
        refine held_done (by kernel_rfl) ?_
        go_wp2_with fail
        go_meet
        exact ⟨_, _, HP1.out.putR B3.out M3.out, HCD.out.2.more⟩
     case rest =>
      obtain ⟨vR1, D1, hP2, hD1⟩ := hcut
      obtain ⟨wb, hwb⟩ : ∃ wb, wb = wc := ⟨_, rfl⟩
      subst hwb
      have HP2 : Hid (Pair16 w c k r (t + 1) t (t + 1) t vP1 vQ vR1 vS C1 D1 (fun _ => (r : Int)) (fun _ => (r : Int)) wb) := hP2
      have HD1 : Hid (New16 (t + 1) n D1) := hD1
      obtain ⟨aQ, cQ, rfl⟩ := head_of hP2.many (i := 1) (by omega) two16_1 (ints16_len t _)
      have hsz := hP2.size
      clear x0 x1 x2 x3 x4 xf HP1 HCD hD1
      obtain ⟨g0, g1, g2⟩ := hP2.geo
      obtain ⟨x0, x1, x2, x3, x4, xf⟩ := hP2.s6
      have O2 : Hid (wb.ownsRow 0 3 1 (.slice aQ t cQ) t (ints16 t (fun _ => (r : Int)))) := two16_own1 hP2.many rfl
      clear hP2
      obtain ⟨hP0, hP1, hP2, hP3⟩ := HII.out
      go_upto_region 11 with fail
      go_cut [48] from 43 to 56 (fun s48 wc => ∃ v', Pair16 w c k r (t + 1) (t + 1) (t + 1) t vP1 v' vR1 vS C1 D1 (fun _ => (r : Int)) (fun _ => (r : Int)) wc)
      case first =>
       go_wp2_with (at_builtin; go_loud (refine wpList_append_lies _ rfl _ _ 28 rfl 0 3 iI (.int .i64 0) 1 8 Tryz.underlying28 hP0 hP1 hP2 hP3 rfl (by decide) (.slice aQ t cQ) t (ints16 t (fun _ => (r : Int))) rfl (O2.out.alloc _) ⟨wb.heap.size, 0, none⟩ 1 1 [.int .i64 (r : Int)] rfl rfl (cell_one_new _ _ _) (by simp [Value.oneCell']) (by decide) (by unfold maxLen; omega) (by omega) (Nat.zero_le _) _ rfl ?_; intro g5 c6 w3 own1 grow1 lies1 lt1; obtain ⟨m3, b3⟩ := many_growL (l' := ints16 (t + 1) (fun _ => (r : Int))) HP2.out.many (i := 1) (by omega) two16_1 (by rw [ints16_len]) ((Below.refl _ _).alloc (Nat.le_refl _) _) (by rw [ints16_snoc]; exact own1) grow1 lies1; have M3 : Hid (Many w3 (w.heap.size + 5) (4 + 2 * c) (two16 c (t + 1) (t + 1) (t + 1) t vP1 (.slice (some ⟨g5, 0, none⟩) (t + 1) c6) vR1 vS C1 D1 (fun _ => (r : Int)) (fun _ => (r : Int)))) := m3.congr fun j _ => two16_rowQ j; have B3 : Hid (Below (w.heap.size + 5) wb w3) := b3; have hsz3 := M3.out.size; obtain ⟨y0, y1, y2, y3, y4, yf⟩ := HP2.out.keep6 B3.out; have yf3 := yf 4; have hl3 : w.heap.size + 3 < w3.heap.size := (by omega); clear m3 b3 own1 grow1 lies1 lt1 O2 yf))
       go_meet
       exact ⟨_, HP2.out.putQ B3.out M3.out⟩
      case rest =>
       obtain ⟨vQ1, hQ1⟩ := hcut
       obtain ⟨wd, hwd⟩ : ∃ wd, wd = wc := ⟨_, rfl⟩
       subst hwd
       have HP3 : Hid (Pair16 w c k r (t + 1) (t + 1) (t + 1) t vP1 vQ1 vR1 vS C1 D1 (fun _ => (r : Int)) (fun _ => (r : Int)) wd) := hQ1
       obtain ⟨aS, cS, rfl⟩ := head_of hQ1.many (i := 3) (by omega) two16_3 (ints16_len t _)
       have hsz := hQ1.size
       clear x0 x1 x2 x3 x4 xf HP2 O2 g0 g1 g2
       obtain ⟨g0, g1, g2⟩ := hQ1.geo
       obtain ⟨x0, x1, x2, x3, x4, xf⟩ := hQ1.s7
       have O2 : Hid (wd.ownsRow 0 3 1 (.slice aS t cS) t (ints16 t (fun _ => (r : Int)))) := two16_own3 hQ1.many rfl
       clear hQ1
       go_wp2_with (at_builtin; go_loud (refine wpList_append_lies _ rfl _ _ 28 rfl 0 3 iI (.int .i64 0) 1 8 Tryz.underlying28 hP0 hP1 hP2 hP3 rfl (by decide) (.slice aS t cS) t (ints16 t (fun _ => (r : Int))) rfl (O2.out.alloc _) ⟨wd.heap.size, 0, none⟩ 1 1 [.int .i64 (r : Int)] rfl rfl (cell_one_new _ _ _) (by simp [Value.oneCell']) (by decide) (by unfold maxLen; omega) (by omega) (Nat.zero_le _) _ rfl ?_; intro g5 c6 w3 own1 grow1 lies1 lt1; obtain ⟨m3, b3⟩ := many_growL (l' := ints16 (t + 1) (fun _ => (r : Int))) HP3.out.many (i := 3) (by omega) two16_3 (by rw [ints16_len]) ((Below.refl _ _).alloc (Nat.le_refl _) _) (by rw [ints16_snoc]; exact own1) grow1 lies1; have M3 : Hid (Many w3 (w.heap.size + 5) (4 + 2 * c) (two16 c (t + 1) (t + 1) (t + 1) (t + 1) vP1 vQ1 vR1 (.slice (some ⟨g5, 0, none⟩) (t + 1) c6) C1 D1 (fun _ => (r : Int)) (fun _ => (r : Int)))) := m3.congr fun j _ => two16_rowS j; have B3 : Hid (Below (w.heap.size + 5) wd w3) := b3; have hsz3 := M3.out.size; obtain ⟨y0, y1, y2, y3, y4, yf⟩ := HP3.out.keep7 B3.out; have yf3 := yf 4; have hl3 : w.heap.size + 4 < w3.heap.size := (by omega); clear m3 b3 own1 grow1 lies1 lt1 O2 yf))
       go_roundg (c - (t + 1))
       case measure => omega
       case rel => exact ⟨t + 1, by omega, rfl, by go_num, _, _, _, _, _, _, HP3.out.putS B3.out M3.out, HC1.out, HD1.out⟩
   ·have htc : t = c := by omega
    have HTC : Hid (t = c) := htc
    have hx : ¬ (t : Int) < (c : Int) := by omega
    have htc2 : Hid (Pair16 w c k r t t t t vP vQ vR vS C D (fun _ => (r : Int)) (fun _ => (r : Int)) wr) := hP
    obtain ⟨aP, cP, rfl⟩ := head_of hP.many (i := 0) (by omega) two16_0 (ptrs16_len t C)
    obtain ⟨aQ, cQ, rfl⟩ := head_of hP.many (i := 1) (by omega) two16_1 (ints16_len t _)
    obtain ⟨aR, cR, rfl⟩ := head_of hP.many (i := 2) (by omega) two16_2 (ptrs16_len t D)
    obtain ⟨aS, cS, rfl⟩ := head_of hP.many (i := 3) (by omega) two16_3 (ints16_len t _)
    obtain ⟨x0, x1, x2, x3, x4, _⟩ := hP.s6
    obtain ⟨y0, y1, y2, y3, y4, _⟩ := hP.s7
    obtain ⟨p0, p1, p2, p3, p4, pf⟩ := hP.z4
    obtain ⟨q0, q1, q2, q3, q4, qf⟩ := hP.z5
    have pf0 := pf 0
    have pf1 := pf 1
    have pf2 := pf 2
    have pf3 := pf 3
    have pf4 := pf 4
    have qf0 := qf 0
    have qf1 := qf 1
    have qf2 := qf 2
    have qf3 := qf 3
    have qf4 := qf 4
    have l1 : w.heap.size + 1 < wr.heap.size := by omega
    have l2 : w.heap.size + 2 < wr.heap.size := by omega
    have l3 : w.heap.size + 3 < wr.heap.size := by omega
    have l4 : w.heap.size + 4 < wr.heap.size := by omega
    have FS := stored16_says hP.z4 hP.z5 (by omega) (.int .i64 (c : Int)) (.int .i64 (k : Int)) (.int .i64 (r : Int)) (.slice aP t cP) (.slice aQ t cQ) (.int .i64 (c : Int)) (.int .i64 (k : Int)) (.int .i64 (r : Int)) (.slice aR t cR) (.slice aS t cS)
    have HFS : Hid (_ ∧ _ ∧ _) := FS
    clear hP htc HP pf qf FS
    simp only [nilV] at p3 p4 q3 q4
    go_upto_region 13 with fail
    go_region
    change Exit.then _ _ _ _ (stored16 wr (w.heap.size + 1) (w.heap.size + 2) (.int .i64 (c : Int)) (.int .i64 (k : Int)) (.int .i64 (r : Int)) (.slice aP t cP) (.slice aQ t cQ) (.int .i64 (c : Int)) (.int .i64 (k : Int)) (.int .i64 (r : Int)) (.slice aR t cR) (.slice aS t cS)).drew
    obtain ⟨f1, f2, fo⟩ := HFS.out
    generalize stored16 wr (w.heap.size + 1) (w.heap.size + 2) (.int .i64 (c : Int)) (.int .i64 (k : Int)) (.int .i64 (r : Int)) (.slice aP t cP) (.slice aQ t cQ) (.int .i64 (c : Int)) (.int .i64 (k : Int)) (.int .i64 (r : Int)) (.slice aR t cR) (.slice aS t cS) = ws at f1 f2 fo ⊢
    have HFO : Hid (Only (fun k => k = w.heap.size + 1 ∨ k = w.heap.size + 2) wr ws) := fo
    clear x0 x1 x2 x3 x4 y0 y1 y2 y3 y4 p0 p1 p2 p3 p4 q0 q1 q2 q3 q4 pf0 pf1 pf2 pf3 pf4 qf0 qf1 qf2 qf3 qf4 fo g0 g1 g2 HFS
    have HR1 : Hid (ws.drew.rangeAt (w.heap.size + 1) 0 _) := (World.rangeAt_drew _ _ _ _).2 f1.range
    have HR2 : Hid (ws.drew.rangeAt (w.heap.size + 2) 0 _) := (World.rangeAt_drew _ _ _ _).2 f2.range
    clear f1 f2
    go_wp2_with fail
    (try simp only [Exit.inBlock, Exit.then])
    refine bodyPost_ret (results_two16 rfl _ _ (w.heap.size + 1) (w.heap.size + 2) _ _ _ _ rfl HR1.out Tryz.underlying30 rfl set16_size.1 rfl HR2.out Tryz.underlying33 rfl set16_size.2) rfl ?_
    have hdr : Only (fun k => k = w.heap.size + 1 ∨ k = w.heap.size + 2) wr ws.drew := HFO.out.then (Only.drew _ _)
    have hmd : Many ws.drew (w.heap.size + 5) (4 + 2 * c) _ := htc2.out.many.only hdr (fun k hk => .inl (by omega))
    have hbd : Below w.heap.size w ws.drew := htc2.out.low.trans (hdr.below (fun k hk => by omega) (by omega))
    obtain ⟨hC, hD⟩ := HCD.out
    rw [HTC.out] at hmd hC hD ⊢
    exact ⟨⟨aP, cP, aQ, cQ, aR, cR, aS, cS, rfl, C, D, hC, hD, hmd⟩, hbd⟩
 | false =>
  have hn2 : 4 + (x : Int) = (n : Int) := by rw [hn]; first | (simp; done) | (simp; omega)
  have HNN : Hid (1 ≤ n ∧ n ≤ 4096) := by exact ⟨by rw [hn]; first | (simp; done) | (simp; omega), by rw [hn]; first | (simp; done) | (simp; omega)⟩
  clear hn
  go_enter Tryz.func9, Tryz.ntmps9
  go_wp2_with fail
  simp only [Nat.add_assoc, Nat.reduceAdd]
  try rw [hn2]
  clear hn2 e1 hok hrk
  have HNP : Hid (∀ W, Calls Tryz.prog 32 #[.int .i64 (n : Nat)] W fun e w' => ∃ p, e = .returned (.pointer (some ⟨p, 0, none⟩)) ∧ DriveAt w' p (Dr.fresh n) (fun k => W.heap.size ≤ k) ∧ Below W.heap.size W w') := fun W => new_yes n HNN.out.1 HNN.out.2 W
  have HNR : Hid (∀ W, Calls Tryz.prog 33 #[.int .i64 (n : Nat)] W fun e w' => ∃ p, e = .returned (.pointer (some ⟨p, 0, none⟩)) ∧ RefAt w' p (Dr.fresh n) (fun k => W.heap.size ≤ k) ∧ Below W.heap.size W w') := fun W => refNew16N n HNN.out.1 HNN.out.2 W
  go_loopg [9] c (fun gg s9 wr => ∃ t : Nat, t ≤ c ∧ gg = c - t ∧ s9 = .int .i64 (t : Int) ∧ ∃ vP vQ vR vS C D, Pair16 w c k r t t t t vP vQ vR vS C D (fun _ => (r : Int)) (fun _ => (r : Int)) wr ∧ New16 t n C ∧ New16 t n D)
  case atStart => exact ⟨0, Nat.zero_le _, rfl, rfl, _, _, _, _, _, _, P0.out, fun _ h => absurd h (Nat.not_lt_zero _), fun _ h => absurd h (Nat.not_lt_zero _)⟩
  case round =>
   obtain ⟨t, ht, rfl, rfl, vP, vQ, vR, vS, C, D, hP, hC, hD⟩ := hrel
   have HP : Hid (Pair16 w c k r t t t t vP vQ vR vS C D (fun _ => (r : Int)) (fun _ => (r : Int)) wr) := hP
   have HCD : Hid (New16 t n C ∧ New16 t n D) := ⟨hC, hD⟩
   have hsz := hP.size
   obtain ⟨g0, g1, g2⟩ := hP.geo
   clear P0 hC hD
   by_cases hlt : t < c
   ·have hi : (t : Int) < (c : Int) := by omega
    obtain ⟨aP, cP, rfl⟩ := head_of hP.many (i := 0) (by omega) two16_0 (ptrs16_len t C)
    obtain ⟨x0, x1, x2, x3, x4, xf⟩ := hP.s6
    clear hP
    go_upto_region 9 with fail
    go_cut [34] from 29 to 56 (fun s34 wc => ∃ v' C', Pair16 w c k r (t + 1) t t t v' vQ vR vS C' D (fun _ => (r : Int)) (fun _ => (r : Int)) wc ∧ New16 (t + 1) n C')
    case first =>
     refine wp_region_held (S := fun _ => True) HMX.out ?_
     have hS : (fun _ : World => True) wr.drew := trivial
     change wpAnyH _ _ _ _ _ _ _ _ wr.drew
     refine held_quiet 0 (v := ?v0q11) rfl (by kernel_rfl) (fun _ _ _ h => h) (by assumption) rfl ?hy0q11 ?rest0q11
     case hy0q11 => (intro wS hSw; (try dsimp only at hSw); go_simp; try with_reducible rfl)
     try simp only [Act.put, List.setIfInBounds_toArray, List.set_cons_zero, List.set_cons_succ]
     refine held_quiet 2 (v := ?v2q12) rfl (by kernel_rfl) (fun _ _ _ h => h) (by assumption) rfl ?hy2q12 ?rest2q12
     case hy2q12 => (intro wS hSw; (try dsimp only at hSw); go_simp; try with_reducible rfl)
     try simp only [Act.put, List.setIfInBounds_toArray, List.set_cons_zero, List.set_cons_succ]
     refine held_two 1 3 rfl rfl (by kernel_rfl) ?_ ?_
     ·go_wp2_with fail
      try refine ⟨trivial, ?_⟩
      refine held_one 3 rfl (by kernel_rfl) ?_
      go_wp2_with (go_at_call 32; refine (HNP.out _).mono ?_; rintro e w2 ⟨p, rfl, hd2, hb2⟩)
      try refine ⟨trivial, ?_⟩
      have hbw : Below wr.heap.size wr w2 := (Below.refl _ wr).drew.trans hb2
      have M2 : Hid (Many w2 (w.heap.size + 5) (4 + 2 * c) (two16 c t t t t (.slice aP t cP) vQ vR vS (swap1 C t (some (p, Dr.fresh n))) D (fun _ => (r : Int)) (fun _ => (r : Int)))) := two16_newP HP.out.many hlt hbw hd2 (fun k hk => hk)
      have HBW : Hid (Below (w.heap.size + 5) wr w2) := hbw.mono hsz
      have O2 : Hid (w2.ownsRow 0 59 1 (.slice aP t cP) t (ptrs16 t (swap1 C t (some (p, Dr.fresh n))))) := two16_own0 M2.out rfl
      obtain ⟨hP0, hP1, hP2, hP3⟩ := HIP.out
      clear hbw hb2 hd2
      refine held_one 4 rfl (by kernel_rfl) ?_
      go_wp2_with fail
      try refine ⟨trivial, ?_⟩
      refine held_one 5 rfl (by kernel_rfl) ?_
      refine wpList_append_lies _ rfl _ _ 27 rfl 0 59 iP (.pointer none) 1 8 Tryz.underlying27 hP0 hP1 hP2 hP3 rfl (by decide) (.slice aP t cP) t (ptrs16 t (swap1 C t (some (p, Dr.fresh n)))) rfl (O2.out.alloc _) ⟨w2.heap.size, 0, none⟩ 1 1 [.pointer (some ⟨p, 0, none⟩)] rfl rfl (cell_one_new _ _ _) (by simp [Value.oneCell']) (by decide) (by unfold maxLen; omega) (by omega) (Nat.zero_le _) _ rfl ?_
      intro g5 c6 w3 own1 grow1 lies1 lt1
      obtain ⟨m3, b3⟩ := many_growL (l' := ptrs16 (t + 1) (swap1 C t (some (p, Dr.fresh n)))) M2.out (i := 0) (by omega) two16_0 (by rw [ptrs16_len]) ((Below.refl _ _).alloc (Nat.le_refl _) _) (by rw [ptrs16_snoc, swap1_same]; exact own1) grow1 lies1
      have M3 : Hid (Many w3 (w.heap.size + 5) (4 + 2 * c) (two16 c (t + 1) t t t (.slice (some ⟨g5, 0, none⟩) (t + 1) c6) vQ vR vS (swap1 C t (some (p, Dr.fresh n))) D (fun _ => (r : Int)) (fun _ => (r : Int)))) := m3.congr fun j _ => two16_rowP j
      have B3 : Hid (Below (w.heap.size + 5) wr w3) := HBW.out.trans b3
      have hsz3 := M3.out.size
      obtain ⟨y0, y1, y2, y3, y4, yf⟩ := HP.out.keep6 B3.out
      have yf3 := yf 3
      have hl3 : w.heap.size + 3 < w3.heap.size := by omega
      clear m3 b3 own1 grow1 lies1 lt1 M2 HBW O2 yf
      go_wp2_with fail
      try refine ⟨trivial, ?_⟩
      refine held_quiet 6 (v := ?v6q13) rfl (by kernel_rfl) (fun _ _ _ h => h) (by assumption) rfl ?hy6q13 ?rest6q13
      case hy6q13 => (intro wS hSw; (try dsimp only at hSw); go_simp; try with_reducible rfl)
      try simp only [Act.put, List.setIfInBounds_toArray, List.set_cons_zero, List.set_cons_succ]
      refine held_one 7 rfl (by kernel_rfl) ?_
      go_wp2_with fail
      try refine ⟨trivial, ?_⟩
      refine held_done (by kernel_rfl) ?_
      go_wp2_with fail
      go_meet
      exact ⟨_, _, HP.out.putP B3.out M3.out, HCD.out.1.more⟩
     ·go_wp2_with (go_at_call 32; refine (HNP.out _).mono ?_; rintro e w2 ⟨p, rfl, hd2, hb2⟩)
      try refine ⟨trivial, ?_⟩
      have z3 := (hb2.cell (p := ⟨w.heap.size + 3, 3, none⟩) (by show w.heap.size + 3 < wr.heap.size; omega)).trans x3
      have hlz : w.heap.size + 3 < w2.heap.size := by have := hb2.size; have : wr.heap.size ≤ w2.heap.size := hb2.size; omega
      have hbw : Below wr.heap.size wr w2 := (Below.refl _ wr).drew.trans hb2
      have M2 : Hid (Many w2 (w.heap.size + 5) (4 + 2 * c) (two16 c t t t t (.slice aP t cP) vQ vR vS (swap1 C t (some (p, Dr.fresh n))) D (fun _ => (r : Int)) (fun _ => (r : Int)))) := two16_newP HP.out.many hlt hbw hd2 (fun k hk => hk)
      have HBW : Hid (Below (w.heap.size + 5) wr w2) := hbw.mono hsz
      have O2 : Hid (w2.ownsRow 0 59 1 (.slice aP t cP) t (ptrs16 t (swap1 C t (some (p, Dr.fresh n))))) := two16_own0 M2.out rfl
      obtain ⟨hP0, hP1, hP2, hP3⟩ := HIP.out
      clear hbw hb2 hd2
      have z4 := (((Below.refl _ w2).alloc (Nat.le_refl _) (.cells #[.pointer (some ⟨p, 0, none⟩)] 59)).cell (p := ⟨w.heap.size + 3, 3, none⟩) hlz).trans z3
      have hlz4 : w.heap.size + 3 < (w2.alloc (.cells #[.pointer (some ⟨p, 0, none⟩)] 59)).heap.size := by rw [World.size_alloc]; omega
      refine held_two 1 4 rfl rfl (by kernel_rfl) ?_ ?_
      ·clear z4 hlz4
       go_wp2_with fail
       try refine ⟨trivial, ?_⟩
       clear z3 hlz
       refine held_one 4 rfl (by kernel_rfl) ?_
       go_wp2_with fail
       try refine ⟨trivial, ?_⟩
       refine held_one 5 rfl (by kernel_rfl) ?_
       refine wpList_append_lies _ rfl _ _ 27 rfl 0 59 iP (.pointer none) 1 8 Tryz.underlying27 hP0 hP1 hP2 hP3 rfl (by decide) (.slice aP t cP) t (ptrs16 t (swap1 C t (some (p, Dr.fresh n)))) rfl (O2.out.alloc _) ⟨w2.heap.size, 0, none⟩ 1 1 [.pointer (some ⟨p, 0, none⟩)] rfl rfl (cell_one_new _ _ _) (by simp [Value.oneCell']) (by decide) (by unfold maxLen; omega) (by omega) (Nat.zero_le _) _ rfl ?_
       intro g5 c6 w3 own1 grow1 lies1 lt1
       obtain ⟨m3, b3⟩ := many_growL (l' := ptrs16 (t + 1) (swap1 C t (some (p, Dr.fresh n)))) M2.out (i := 0) (by omega) two16_0 (by rw [ptrs16_len]) ((Below.refl _ _).alloc (Nat.le_refl _) _) (by rw [ptrs16_snoc, swap1_same]; exact own1) grow1 lies1
       have M3 : Hid (Many w3 (w.heap.size + 5) (4 + 2 * c) (two16 c (t + 1) t t t (.slice (some ⟨g5, 0, none⟩) (t + 1) c6) vQ vR vS (swap1 C t (some (p, Dr.fresh n))) D (fun _ => (r : Int)) (fun _ => (r : Int)))) := m3.congr fun j _ => two16_rowP j
       have B3 : Hid (Below (w.heap.size + 5) wr w3) := HBW.out.trans b3
       have hsz3 := M3.out.size
       obtain ⟨y0, y1, y2, y3, y4, yf⟩ := HP.out.keep6 B3.out
       have yf3 := yf 3
       have hl3 : w.heap.size + 3 < w3.heap.size := by omega
       clear m3 b3 own1 grow1 lies1 lt1 M2 HBW O2 yf
       go_wp2_with fail
       try refine ⟨trivial, ?_⟩
       refine held_quiet 6 (v := ?v6q14) rfl (by kernel_rfl) (fun _ _ _ h => h) (by assumption) rfl ?hy6q14 ?rest6q14
       case hy6q14 => (intro wS hSw; (try dsimp only at hSw); go_simp; try with_reducible rfl)
       try simp only [Act.put, List.setIfInBounds_toArray, List.set_cons_zero, List.set_cons_succ]
       refine held_one 7 rfl (by kernel_rfl) ?_
       go_wp2_with fail
       try refine ⟨trivial, ?_⟩
       refine held_done (by kernel_rfl) ?_
       go_wp2_with fail
       go_meet
       exact ⟨_, _, HP.out.putP B3.out M3.out, HCD.out.1.more⟩
      ·go_wp2_with fail
       try refine ⟨trivial, ?_⟩
       refine held_one 1 rfl (by kernel_rfl) ?_
       go_wp2_with fail
       try refine ⟨trivial, ?_⟩
       clear z3 hlz z4 hlz4
       refine held_one 5 rfl (by kernel_rfl) ?_
       refine wpList_append_lies _ rfl _ _ 27 rfl 0 59 iP (.pointer none) 1 8 Tryz.underlying27 hP0 hP1 hP2 hP3 rfl (by decide) (.slice aP t cP) t (ptrs16 t (swap1 C t (some (p, Dr.fresh n)))) rfl (O2.out.alloc _) ⟨w2.heap.size, 0, none⟩ 1 1 [.pointer (some ⟨p, 0, none⟩)] rfl rfl (cell_one_new _ _ _) (by simp [Value.oneCell']) (by decide) (by unfold maxLen; omega) (by omega) (Nat.zero_le _) _ rfl ?_
       intro g5 c6 w3 own1 grow1 lies1 lt1
       obtain ⟨m3, b3⟩ := many_growL (l' := ptrs16 (t + 1) (swap1 C t (some (p, Dr.fresh n)))) M2.out (i := 0) (by omega) two16_0 (by rw [ptrs16_len]) ((Below.refl _ _).alloc (Nat.le_refl _) _) (by rw [ptrs16_snoc, swap1_same]; exact own1) grow1 lies1
       have M3 : Hid (Many w3 (w.heap.size + 5) (4 + 2 * c) (two16 c (t + 1) t t t (.slice (some ⟨g5, 0, none⟩) (t + 1) c6) vQ vR vS (swap1 C t (some (p, Dr.fresh n))) D (fun _ => (r : Int)) (fun _ => (r : Int)))) := m3.congr fun j _ => two16_rowP j
       have B3 : Hid (Below (w.heap.size + 5) wr w3) := HBW.out.trans b3
       have hsz3 := M3.out.size
       obtain ⟨y0, y1, y2, y3, y4, yf⟩ := HP.out.keep6 B3.out
       have yf3 := yf 3
       have hl3 : w.heap.size + 3 < w3.heap.size := by omega
       clear m3 b3 own1 grow1 lies1 lt1 M2 HBW O2 yf
       go_wp2_with fail
       try refine ⟨trivial, ?_⟩
       refine held_quiet 6 (v := ?v6q15) rfl (by kernel_rfl) (fun _ _ _ h => h) (by assumption) rfl ?hy6q15 ?rest6q15
       case hy6q15 => (intro wS hSw; (try dsimp only at hSw); go_simp; try with_reducible rfl)
       try simp only [Act.put, List.setIfInBounds_toArray, List.set_cons_zero, List.set_cons_succ]
       refine held_one 7 rfl (by kernel_rfl) ?_
       go_wp2_with fail
       try refine ⟨trivial, ?_⟩
       refine held_done (by kernel_rfl) ?_
       go_wp2_with fail
       go_meet
       exact ⟨_, _, HP.out.putP B3.out M3.out, HCD.out.1.more⟩
    case rest =>
     obtain ⟨vP1, C1, hP1, hC1⟩ := hcut
     obtain ⟨wa, hwa⟩ : ∃ wa, wa = wc := ⟨_, rfl⟩
     subst hwa
     have HP1 : Hid (Pair16 w c k r (t + 1) t t t vP1 vQ vR vS C1 D (fun _ => (r : Int)) (fun _ => (r : Int)) wa) := hP1
     have HC1 : Hid (New16 (t + 1) n C1) := hC1
     obtain ⟨aP, cP, rfl⟩ := head_of hP1.many (i := 2) (by omega) two16_2 (ptrs16_len t D)
     have hsz := hP1.size
     clear x0 x1 x2 x3 x4 xf g0 g1 g2 HP hC1
     obtain ⟨x0, x1, x2, x3, x4, xf⟩ := hP1.s7
     clear hP1
     go_upto_region 10 with fail
     go_cut [41] from 36 to 56 (fun s41 wc => ∃ v' D', Pair16 w c k r (t + 1) t (t + 1) t vP1 vQ v' vS C1 D' (fun _ => (r : Int)) (fun _ => (r : Int)) wc ∧ New16 (t + 1) n D')
     case first =>
      refine wp_region_held (S := fun _ => True) HMX.out ?_
      have hS : (fun _ : World => True) wa.drew := trivial
      change wpAnyH _ _ _ _ _ _ _ _ wa.drew
      refine held_quiet 0 (v := ?v0q16) rfl (by kernel_rfl) (fun _ _ _ h => h) (by assumption) rfl ?hy0q16 ?rest0q16
      case hy0q16 => (intro wS hSw; (try dsimp only at hSw); go_simp; try with_reducible rfl)
      try simp only [Act.put, List.setIfInBounds_toArray, List.set_cons_zero, List.set_cons_succ]
      refine held_quiet 2 (v := ?v2q17) rfl (by kernel_rfl) (fun _ _ _ h => h) (by assumption) rfl ?hy2q17 ?rest2q17
      case hy2q17 => (intro wS hSw; (try dsimp only at hSw); go_simp; try with_reducible rfl)
      try simp only [Act.put, List.setIfInBounds_toArray, List.set_cons_zero, List.set_cons_succ]
      refine held_two 1 3 rfl rfl (by kernel_rfl) ?_ ?_
      ·go_wp2_with fail
       try refine ⟨trivial, ?_⟩
       refine held_one 3 rfl (by kernel_rfl) ?_
       go_wp2_with (go_at_call 33; refine (HNR.out _).mono ?_; rintro e w2 ⟨p, rfl, hd2, hb2⟩)
       try refine ⟨trivial, ?_⟩
       have hbw : Below wa.heap.size wa w2 := (Below.refl _ wa).drew.trans hb2
       have M2 : Hid (Many w2 (w.heap.size + 5) (4 + 2 * c) (two16 c (t + 1) t t t vP1 vQ (.slice aP t cP) vS C1 (swap1 D t (some (p, Dr.fresh n))) (fun _ => (r : Int)) (fun _ => (r : Int)))) := two16_newR HP1.out.many hbw hd2 (fun k hk => hk)
       have HBW : Hid (Below (w.heap.size + 5) wa w2) := hbw.mono hsz
       have O2 : Hid (w2.ownsRow 0 67 1 (.slice aP t cP) t (ptrs16 t (swap1 D t (some (p, Dr.fresh n))))) := two16_own2 M2.out rfl
       obtain ⟨hP0, hP1, hP2, hP3⟩ := HIR.out
       clear hbw hb2 hd2
       refine held_one 4 rfl (by kernel_rfl) ?_
       go_wp2_with fail
       try refine ⟨trivial, ?_⟩
       refine held_one 5 rfl (by kernel_rfl) ?_
       refine wpList_append_lies _ rfl _ _ 31 rfl 0 67 iR (.pointer none) 1 8 Tryz.underlying31 hP0 hP1 hP2 hP3 rfl (by decide) (.slice aP t cP) t (ptrs16 t (swap1 D t (some (p, Dr.fresh n)))) rfl (O2.out.alloc _) ⟨w2.heap.size, 0, none⟩ 1 1 [.pointer (some ⟨p, 0, none⟩)] rfl rfl (cell_one_new _ _ _) (by simp [Value.oneCell']) (by decide) (by unfold maxLen; omega) (by omega) (Nat.zero_le _) _ rfl ?_
       intro g5 c6 w3 own1 grow1 lies1 lt1
       obtain ⟨m3, b3⟩ := many_growL (l' := ptrs16 (t + 1) (swap1 D t (some (p, Dr.fresh n)))) M2.out (i := 2) (by omega) two16_2 (by rw [ptrs16_len]) ((Below.refl _ _).alloc (Nat.le_refl _) _) (by rw [ptrs16_snoc, swap1_same]; exact own1) grow1 lies1
       have M3 : Hid (Many w3 (w.heap.size + 5) (4 + 2 * c) (two16 c (t + 1) t (t + 1) t vP1 vQ (.slice (some ⟨g5, 0, none⟩) (t + 1) c6) vS C1 (swap1 D t (some (p, Dr.fresh n))) (fun _ => (r : Int)) (fun _ => (r : Int)))) := m3.congr fun j _ => two16_rowR j
       have B3 : Hid (Below (w.heap.size + 5) wa w3) := HBW.out.trans b3
       have hsz3 := M3.out.size
       obtain ⟨y0, y1, y2, y3, y4, yf⟩ := HP1.out.keep7 B3.out
       have yf3 := yf 3
       have hl3 : w.heap.size + 4 < w3.heap.size := by omega
       clear m3 b3 own1 grow1 lies1 lt1 M2 HBW O2 yf
       go_wp2_with fail
       try refine ⟨trivial, ?_⟩
       refine held_quiet 6 (v := ?v6q18) rfl (by kernel_rfl) (fun _ _ _ h => h) (by assumption) rfl ?hy6q18 ?rest6q18
       case hy6q18 => (intro wS hSw; (try dsimp only at hSw); go_simp; try with_reducible rfl)
       try simp only [Act.put, List.setIfInBounds_toArray, List.set_cons_zero, List.set_cons_succ]
       refine held_one 7 rfl (by kernel_rfl) ?_
       go_wp2_with fail
       try refine ⟨trivial, ?_⟩
       refine held_done (by kernel_rfl) ?_
       go_wp2_with fail
       go_meet
       exact ⟨_, _, HP1.out.putR B3.out M3.out, HCD.out.2.more⟩
      ·go_wp2_with (go_at_call 33; refine (HNR.out _).mono ?_; rintro e w2 ⟨p, rfl, hd2, hb2⟩)
       try refine ⟨trivial, ?_⟩
       have z3 := (hb2.cell (p := ⟨w.heap.size + 4, 3, none⟩) (by show w.heap.size + 4 < wa.heap.size; omega)).trans x3
       have hlz : w.heap.size + 4 < w2.heap.size := by have := hb2.size; have : wa.heap.size ≤ w2.heap.size := hb2.size; omega
       have hbw : Below wa.heap.size wa w2 := (Below.refl _ wa).drew.trans hb2
       have M2 : Hid (Many w2 (w.heap.size + 5) (4 + 2 * c) (two16 c (t + 1) t t t vP1 vQ (.slice aP t cP) vS C1 (swap1 D t (some (p, Dr.fresh n))) (fun _ => (r : Int)) (fun _ => (r : Int)))) := two16_newR HP1.out.many hbw hd2 (fun k hk => hk)
       have HBW : Hid (Below (w.heap.size + 5) wa w2) := hbw.mono hsz
       have O2 : Hid (w2.ownsRow 0 67 1 (.slice aP t cP) t (ptrs16 t (swap1 D t (some (p, Dr.fresh n))))) := two16_own2 M2.out rfl
       obtain ⟨hP0, hP1, hP2, hP3⟩ := HIR.out
       clear hbw hb2 hd2
       have z4 := (((Below.refl _ w2).alloc (Nat.le_refl _) (.cells #[.pointer (some ⟨p, 0, none⟩)] 67)).cell (p := ⟨w.heap.size + 4, 3, none⟩) hlz).trans z3
       have hlz4 : w.heap.size + 4 < (w2.alloc (.cells #[.pointer (some ⟨p, 0, none⟩)] 67)).heap.size := by rw [World.size_alloc]; omega
       refine held_two 1 4 rfl rfl (by kernel_rfl) ?_ ?_
       ·clear z4 hlz4
        go_wp2_with fail
        try refine ⟨trivial, ?_⟩
        clear z3 hlz
        refine held_one 4 rfl (by kernel_rfl) ?_
        go_wp2_with fail
        try refine ⟨trivial, ?_⟩
        refine held_one 5 rfl (by kernel_rfl) ?_
        refine wpList_append_lies _ rfl _ _ 31 rfl 0 67 iR (.pointer none) 1 8 Tryz.underlying31 hP0 hP1 hP2 hP3 rfl (by decide) (.slice aP t cP) t (ptrs16 t (swap1 D t (some (p, Dr.fresh n)))) rfl (O2.out.alloc _) ⟨w2.heap.size, 0, none⟩ 1 1 [.pointer (some ⟨p, 0, none⟩)] rfl rfl (cell_one_new _ _ _) (by simp [Value.oneCell']) (by decide) (by unfold maxLen; omega) (by omega) (Nat.zero_le _) _ rfl ?_
        intro g5 c6 w3 own1 grow1 lies1 lt1
        obtain ⟨m3, b3⟩ := many_growL (l' := ptrs16 (t + 1) (swap1 D t (some (p, Dr.fresh n)))) M2.out (i := 2) (by omega) two16_2 (by rw [ptrs16_len]) ((Below.refl _ _).alloc (Nat.le_refl _) _) (by rw [ptrs16_snoc, swap1_same]; exact own1) grow1 lies1
        have M3 : Hid (Many w3 (w.heap.size + 5) (4 + 2 * c) (two16 c (t + 1) t (t + 1) t vP1 vQ (.slice (some ⟨g5, 0, none⟩) (t + 1) c6) vS C1 (swap1 D t (some (p, Dr.fresh n))) (fun _ => (r : Int)) (fun _ => (r : Int)))) := m3.congr fun j _ => two16_rowR j
        have B3 : Hid (Below (w.heap.size + 5) wa w3) := HBW.out.trans b3
        have hsz3 := M3.out.size
        obtain ⟨y0, y1, y2, y3, y4, yf⟩ := HP1.out.keep7 B3.out
        have yf3 := yf 3
        have hl3 : w.heap.size + 4 < w3.heap.size := by omega
        clear m3 b3 own1 grow1 lies1 lt1 M2 HBW O2 yf
        go_wp2_with fail
        try refine ⟨trivial, ?_⟩
        refine held_quiet 6 (v := ?v6q19) rfl (by kernel_rfl) (fun _ _ _ h => h) (by assumption) rfl ?hy6q19 ?rest6q19
        case hy6q19 => (intro wS hSw; (try dsimp only at hSw); go_simp; try with_reducible rfl)
        try simp only [Act.put, List.setIfInBounds_toArray, List.set_cons_zero, List.set_cons_succ]
        refine held_one 7 rfl (by kernel_rfl) ?_
        go_wp2_with fail
        try refine ⟨trivial, ?_⟩
        refine held_done (by kernel_rfl) ?_
        go_wp2_with fail
        go_meet
        exact ⟨_, _, HP1.out.putR B3.out M3.out, HCD.out.2.more⟩
       ·go_wp2_with fail
        try refine ⟨trivial, ?_⟩
        refine held_one 1 rfl (by kernel_rfl) ?_
        go_wp2_with fail
        try refine ⟨trivial, ?_⟩
        clear z3 hlz z4 hlz4
        refine held_one 5 rfl (by kernel_rfl) ?_
        refine wpList_append_lies _ rfl _ _ 31 rfl 0 67 iR (.pointer none) 1 8 Tryz.underlying31 hP0 hP1 hP2 hP3 rfl (by decide) (.slice aP t cP) t (ptrs16 t (swap1 D t (some (p, Dr.fresh n)))) rfl (O2.out.alloc _) ⟨w2.heap.size, 0, none⟩ 1 1 [.pointer (some ⟨p, 0, none⟩)] rfl rfl (cell_one_new _ _ _) (by simp [Value.oneCell']) (by decide) (by unfold maxLen; omega) (by omega) (Nat.zero_le _) _ rfl ?_
        intro g5 c6 w3 own1 grow1 lies1 lt1
        obtain ⟨m3, b3⟩ := many_growL (l' := ptrs16 (t + 1) (swap1 D t (some (p, Dr.fresh n)))) M2.out (i := 2) (by omega) two16_2 (by rw [ptrs16_len]) ((Below.refl _ _).alloc (Nat.le_refl _) _) (by rw [ptrs16_snoc, swap1_same]; exact own1) grow1 lies1
        have M3 : Hid (Many w3 (w.heap.size + 5) (4 + 2 * c) (two16 c (t + 1) t (t + 1) t vP1 vQ (.slice (some ⟨g5, 0, none⟩) (t + 1) c6) vS C1 (swap1 D t (some (p, Dr.fresh n))) (fun _ => (r : Int)) (fun _ => (r : Int)))) := m3.congr fun j _ => two16_rowR j
        have B3 : Hid (Below (w.heap.size + 5) wa w3) := HBW.out.trans b3
        have hsz3 := M3.out.size
        obtain ⟨y0, y1, y2, y3, y4, yf⟩ := HP1.out.keep7 B3.out
        have yf3 := yf 3
        have hl3 : w.heap.size + 4 < w3.heap.size := by omega
        clear m3 b3 own1 grow1 lies1 lt1 M2 HBW O2 yf
        go_wp2_with fail
        try refine ⟨trivial, ?_⟩
        refine held_quiet 6 (v := ?v6q20) rfl (by kernel_rfl) (fun _ _ _ h => h) (by assumption) rfl ?hy6q20 ?rest6q20
        case hy6q20 => (intro wS hSw; (try dsimp only at hSw); go_simp; try with_reducible rfl)
        try simp only [Act.put, List.setIfInBounds_toArray, List.set_cons_zero, List.set_cons_succ]
        refine held_one 7 rfl (by kernel_rfl) ?_
        go_wp2_with fail
        try refine ⟨trivial, ?_⟩
        refine held_done (by kernel_rfl) ?_
        go_wp2_with fail
        go_meet
        exact ⟨_, _, HP1.out.putR B3.out M3.out, HCD.out.2.more⟩
     case rest =>
      obtain ⟨vR1, D1, hP2, hD1⟩ := hcut
      obtain ⟨wb, hwb⟩ : ∃ wb, wb = wc := ⟨_, rfl⟩
      subst hwb
      have HP2 : Hid (Pair16 w c k r (t + 1) t (t + 1) t vP1 vQ vR1 vS C1 D1 (fun _ => (r : Int)) (fun _ => (r : Int)) wb) := hP2
      have HD1 : Hid (New16 (t + 1) n D1) := hD1
      obtain ⟨aQ, cQ, rfl⟩ := head_of hP2.many (i := 1) (by omega) two16_1 (ints16_len t _)
      have hsz := hP2.size
      clear x0 x1 x2 x3 x4 xf HP1 HCD hD1
      obtain ⟨g0, g1, g2⟩ := hP2.geo
      obtain ⟨x0, x1, x2, x3, x4, xf⟩ := hP2.s6
      have O2 : Hid (wb.ownsRow 0 3 1 (.slice aQ t cQ) t (ints16 t (fun _ => (r : Int)))) := two16_own1 hP2.many rfl
      clear hP2
      obtain ⟨hP0, hP1, hP2, hP3⟩ := HII.out
      go_upto_region 11 with fail
      go_cut [48] from 43 to 56 (fun s48 wc => ∃ v', Pair16 w c k r (t + 1) (t + 1) (t + 1) t vP1 v' vR1 vS C1 D1 (fun _ => (r : Int)) (fun _ => (r : Int)) wc)
      case first =>
       go_wp2_with (at_builtin; go_loud (refine wpList_append_lies _ rfl _ _ 28 rfl 0 3 iI (.int .i64 0) 1 8 Tryz.underlying28 hP0 hP1 hP2 hP3 rfl (by decide) (.slice aQ t cQ) t (ints16 t (fun _ => (r : Int))) rfl (O2.out.alloc _) ⟨wb.heap.size, 0, none⟩ 1 1 [.int .i64 (r : Int)] rfl rfl (cell_one_new _ _ _) (by simp [Value.oneCell']) (by decide) (by unfold maxLen; omega) (by omega) (Nat.zero_le _) _ rfl ?_; intro g5 c6 w3 own1 grow1 lies1 lt1; obtain ⟨m3, b3⟩ := many_growL (l' := ints16 (t + 1) (fun _ => (r : Int))) HP2.out.many (i := 1) (by omega) two16_1 (by rw [ints16_len]) ((Below.refl _ _).alloc (Nat.le_refl _) _) (by rw [ints16_snoc]; exact own1) grow1 lies1; have M3 : Hid (Many w3 (w.heap.size + 5) (4 + 2 * c) (two16 c (t + 1) (t + 1) (t + 1) t vP1 (.slice (some ⟨g5, 0, none⟩) (t + 1) c6) vR1 vS C1 D1 (fun _ => (r : Int)) (fun _ => (r : Int)))) := m3.congr fun j _ => two16_rowQ j; have B3 : Hid (Below (w.heap.size + 5) wb w3) := b3; have hsz3 := M3.out.size; obtain ⟨y0, y1, y2, y3, y4, yf⟩ := HP2.out.keep6 B3.out; have yf3 := yf 4; have hl3 : w.heap.size + 3 < w3.heap.size := (by omega); clear m3 b3 own1 grow1 lies1 lt1 O2 yf))
       go_meet
       exact ⟨_, HP2.out.putQ B3.out M3.out⟩
      case rest =>
       obtain ⟨vQ1, hQ1⟩ := hcut
       obtain ⟨wd, hwd⟩ : ∃ wd, wd = wc := ⟨_, rfl⟩
       subst hwd
       have HP3 : Hid (Pair16 w c k r (t + 1) (t + 1) (t + 1) t vP1 vQ1 vR1 vS C1 D1 (fun _ => (r : Int)) (fun _ => (r : Int)) wd) := hQ1
       obtain ⟨aS, cS, rfl⟩ := head_of hQ1.many (i := 3) (by omega) two16_3 (ints16_len t _)
       have hsz := hQ1.size
       clear x0 x1 x2 x3 x4 xf HP2 O2 g0 g1 g2
       obtain ⟨g0, g1, g2⟩ := hQ1.geo
       obtain ⟨x0, x1, x2, x3, x4, xf⟩ := hQ1.s7
       have O2 : Hid (wd.ownsRow 0 3 1 (.slice aS t cS) t (ints16 t (fun _ => (r : Int)))) := two16_own3 hQ1.many rfl
       clear hQ1
       go_wp2_with (at_builtin; go_loud (refine wpList_append_lies _ rfl _ _ 28 rfl 0 3 iI (.int .i64 0) 1 8 Tryz.underlying28 hP0 hP1 hP2 hP3 rfl (by decide) (.slice aS t cS) t (ints16 t (fun _ => (r : Int))) rfl (O2.out.alloc _) ⟨wd.heap.size, 0, none⟩ 1 1 [.int .i64 (r : Int)] rfl rfl (cell_one_new _ _ _) (by simp [Value.oneCell']) (by decide) (by unfold maxLen; omega) (by omega) (Nat.zero_le _) _ rfl ?_; intro g5 c6 w3 own1 grow1 lies1 lt1; obtain ⟨m3, b3⟩ := many_growL (l' := ints16 (t + 1) (fun _ => (r : Int))) HP3.out.many (i := 3) (by omega) two16_3 (by rw [ints16_len]) ((Below.refl _ _).alloc (Nat.le_refl _) _) (by rw [ints16_snoc]; exact own1) grow1 lies1; have M3 : Hid (Many w3 (w.heap.size + 5) (4 + 2 * c) (two16 c (t + 1) (t + 1) (t + 1) (t + 1) vP1 vQ1 vR1 (.slice (some ⟨g5, 0, none⟩) (t + 1) c6) C1 D1 (fun _ => (r : Int)) (fun _ => (r : Int)))) := m3.congr fun j _ => two16_rowS j; have B3 : Hid (Below (w.heap.size + 5) wd w3) := b3; have hsz3 := M3.out.size; obtain ⟨y0, y1, y2, y3, y4, yf⟩ := HP3.out.keep7 B3.out; have yf3 := yf 4; have hl3 : w.heap.size + 4 < w3.heap.size := (by omega); clear m3 b3 own1 grow1 lies1 lt1 O2 yf))
       go_roundg (c - (t + 1))
       case measure => omega
       case rel => exact ⟨t + 1, by omega, rfl, by go_num, _, _, _, _, _, _, HP3.out.putS B3.out M3.out, HC1.out, HD1.out⟩
   ·have htc : t = c := by omega
    have HTC : Hid (t = c) := htc
    have hx : ¬ (t : Int) < (c : Int) := by omega
    have htc2 : Hid (Pair16 w c k r t t t t vP vQ vR vS C D (fun _ => (r : Int)) (fun _ => (r : Int)) wr) := hP
    obtain ⟨aP, cP, rfl⟩ := head_of hP.many (i := 0) (by omega) two16_0 (ptrs16_len t C)
    obtain ⟨aQ, cQ, rfl⟩ := head_of hP.many (i := 1) (by omega) two16_1 (ints16_len t _)
    obtain ⟨aR, cR, rfl⟩ := head_of hP.many (i := 2) (by omega) two16_2 (ptrs16_len t D)
    obtain ⟨aS, cS, rfl⟩ := head_of hP.many (i := 3) (by omega) two16_3 (ints16_len t _)
    obtain ⟨x0, x1, x2, x3, x4, _⟩ := hP.s6
    obtain ⟨y0, y1, y2, y3, y4, _⟩ := hP.s7
    obtain ⟨p0, p1, p2, p3, p4, pf⟩ := hP.z4
    obtain ⟨q0, q1, q2, q3, q4, qf⟩ := hP.z5
    have pf0 := pf 0
    have pf1 := pf 1
    have pf2 := pf 2
    have pf3 := pf 3
    have pf4 := pf 4
    have qf0 := qf 0
    have qf1 := qf 1
    have qf2 := qf 2
    have qf3 := qf 3
    have qf4 := qf 4
    have l1 : w.heap.size + 1 < wr.heap.size := by omega
    have l2 : w.heap.size + 2 < wr.heap.size := by omega
    have l3 : w.heap.size + 3 < wr.heap.size := by omega
    have l4 : w.heap.size + 4 < wr.heap.size := by omega
    have FS := stored16_says hP.z4 hP.z5 (by omega) (.int .i64 (c : Int)) (.int .i64 (k : Int)) (.int .i64 (r : Int)) (.slice aP t cP) (.slice aQ t cQ) (.int .i64 (c : Int)) (.int .i64 (k : Int)) (.int .i64 (r : Int)) (.slice aR t cR) (.slice aS t cS)
    have HFS : Hid (_ ∧ _ ∧ _) := FS
    clear hP htc HP pf qf FS
    simp only [nilV] at p3 p4 q3 q4
    go_upto_region 13 with fail
    go_region
    change Exit.then _ _ _ _ (stored16 wr (w.heap.size + 1) (w.heap.size + 2) (.int .i64 (c : Int)) (.int .i64 (k : Int)) (.int .i64 (r : Int)) (.slice aP t cP) (.slice aQ t cQ) (.int .i64 (c : Int)) (.int .i64 (k : Int)) (.int .i64 (r : Int)) (.slice aR t cR) (.slice aS t cS)).drew
    obtain ⟨f1, f2, fo⟩ := HFS.out
    generalize stored16 wr (w.heap.size + 1) (w.heap.size + 2) (.int .i64 (c : Int)) (.int .i64 (k : Int)) (.int .i64 (r : Int)) (.slice aP t cP) (.slice aQ t cQ) (.int .i64 (c : Int)) (.int .i64 (k : Int)) (.int .i64 (r : Int)) (.slice aR t cR) (.slice aS t cS) = ws at f1 f2 fo ⊢
    have HFO : Hid (Only (fun k => k = w.heap.size + 1 ∨ k = w.heap.size + 2) wr ws) := fo
    clear x0 x1 x2 x3 x4 y0 y1 y2 y3 y4 p0 p1 p2 p3 p4 q0 q1 q2 q3 q4 pf0 pf1 pf2 pf3 pf4 qf0 qf1 qf2 qf3 qf4 fo g0 g1 g2 HFS
    have HR1 : Hid (ws.drew.rangeAt (w.heap.size + 1) 0 _) := (World.rangeAt_drew _ _ _ _).2 f1.range
    have HR2 : Hid (ws.drew.rangeAt (w.heap.size + 2) 0 _) := (World.rangeAt_drew _ _ _ _).2 f2.range
    clear f1 f2
    go_wp2_with fail
    (try simp only [Exit.inBlock, Exit.then])
    refine bodyPost_ret (results_two16 rfl _ _ (w.heap.size + 1) (w.heap.size + 2) _ _ _ _ rfl HR1.out Tryz.underlying30 rfl set16_size.1 rfl HR2.out Tryz.underlying33 rfl set16_size.2) rfl ?_
    have hdr : Only (fun k => k = w.heap.size + 1 ∨ k = w.heap.size + 2) wr ws.drew := HFO.out.then (Only.drew _ _)
    have hmd : Many ws.drew (w.heap.size + 5) (4 + 2 * c) _ := htc2.out.many.only hdr (fun k hk => .inl (by omega))
    have hbd : Below w.heap.size w ws.drew := htc2.out.low.trans (hdr.below (fun k hk => by omega) (by omega))
    obtain ⟨hC, hD⟩ := HCD.out
    rw [HTC.out] at hmd hC hD ⊢
    exact ⟨⟨aP, cP, aQ, cQ, aR, cR, aS, cS, rfl, C, D, hC, hD, hmd⟩, hbd⟩
end Go.Proofs.YtdgkhjgnjfgnlaaGreat
