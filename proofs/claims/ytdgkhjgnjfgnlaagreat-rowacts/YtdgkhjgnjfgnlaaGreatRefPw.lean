import Derived.Test.YtdgkhjgnjfgnlaaGreatMRefB
namespace Go.Proofs.YtdgkhjgnjfgnlaaGreat
open Go.RowKit Go.Maps
section
variable {w w' : World} {rp : Nat} {vS vW vP : Value} {hd : Nat → Value} {R : Dr} {G : Nat → Prop}
def Dr.isOff (R : Dr) : Bool := R.goes && R.left == 0
theorem Dr.power_of {R : Dr} {i : Int} (h : R.reachE i = 0) : R.goes = true → 0 < R.left := by
 intro hg
 unfold Dr.reachE at h
 split at h
 ·rename_i hr
  unfold Dr.runsE at hr
  split at hr
  ·cases hr
  ·split at hr
   ·cases hr
   ·rename_i hn
    rw [hg, Bool.true_and, beq_iff_eq] at hn
    omega
 ·rename_i hr; exact absurd h hr
set_option maxRecDepth 100000 in
set_option maxHeartbeats 400000 in
theorem pOff_any (h : RefSt w rp vS vW vP hd R) : Calls Tryz.prog 104 #[.pointer (some ⟨rp, 0, none⟩)] w fun e w' => e = .returned (.bool R.isOff) ∧ w' = w := by
 have ha := h.at_
 unfold Dr.isOff
 cases hg : R.goes with
 | false =>
  rw [hg] at ha
  exact refOff_alive ha
 | true =>
  rw [hg] at ha
  obtain ⟨_, _, _, _, c4, c5, _⟩ := ha.cell
  have e : ((R.left : Int) == 0) = (R.left == 0) := by
   by_cases h0 : R.left = 0
   ·rw [h0]; rfl
   ·rw [beq_eq_false_iff_ne.2 h0, beq_eq_false_iff_ne]; omega
  obtain ⟨b, hb⟩ : ∃ b, (R.left == 0) = b := ⟨_, rfl⟩
  rw [hb] at e ⊢
  obtain ⟨x, hx⟩ : ∃ x, x = R.left := ⟨_, rfl⟩
  rw [← hx] at c5 e
  have E : Hid (b = (true && b)) := by show _ = _; cases b <;> rfl
  clear h ha hb hx
  go_enter Tryz.func104, Tryz.ntmps104
  go_wp2
  go_ret
  exact ⟨ret_bool E.out, rfl⟩
theorem Dr.spend_no {R : Dr} (hg : R.goes = false) : R.spend = R := by
 obtain ⟨a, b, c, d, e, f⟩ := R
 have h : e = false := hg
 subst h; rfl
theorem Dr.safeAt_spend (R : Dr) (K : Nat → Nat → Nat) : ∀ k, R.spend.safeAt K k = R.safeAt K k
 | 0 => rfl
 | k + 1 => by
  show R.spend.step K (R.spend.safeAt K k) k = R.step K (R.safeAt K k) k
  rw [Dr.safeAt_spend R K k]; rfl
theorem Dr.settle_spend (R : Dr) (K : Nat → Nat → Nat) : R.spend.settle K = (R.settle K).spend := by
 have e : R.spend.safeAt K R.spend.busy.length = R.safeAt K R.busy.length := Dr.safeAt_spend R K R.busy.length
 unfold Dr.settle
 rw [e]; rfl
theorem RefSt.turned (h : RefSt w rp vS vW vP hd R) {w' : World} {Q : Dr} (hq : Q.safe = R.safe) (hs : Q.spoilt = R.spoilt) (hw : Q.writes = R.writes) (ok : Q.Ok) (hg : Only (One rp) w w')
  (hn : w'.heap[rp]? = some (.cells #[vS, vW, vP, .bool Q.dead, .bool Q.goes, .int .i64 (Q.left : Int)] 73 (0, 0))) : RefSt w' rp vS vW vP hd Q := by
 have hr := h.at_.turn (gone' := Q.dead) (cut' := Q.goes) (left' := (Q.left : Int)) hg hn
 refine ⟨by rw [hq, hs]; exact hr, ok, fun i => ?_, h.off, fun i hi => h.nil i (by rw [← hw]; exact hi)⟩
 rw [hw]
 refine ownsRow_only hg (h.rows i) (fun k hk e => ?_)
 obtain ⟨c1, q1⟩ := row_type (h.rows i) hk
 have q2 := h.at_.self
 rw [show k = rp from e] at q1
 rw [q2] at q1; simp at q1
set_option maxRecDepth 100000 in
set_option maxHeartbeats 1000000 in
theorem pUse_any (h : RefSt w rp vS vW vP hd R) (hp : R.goes = true → 0 < R.left) : Calls Tryz.prog 103 #[.pointer (some ⟨rp, 0, none⟩)] w fun e w' => e = .returned (.tuple #[]) ∧ RefSt w' rp vS vW vP hd R.spend ∧ Only (One rp) w w' := by
 cases hg : R.goes with
 | false =>
  have ha := h.at_
  rw [hg] at ha
  refine (refUse_alive ha).mono ?_
  rintro e w' ⟨rfl, rfl⟩
  rw [Dr.spend_no hg]
  exact ⟨rfl, h, Only.refl _ _⟩
 | true =>
  have ha := h.at_
  rw [hg] at ha
  obtain ⟨_, _, _, _, c4, c5, cf⟩ := ha.cell
  have f5 := cf 5
  have hl := hp hg
  have hmax := h.ok.left
  have H : Hid (RefSt w rp vS vW vP hd R) := h
  have HG : Hid (R.goes = true) := hg
  obtain ⟨x, hx⟩ : ∃ x, x + 1 = R.left := ⟨R.left - 1, by omega⟩
  have HX : Hid (x + 1 = R.left) := hx
  rw [← hx] at c5 hl hmax
  have e1 : IntKind.i64.wrap (((x + 1 : Nat) : Int) - 1) = (x : Int) := by rw [IntKind.wrap_i64]; omega
  have e2 : ((x + 1 : Nat) : Int) - 1 = (x : Int) := by omega
  obtain ⟨y, hy⟩ : ∃ y, y = x + 1 := ⟨_, rfl⟩
  rw [← hy] at c5 e1 e2
  have hxb : (x : Int) ≤ 9223372036854775806 := by omega
  clear h ha hx hg hp cf hl hmax hy
  go_enter Tryz.func103, Tryz.ntmps103
  go_wp2
  try go_region
  try go_wp2
  go_end0
  obtain ⟨k1, k2⟩ := turn1 (j := 5) (v := .int .i64 (x : Int)) H.out.at_.self
  have hs : R.spend = { R with left := x } := by
   have e : R.left - 1 = x := by have := HX.out; omega
   unfold Dr.spend
   rw [HG.out, if_pos rfl, e]
  rw [hs]
  try exact ⟨rfl, H.out.turned rfl rfl rfl (by have h := H.out.ok.spend; rw [hs] at h; exact h) k1 (by rw [k2]; rfl), k1⟩
  try exact ⟨rfl, (H.out.turned (Q := { R with left := x }) rfl rfl rfl (by have h := H.out.ok.spend; rw [hs] at h; exact h) k1 (by rw [k2]; rfl)).only (Only.drew _ _) (fun _ _ h => h), k1.then (Only.drew _ _)⟩
set_option maxRecDepth 100000 in
set_option maxHeartbeats 1000000 in
theorem pwMay_any (h : RefSt w rp vS vW vP hd R) (i : Int) : Calls Tryz.prog 73 #[.pointer (some ⟨rp, 0, none⟩), .int .i64 i] w fun e w' => e = .returned (.int .i64 (R.reachE i : Nat)) ∧ w' = w := by
  have ha := h.at_
  have hlen : (R.safe.map txt).length = R.safe.length := List.length_map ..
  cases hd' : R.dead with
  | true =>
    rw [hd'] at ha
    rw [show R.reachE i = 40 by unfold Dr.reachE Dr.runsE; rw [hd']; rfl]
    exact refMay_dead ha i
  | false =>
    rw [hd'] at ha
    have ho := pOff_any h
    obtain ⟨c0, _, _, c3, _, _, _⟩ := ha.cell
    obtain ⟨g, cap, e, _, _, hcap, hmax, _, _⟩ := ownsRow_at ha.safes (j := 0) (by rw [hlen]; exact h.ok.pos)
    rw [e] at c0
    rw [hlen] at c0 hcap
    unfold maxLen at hmax
    have hpos := h.ok.pos
    have hle := h.ok.le
    cases hb : R.isOff with
    | true =>
      have E : R.reachE i = 42 := by
        have hr : R.runsE = 42 := by unfold Dr.runsE; rw [hd']; unfold Dr.isOff at hb; rw [hb]; rfl
        unfold Dr.reachE; rw [if_neg (by rw [hr]; decide), hr]
      rw [E]
      rw [hb] at ho
      clear h ha e E hb hd' hlen
      go_enter Tryz.func73, Tryz.ntmps73
      go_wp2_with fail
      refine ho.mono ?_
      rintro e w' ⟨rfl, rfl⟩
      go_wp2
      go_ret
      exact ⟨rfl, rfl⟩
    | false =>
      rw [hb] at ho
      have hr : R.runsE = 0 := by unfold Dr.runsE; rw [hd']; unfold Dr.isOff at hb; rw [hb]; rfl
      by_cases hi : 0 ≤ i ∧ i < (R.safe.length : Int)
      · obtain ⟨k, rfl⟩ := Int.eq_ofNat_of_zero_le hi.1
        have hk : k < R.safe.length := by omega
        rw [reachE_yes hr hk]
        obtain ⟨n, hn⟩ : ∃ n, n = R.safe.length := ⟨_, rfl⟩
        rw [← hn] at c0 hk hcap hpos hle
        clear h ha e hn hb hd' hlen hr hi
        go_enter Tryz.func73, Tryz.ntmps73
        go_wp2_with fail
        refine ho.mono ?_
        rintro e w' ⟨rfl, rfl⟩
        go_wp2
        go_ret
        exact ⟨rfl, rfl⟩
      · rw [show R.reachE i = 70 by
          unfold Dr.reachE Dr.hasB
          rw [if_pos hr, if_neg]
          simp only [Bool.and_eq_true, decide_eq_true_eq]; exact hi]
        obtain ⟨n, hn⟩ : ∃ n, n = R.safe.length := ⟨_, rfl⟩
        rw [← hn] at c0 hi hcap hpos hle
        clear h ha e hn hb hd' hlen hr
        by_cases h0 : i < 0
        · clear hi
          go_enter Tryz.func73, Tryz.ntmps73
          go_wp2_with fail
          refine ho.mono ?_
          rintro e w' ⟨rfl, rfl⟩
          go_wp2
          go_ret
          exact ⟨rfl, rfl⟩
        · have h1 : (n : Int) ≤ i := by omega
          clear hi
          go_enter Tryz.func73, Tryz.ntmps73
          go_wp2_with fail
          refine ho.mono ?_
          rintro e w' ⟨rfl, rfl⟩
          go_wp2
          go_ret
          exact ⟨rfl, rfl⟩
set_option maxRecDepth 100000 in
set_option maxHeartbeats 1000000 in
theorem pRead_no (h : RefSt w rp vS vW vP hd R) (i : Int) (hr : R.reachE i ≠ 0) : Calls Tryz.prog 45 #[.pointer (some ⟨rp, 0, none⟩), .int .i64 i] w fun e w' => e = .returned (.tuple #[.string ⟨#[]⟩, .int .i64 (R.reachE i : Nat)]) ∧ w' = w := by
 have hm := pwMay_any h i
 obtain ⟨r, er⟩ : ∃ r, r = R.reachE i := ⟨_, rfl⟩
 rw [← er] at hr hm ⊢
 have hne : ((r : Int) != 0) = true := by simp only [bne_iff_ne, ne_eq]; omega
 clear h er
 go_enter Tryz.func45, Tryz.ntmps45
 go_wp2_with fail
 refine hm.mono ?_
 rintro e w' ⟨rfl, rfl⟩
 go_wp2
 go_ret2
 exact ⟨rfl, rfl⟩
set_option maxRecDepth 100000 in
set_option maxHeartbeats 2000000 in
theorem pRead_yes (h : RefSt w rp vS vW vP hd R) (i : Nat) (hi : i < R.safe.length) (hr : R.reachE i = 0) : Calls Tryz.prog 45 #[.pointer (some ⟨rp, 0, none⟩), .int .i64 (i : Nat)] w fun e w' => e = .returned (.tuple #[.string (if R.spoilt.getD i false then ⟨#[]⟩ else txt (R.last i)), .int .i64 (if R.spoilt.getD i false then 41 else 0)]) ∧ w' = w := by
 have hm := pwMay_any h i
 rw [hr] at hm
 obtain ⟨c0, c1, c2, _, _, _, _⟩ := h.at_.cell
 have hsp : R.spoilt.length = R.safe.length := h.ok.spoilt
 obtain ⟨gs, cs, es, _, hgs, hcaps, hmaxs, hcs, _⟩ := ownsRow_at h.at_.safes (j := i) (by rw [List.length_map]; exact hi)
 obtain ⟨gw, cw, ew, _, hgw, hcapw, hmaxw, hcw, _⟩ := ownsRow_at h.at_.writes (j := i) (by rw [List.length_map, List.length_range]; exact hi)
 obtain ⟨gp, cp, ep, _, hgp, hcapp, hmaxp, hcp, _⟩ := ownsRow_at h.at_.spoilt (j := i) (by rw [hsp]; exact hi)
 rw [wl_at hi] at hcw
 rw [List.length_map, List.length_range] at ew hcapw
 rw [List.length_map] at es hcaps
 rw [hsp] at ep hcapp
 have hx : ((R.safe.map txt).map Value.string)[i]? = some (.string (txt (R.safe.getD i []))) := by
  rw [List.getElem?_map, List.getElem?_map, List.getElem?_eq_getElem hi, List.getD_eq_getElem?_getD, List.getElem?_eq_getElem hi]; rfl
 rw [hx] at hcs
 have hy : (R.spoilt.map Value.bool)[i]? = some (.bool (R.spoilt.getD i false)) := by
  rw [List.getElem?_map, List.getElem?_eq_getElem (by rw [hsp]; exact hi), List.getD_eq_getElem?_getD, List.getElem?_eq_getElem (by rw [hsp]; exact hi)]; rfl
 rw [hy] at hcp
 rw [es] at c0
 rw [ew] at c1
 rw [ep] at c2
 unfold maxLen at hmaxs hmaxw hmaxp
 have hrow := h.rows i
 have hn4 := h.ok.le
 obtain ⟨n, hn⟩ : ∃ n, n = R.safe.length := ⟨_, rfl⟩
 rw [← hn] at c0 c1 c2 hi hcaps hcapw hcapp hn4
 cases hb : R.spoilt.getD i false with
 | true =>
  rw [hb] at hcp
  clear h es ew ep hx hy hn hr hrow
  go_enter Tryz.func45, Tryz.ntmps45
  go_wp2_with fail
  refine hm.mono ?_
  rintro e w' ⟨rfl, rfl⟩
  go_wp2
  go_ret2
  exact ⟨rfl, rfl⟩
 | false =>
  rw [hb] at hcp
  by_cases hw : R.writes i = []
  ·have hlast : R.last i = R.safe.getD i [] := if_pos hw
   obtain ⟨a, cap, e, _, _⟩ := own_head hrow
   rw [hw] at e
   rw [e] at hcw
   rw [hlast]
   obtain ⟨x, ex⟩ : ∃ x, x = txt (R.safe.getD i []) := ⟨_, rfl⟩
   rw [← ex] at hcs ⊢
   simp only [List.length_nil] at hcw
   clear h es ew ep hx hy hn hr hrow e hlast hw ex
   go_enter Tryz.func45, Tryz.ntmps45
   go_wp2_with fail
   refine hm.mono ?_
   rintro e w' ⟨rfl, rfl⟩
   go_wp2
   go_ret2
   exact ⟨rfl, rfl⟩
  ·have hlast : R.last i = (R.writes i).getD ((R.writes i).length - 1) [] := if_neg hw
   have hpos := List.length_pos_iff.2 hw
   obtain ⟨g, cap, e, _, _, hcap, hmax, hc, _⟩ := ownsRow_at hrow (j := (R.writes i).length - 1) (by omega)
   rw [strs_at (by omega)] at hc
   rw [e] at hcw
   rw [hlast]
   obtain ⟨x, ex⟩ : ∃ x, x = txt ((R.writes i).getD ((R.writes i).length - 1) []) := ⟨_, rfl⟩
   rw [← ex] at hc ⊢
   obtain ⟨m, em⟩ : ∃ m, m + 1 = (R.writes i).length := ⟨(R.writes i).length - 1, by omega⟩
   rw [← em] at hc hcw hcap
   rw [Nat.add_sub_cancel] at hc
   unfold maxLen at hmax
   have hcw2 : w.cell? ⟨gw, i, none⟩ = some (.slice (some ⟨g, 0, none⟩) (m + 1) cap) := hcw
   have hm1 : IntKind.i64.wrap (((m + 1 : Nat) : Int) - 1) = (m : Int) := by rw [IntKind.wrap_i64]; omega
   have hm2 : ((m + 1 : Nat) : Int) - 1 = (m : Int) := by omega
   clear h es ew ep hx hy hn hr hrow e hlast hw ex em hcw hpos
   go_enter Tryz.func45, Tryz.ntmps45
   go_wp2_with fail
   refine hm.mono ?_
   rintro e w' ⟨rfl, rfl⟩
   go_wp2
   go_ret2
   exact ⟨rfl, rfl⟩
theorem pRead_any (h : RefAt w rp R G) (i : Int) : Calls Tryz.prog 45 #[.pointer (some ⟨rp, 0, none⟩), .int .i64 i] w fun e w' => e = .returned (.tuple #[.string (txt (R.readS i)), .int .i64 (R.readE i : Nat)]) ∧ w' = w := by
 obtain ⟨vS, vW, vP, hd, h, _⟩ := h
 unfold Dr.readS Dr.readE
 by_cases hr : R.reachE i = 0
 ·obtain ⟨h0, hb⟩ := Dr.reach_has hr
  obtain ⟨k, rfl, hk⟩ := Dr.hasB_nat hb
  have := pRead_yes h k hk hr
  rw [hr]
  simp only [if_true, Int.toNat_natCast]
  refine this.mono ?_
  rintro e w' ⟨rfl, rfl⟩
  refine ⟨?_, rfl⟩
  rcases Bool.eq_false_or_eq_true (R.spoilt.getD k false) with hb | hb
  ·simp only [hb]; rfl
  ·simp only [hb]; rfl
 ·simp only [if_neg hr]
  exact pRead_no h i hr
set_option maxRecDepth 100000 in
set_option maxHeartbeats 1000000 in
theorem pSpoil_no (h : RefAt w rp R G) (i : Int) (hr : R.reachE i ≠ 0) : Calls Tryz.prog 35 #[.pointer (some ⟨rp, 0, none⟩), .int .i64 i] w fun e w' => e = .returned (.int .i64 (R.reachE i : Nat)) ∧ w' = w := by
 obtain ⟨vS, vW, vP, hd, h, _⟩ := h
 have hm := pwMay_any h i
 obtain ⟨r, er⟩ : ∃ r, r = R.reachE i := ⟨_, rfl⟩
 rw [← er] at hr hm ⊢
 have hne : ((r : Int) == 0) = false := by rw [beq_eq_false_iff_ne]; omega
 clear h er
 go_enter Tryz.func35, Tryz.ntmps35
 go_wp2_with fail
 refine hm.mono ?_
 rintro e w' ⟨rfl, rfl⟩
 go_wp2
 go_ret
 exact ⟨rfl, rfl⟩
set_option maxRecDepth 100000 in
set_option maxHeartbeats 1000000 in
theorem pSpoil_yes (h : RefAt w rp R G) (i : Nat) (hi : i < R.safe.length) (hr : R.reachE i = 0) : Calls Tryz.prog 35 #[.pointer (some ⟨rp, 0, none⟩), .int .i64 (i : Nat)] w fun e w' => e = .returned (.int .i64 0) ∧ RefAt w' rp (R.spoil i) G ∧ Only G w w' := by
 obtain ⟨vS, vW, vP, hd, h, hf⟩ := h
 have hm := pwMay_any h i
 rw [hr] at hm
 obtain ⟨_, _, c2, _, _, _, _⟩ := h.at_.cell
 have hsp : R.spoilt.length = R.safe.length := h.ok.spoilt
 obtain ⟨gp, cp, ep, _, hgp, hcapp, hmaxp, hcp, hfp⟩ := ownsRow_at h.at_.spoilt (j := i) (by rw [hsp]; exact hi)
 rw [hsp] at ep hcapp
 have hy : (R.spoilt.map Value.bool)[i]? = some (.bool (R.spoilt.getD i false)) := by
  rw [List.getElem?_map, List.getElem?_eq_getElem (by rw [hsp]; exact hi), List.getD_eq_getElem?_getD, List.getElem?_eq_getElem (by rw [hsp]; exact hi)]; rfl
 rw [hy] at hcp
 rw [ep] at c2
 unfold maxLen at hmaxp
 obtain ⟨h1, h2⟩ := h.mark (gp := gp) (by rw [ep]; rfl) i true
 have H : Hid (RefAt (w.setCell ⟨gp, i, none⟩ (.bool true)) rp (R.spoil i) G ∧ Only G w (w.setCell ⟨gp, i, none⟩ (.bool true))) :=
  ⟨⟨vS, vW, vP, hd, h1, hf⟩, h2.mono fun k hk => by cases hk; exact hf _ (.inl (.inr (.inr (.inr (by rw [ep]; rfl)))))⟩
 have hn4 := h.ok.le
 obtain ⟨b0, hb0⟩ : ∃ b0, b0 = R.spoilt.getD i false := ⟨_, rfl⟩
 rw [← hb0] at hcp
 obtain ⟨n, hn⟩ : ∃ n, n = R.safe.length := ⟨_, rfl⟩
 rw [← hn] at c2 hi hcapp hn4
 clear h ep hy hn hr h1 h2 hb0
 go_enter Tryz.func35, Tryz.ntmps35
 go_wp2_with fail
 refine hm.mono ?_
 rintro e w' ⟨rfl, rfl⟩
 go_wp2
 go_ret
 exact ⟨rfl, H.out⟩
set_option maxRecDepth 100000 in
set_option maxHeartbeats 1000000 in
theorem pWrite_no (h : RefAt w rp R G) (i : Int) (s : ByteArray) (hr : R.reachE i ≠ 0) : Calls Tryz.prog 72 #[.pointer (some ⟨rp, 0, none⟩), .int .i64 i, .string s] w fun e w' => e = .returned (.int .i64 (R.reachE i : Nat)) ∧ w' = w := by
 obtain ⟨vS, vW, vP, hd, h, _⟩ := h
 have hm := pwMay_any h i
 obtain ⟨r, er⟩ : ∃ r, r = R.reachE i := ⟨_, rfl⟩
 rw [← er] at hr hm ⊢
 have hne : ((r : Int) != 0) = true := by simp only [bne_iff_ne, ne_eq]; omega
 clear h er
 go_enter Tryz.func72, Tryz.ntmps72
 go_wp2_with fail
 refine hm.mono ?_
 rintro e w' ⟨rfl, rfl⟩
 go_wp2
 go_ret
 exact ⟨rfl, rfl⟩
set_option maxRecDepth 100000 in
set_option maxHeartbeats 4000000 in
theorem pWrite_first (h : RefAt w rp R G) (i : Nat) (hi : i < R.safe.length) (hr : R.reachE i = 0) (hw : R.writes i = []) (s : ByteArray) (hs : s.size = 64) :
  Calls Tryz.prog 72 #[.pointer (some ⟨rp, 0, none⟩), .int .i64 (i : Nat), .string s] w fun e w' => e = .returned (.int .i64 0) ∧ RefAt w' rp (R.write i s.data.toList) (Plus G w.heap.size) ∧ Only G w w' := by
 obtain ⟨vS, vW, vP, hd, h, hf⟩ := h
 have hm := pwMay_any h i
 rw [hr] at hm
 have HP : Hid (R.goes = true → 0 < R.left) := Dr.power_of hr
 obtain ⟨c0, c1, c2, _, _, _, cf⟩ := h.at_.cell
 have hsp : R.spoilt.length = R.safe.length := h.ok.spoilt
 obtain ⟨gw, cw, ew, _, hgw, hcapw, hmaxw, hcw, hfw⟩ := ownsRow_at h.at_.writes (j := i) (by rw [List.length_map, List.length_range]; exact hi)
 obtain ⟨gp, cpp, ep, _, hgp, hcapp, hmaxp, hcp, hfp⟩ := ownsRow_at h.at_.spoilt (j := i) (by rw [hsp]; exact hi)
 rw [wl_at hi] at hcw
 rw [List.length_map, List.length_range] at ew hcapw
 rw [hsp] at ep hcapp
 rw [ew] at c1
 rw [ep] at c2
 unfold maxLen at hmaxw hmaxp
 obtain ⟨iS, hS0, hS1, hS2, hS3⟩ := info_parts info_str
 have hrow := h.rows i
 have H : Hid (RefSt w rp vS vW vP hd R) := h
 have HF : Hid (∀ k, RFeet rp vS vW vP hd k → G k) := hf
 have EW : Hid (vW = .slice (some ⟨gw, 0, none⟩) R.safe.length cw) := ew
 have EP : Hid (vP = .slice (some ⟨gp, 0, none⟩) R.safe.length cpp) := ep
 have HSZ : Hid (s.size = 64) := hs
 have HSL : Hid (s.data.toList.length = 64) := hs
 have Hi : Hid (i < R.safe.length) := hi
 have HN4 : Hid (R.safe.length ≤ 4096) := h.ok.le
 have HMX : Hid (Tryz.prog.follows .mixedOrders = true) := by unfold Hid; kernel_rfl
 have hsz : ((s.size : Int) == 64) = true := by rw [beq_iff_eq]; omega
 have OWN : Hid ((w.alloc (.cells #[] 9)).ownsRow w.heap.size 9 1 (.slice (some ⟨w.heap.size, 0, none⟩) 0 0) 0 []) := World.ownsRow_made (base := w.heap.size) (e := 9) (size := 1) w #[] 0 (Nat.le_refl _) (by decide) rfl
 have hrpw : rp < w.heap.size := (h.at_.lt rp (.inl rfl)).2
 have hgwp : gw ≠ rp := fun e => H.out.at_.neW (by rw [EW.out, ← e]; rfl)
 obtain ⟨n, hn⟩ : ∃ n, n = R.safe.length := ⟨_, rfl⟩
 have HNN : Hid (n = R.safe.length) := hn
 rw [← hn] at c1 c2 hi hcapw hcapp
 have hn4 : n ≤ 4096 := by rw [hn]; exact HN4.out
 rw [h.nil i hw] at hcw
 unfold nilS at hcw
 have HM : Hid (0 = (R.writes i).length) := by unfold Hid; rw [hw]; rfl
 have HM2 : Hid (strs (R.writes i) = []) := by unfold Hid; rw [hw]; rfl
 clear h ew ep hs c0 cf hf hr hrow hn hw hsp hcp
 go_enter Tryz.func72, Tryz.ntmps72
 go_wp2_with fail
 refine hm.mono ?_
 rintro e w' ⟨rfl, rfl⟩
 clear hm
 go_wp2_with fail
 have hB1 : Below w'.heap.size w' (w'.alloc (.cells #[] 9)).drew := ((Below.refl _ w').alloc (Nat.le_refl _) _).drew
 obtain ⟨v1, hv1⟩ : ∃ v1, v1 = Value.slice (some ⟨w'.heap.size, 0, none⟩) 0 0 := ⟨_, rfl⟩
 obtain ⟨m, em⟩ : ∃ m, m = 0 := ⟨_, rfl⟩
 have hOW1 : Hid ((w'.alloc (.cells #[] 9)).drew.ownsRow w'.heap.size 9 1 v1 m (strs (R.writes i))) := by rw [hv1, HM2.out, em]; exact OWN.out
 have HML : Hid (m ≤ 1000000) := by rw [em]; exact Nat.zero_le _
 have HM : Hid (m = (R.writes i).length) := em.trans HM.out
 refine wp_region_held (S := fun W => W.cell? ⟨rp, 1, none⟩ = some (.slice (some ⟨gw, 0, none⟩) n cw)) HMX.out ?_
 have hS : (fun W : World => W.cell? ⟨rp, 1, none⟩ = some (.slice (some ⟨gw, 0, none⟩) n cw)) (w'.alloc (.cells #[] 9)).drew := (hB1.cell (p := ⟨rp, 1, none⟩) hrpw).trans c1
 change wpAnyH _ _ _ _ _ _ _ _ (w'.alloc (.cells #[] 9)).drew
 generalize hW1 : (w'.alloc (.cells #[] 9)).drew = W1 at hB1 hOW1 hS ⊢
 rw [← hv1]
 clear hW1 hv1 em
 refine held_quiet 0 (v := ?v0q1) rfl (by kernel_rfl) (fun _ _ _ h => h) (by assumption) rfl ?hy0q1 ?rest0q1
 case hy0q1 => (intro wS hSw; (try dsimp only at hSw); go_simp; try with_reducible rfl)
 try simp only [Act.put, List.setIfInBounds_toArray, List.set_cons_zero, List.set_cons_succ]
 refine held_quiet 1 (v := ?v1q2) rfl (by kernel_rfl) (fun _ _ _ h => h) (by assumption) rfl ?hy1q2 ?rest1q2
 case hy1q2 => (intro wS hSw; (try dsimp only at hSw); go_simp; try with_reducible rfl)
 try simp only [Act.put, List.setIfInBounds_toArray, List.set_cons_zero, List.set_cons_succ]
 refine held_quiet 2 (v := ?v2q3) rfl (by kernel_rfl) (fun _ _ _ h => h) (by assumption) rfl ?hy2q3 ?rest2q3
 case hy2q3 => (intro wS hSw; (try dsimp only at hSw); go_simp; try with_reducible rfl)
 try simp only [Act.put, List.setIfInBounds_toArray, List.set_cons_zero, List.set_cons_succ]
 refine held_quiet 3 (v := ?v3q4) rfl (by kernel_rfl) (fun _ _ _ h => h) (by assumption) rfl ?hy3q4 ?rest3q4
 case hy3q4 => (intro wS hSw; (try dsimp only at hSw); go_simp; try with_reducible rfl)
 try simp only [Act.put, List.setIfInBounds_toArray, List.set_cons_zero, List.set_cons_succ]
 refine held_quiet 4 (v := ?v4q5) rfl (by kernel_rfl) (fun _ _ _ h => h) (by assumption) rfl ?hy4q5 ?rest4q5
 case hy4q5 => (intro wS hSw; (try dsimp only at hSw); go_simp; try with_reducible rfl)
 try simp only [Act.put, List.setIfInBounds_toArray, List.set_cons_zero, List.set_cons_succ]
 refine held_quiet 5 (v := ?v5q6) rfl (by kernel_rfl) (fun _ _ _ h => h) (by assumption) rfl ?hy5q6 ?rest5q6
 case hy5q6 => (intro wS hSw; (try dsimp only at hSw); go_simp; try with_reducible rfl)
 try simp only [Act.put, List.setIfInBounds_toArray, List.set_cons_zero, List.set_cons_succ]
 refine held_quiet 6 (v := ?v6q7) rfl (by kernel_rfl) (fun _ _ _ h => h) (by assumption) rfl ?hy6q7 ?rest6q7
 case hy6q7 => (intro wS hSw; (try dsimp only at hSw); go_simp; try with_reducible rfl)
 try simp only [Act.put, List.setIfInBounds_toArray, List.set_cons_zero, List.set_cons_succ]
 refine held_one 7 rfl (by kernel_rfl) ?_
 go_wp2
 have hc1b : (W1.alloc (.cells #[.string s] 9)).cell? ⟨rp, 1, none⟩ = some (.slice (some ⟨gw, 0, none⟩) n cw) := ((hB1.alloc hB1.size _).cell (p := ⟨rp, 1, none⟩) hrpw).trans c1
 try refine ⟨hc1b, ?_⟩
 refine held_one 8 rfl (by kernel_rfl) ?_
 refine wpList_append_own _ rfl _ _ 40 rfl w'.heap.size 9 iS (.string ByteArray.empty) 1 16 Tryz.underlying40 hS0 hS1 hS2 hS3 rfl (by decide) v1 m (strs (R.writes i)) rfl (hOW1.out.alloc _) ⟨W1.heap.size, 0, none⟩ 1 1 [.string s] rfl rfl (cell_one_new _ _ _) (by simp [Value.oneCell']) (by have := HML.out; unfold maxLen; omega) (by have := HML.out; omega) (by simp; have := hB1.size; omega) ?_
 intro v' w3 hown3 hg3 _
 obtain ⟨g, cap, rfl⟩ := ownsRow_succ hown3
 have hg2 : g < w3.heap.size := (hown3.lt g rfl).2
 have hg1 : w'.heap.size ≤ g := (hown3.lt g rfl).1
 have B3 : Hid (Below w'.heap.size w' w3) := (hB1.alloc hB1.size _).grown hg3 (by simp; have := hB1.size; omega) (fun k hk => (hOW1.out.lt k hk).1)
 have hS3 : w3.cell? ⟨rp, 1, none⟩ = some (.slice (some ⟨gw, 0, none⟩) n cw) := (B3.out.cell (p := ⟨rp, 1, none⟩) hrpw).trans c1
 have R3 : RefSt w3 rp vS vW vP hd R := H.out.only (Only.of_below B3.out (fun _ => False)) (fun _ _ hf => hf)
 have hput := R3.wrote (gw := gw) (g := g) (cap := cap) Hi.out (by rw [EW.out]; rfl) (x := s.data.toList) HSL.out (by rw [← HM.out, txt_data]; exact hown3.mono (Nat.zero_le _)) (fun e => by have := (H.out.at_.lt g (.inr (.inl e))).2; omega)
 rw [← HM.out] at hput
 have R4 : Hid (RefSt (w3.setCell ⟨gw, i, none⟩ (.slice (some ⟨g, 0, none⟩) (m + 1) cap)) rp vS vW vP (fun j => if j = i then .slice (some ⟨g, 0, none⟩) (m + 1) cap else hd j) { R with writes := fun j => if j = i then R.writes i ++ [s.data.toList] else R.writes j }) := hput.1
 have O4 : Hid (Only (One gw) w3 (w3.setCell ⟨gw, i, none⟩ (.slice (some ⟨g, 0, none⟩) (m + 1) cap))) := hput.2
 have hcw3 := (B3.out.cell (p := ⟨gw, i, none⟩) hgw).trans hcw
 have hfw3 := (row_head R3.at_.writes EW.out (j := i) (by rw [List.length_map, List.length_range]; exact Hi.out)).2.2
 have GG : Hid (w'.heap.size ≤ g) := hg1
 clear hput R3 hown3 hg3 hg1 hg2
 refine ⟨hS3, ?_⟩
 refine held_quiet 9 (v := ?v9q8) rfl (by kernel_rfl) (fun _ _ _ h => h) (by assumption) rfl ?hy9q8 ?rest9q8
 case hy9q8 => (intro wS hSw; (try dsimp only at hSw); go_simp; try with_reducible rfl)
 try simp only [Act.put, List.setIfInBounds_toArray, List.set_cons_zero, List.set_cons_succ]
 refine held_one 10 rfl (by kernel_rfl) ?_
 go_wp2
 generalize hW4 : w3.setCell ⟨gw, i, none⟩ (.slice (some ⟨g, 0, none⟩) (m + 1) cap) = w4 at R4 O4 ⊢
 have c14 := R4.out.at_.cell.2.1
 have c24 := R4.out.at_.cell.2.2.1
 rw [EP.out, ← HNN.out] at c24
 have hspl : R.spoilt.length = R.safe.length := H.out.ok.spoilt
 obtain ⟨hgp4, hcp4, hfp4⟩ := row_head R4.out.at_.spoilt EP.out (j := i) (by show i < R.spoilt.length; rw [hspl]; exact Hi.out)
 have hy : (R.spoilt.map Value.bool)[i]? = some (.bool (R.spoilt.getD i false)) := by
  rw [List.getElem?_map, List.getElem?_eq_getElem (by rw [hspl]; exact Hi.out), List.getD_eq_getElem?_getD, List.getElem?_eq_getElem (by rw [hspl]; exact Hi.out)]; rfl
 rw [hy] at hcp4
 obtain ⟨b0, hb0⟩ : ∃ b0, b0 = R.spoilt.getD i false := ⟨_, rfl⟩
 rw [← hb0] at hcp4
 have hput := R4.out.mark (gp := gp) (by rw [EP.out]; rfl) i false
 have R5 : Hid (RefSt (w4.setCell ⟨gp, i, none⟩ (.bool false)) rp vS vW vP (fun j => if j = i then .slice (some ⟨g, 0, none⟩) (m + 1) cap else hd j) (R.put i s.data.toList)) := hput.1
 have O5 : Hid (Only (One gp) w4 (w4.setCell ⟨gp, i, none⟩ (.bool false))) := hput.2
 clear hput hW4 hspl hy hb0
 try refine ⟨by rw [c14, EW.out, HNN.out], ?_⟩
 refine held_done (by kernel_rfl) ?_
 go_wp2_with fail
 refine (pUse_any R5.out HP.out).mono ?_
 rintro e w6 ⟨rfl, r6, o6⟩
 have R6 : Hid (RefSt w6 rp vS vW vP (fun j => if j = i then .slice (some ⟨g, 0, none⟩) (m + 1) cap else hd j) (R.write i s.data.toList)) := r6
 have O6 : Hid (Only (One rp) _ w6) := o6
 clear r6 o6
 go_wp2
 go_ret
 have hO : Only G w' w6 :=
  (((Only.of_below B3.out _).then (O4.out.mono fun k hk => by cases hk; exact HF.out _ (.inl (.inr (.inr (.inl (by rw [EW.out]; rfl))))))).then (O5.out.mono fun k hk => by cases hk; exact HF.out _ (.inl (.inr (.inr (.inr (by rw [EP.out]; rfl))))))).then (O6.out.mono fun k hk => by cases hk; exact HF.out _ (.inl (.inl rfl)))
 refine ⟨rfl, ⟨vS, vW, vP, _, R6.out, fun k hk => ?_⟩, hO⟩
 rcases hk with hk | ⟨j, hj⟩
 ·exact .inl (HF.out k (.inl hk))
 ·dsimp only at hj
  split at hj
  ·simp [Value.ownBlock] at hj; exact .inr (by rw [← hj]; exact GG.out)
  ·exact .inl (HF.out k (.inr ⟨j, hj⟩))
set_option maxRecDepth 100000 in
set_option maxHeartbeats 4000000 in
theorem pWrite_more (h : RefAt w rp R G) (i : Nat) (hi : i < R.safe.length) (hr : R.reachE i = 0) (hw : R.writes i ≠ []) (hlen : (R.writes i).length ≤ 1000000) (s : ByteArray) (hs : s.size = 64) :
  Calls Tryz.prog 72 #[.pointer (some ⟨rp, 0, none⟩), .int .i64 (i : Nat), .string s] w fun e w' => e = .returned (.int .i64 0) ∧ RefAt w' rp (R.write i s.data.toList) (Plus G w.heap.size) ∧ Only G w w' := by
 obtain ⟨vS, vW, vP, hd, h, hf⟩ := h
 have hm := pwMay_any h i
 rw [hr] at hm
 have HP : Hid (R.goes = true → 0 < R.left) := Dr.power_of hr
 obtain ⟨c0, c1, c2, _, _, _, cf⟩ := h.at_.cell
 have hsp : R.spoilt.length = R.safe.length := h.ok.spoilt
 obtain ⟨gw, cw, ew, _, hgw, hcapw, hmaxw, hcw, hfw⟩ := ownsRow_at h.at_.writes (j := i) (by rw [List.length_map, List.length_range]; exact hi)
 obtain ⟨gp, cpp, ep, _, hgp, hcapp, hmaxp, hcp, hfp⟩ := ownsRow_at h.at_.spoilt (j := i) (by rw [hsp]; exact hi)
 rw [wl_at hi] at hcw
 rw [List.length_map, List.length_range] at ew hcapw
 rw [hsp] at ep hcapp
 rw [ew] at c1
 rw [ep] at c2
 unfold maxLen at hmaxw hmaxp
 obtain ⟨iS, hS0, hS1, hS2, hS3⟩ := info_parts info_str
 have hrow := h.rows i
 have H : Hid (RefSt w rp vS vW vP hd R) := h
 have HF : Hid (∀ k, RFeet rp vS vW vP hd k → G k) := hf
 have EW : Hid (vW = .slice (some ⟨gw, 0, none⟩) R.safe.length cw) := ew
 have EP : Hid (vP = .slice (some ⟨gp, 0, none⟩) R.safe.length cpp) := ep
 have HSZ : Hid (s.size = 64) := hs
 have HSL : Hid (s.data.toList.length = 64) := hs
 have Hi : Hid (i < R.safe.length) := hi
 have HN4 : Hid (R.safe.length ≤ 4096) := h.ok.le
 have HMX : Hid (Tryz.prog.follows .mixedOrders = true) := by unfold Hid; kernel_rfl
 have hsz : ((s.size : Int) == 64) = true := by rw [beq_iff_eq]; omega
 have OWN : Hid ((w.alloc (.cells #[] 9)).ownsRow w.heap.size 9 1 (.slice (some ⟨w.heap.size, 0, none⟩) 0 0) 0 []) := World.ownsRow_made (base := w.heap.size) (e := 9) (size := 1) w #[] 0 (Nat.le_refl _) (by decide) rfl
 have hrpw : rp < w.heap.size := (h.at_.lt rp (.inl rfl)).2
 have hgwp : gw ≠ rp := fun e => H.out.at_.neW (by rw [EW.out, ← e]; rfl)
 obtain ⟨n, hn⟩ : ∃ n, n = R.safe.length := ⟨_, rfl⟩
 have HNN : Hid (n = R.safe.length) := hn
 rw [← hn] at c1 c2 hi hcapw hcapp
 have hn4 : n ≤ 4096 := by rw [hn]; exact HN4.out
 have hpos := List.length_pos_iff.2 hw
 obtain ⟨g0, cap0, e0, _, hg0, hcap0, hmax0, _, _⟩ := ownsRow_at hrow hpos
 rw [e0] at hcw
 have HROW : Hid (∀ W, Below w.heap.size w W → ∀ j u, (strs (R.writes i))[j]? = some u → W.cell? ((⟨g0, 0, none⟩ : Addr).add j) = some u) := fun W hb j u hu => by
  have hj : j < (R.writes i).length := by have := (List.getElem?_eq_some_iff.1 hu).1; rwa [strs_length] at this
  have := (row_head hrow e0 hj).2.1
  rw [hu] at this
  rw [show (⟨g0, 0, none⟩ : Addr).add j = ⟨g0, j, none⟩ by rw [Addr.add_mid]; simp]
  exact (hb.cell (p := ⟨g0, j, none⟩) hg0).trans this
 obtain ⟨m, em⟩ : ∃ m, m = (R.writes i).length := ⟨_, rfl⟩
 have HM : Hid (m = (R.writes i).length) := em
 have HML : Hid (m ≤ 1000000) := by unfold Hid; rw [em]; exact hlen
 have HSTR : Hid ((strs (R.writes i)).length = m * 1 ∧ ∀ u ∈ strs (R.writes i), u.oneCell' = true) := ⟨by rw [strs_length, em, Nat.mul_one], fun u hu => by
  obtain ⟨x, _, rfl⟩ := List.mem_map.1 hu; rfl⟩
 rw [← em] at hcw hcap0
 unfold maxLen at hmax0
 clear h ew ep hs c0 cf hf hr hrow hn hw hpos e0 em hlen hsp hcp
 go_enter Tryz.func72, Tryz.ntmps72
 go_wp2_with fail
 refine hm.mono ?_
 rintro e w' ⟨rfl, rfl⟩
 clear hm
 have hA1 : Below w'.heap.size w' (w'.alloc (.cells #[] 9)) := (Below.refl _ w').alloc (Nat.le_refl _) _
 have HA1 : Hid (Below w'.heap.size w' (w'.alloc (.cells #[] 9))) := hA1
 have hcw1 := (hA1.cell (p := ⟨gw, i, none⟩) hgw).trans hcw
 clear hA1
 go_upto_region 8 with (first
  | (at_builtin; go_loud (refine wpList_append_own _ rfl _ _ 40 rfl w'.heap.size 9 iS (.string ByteArray.empty) 1 16 Tryz.underlying40 hS0 hS1 hS2 hS3 rfl (by decide) (.slice (some ⟨w'.heap.size, 0, none⟩) 0 0) 0 [] rfl OWN.out ⟨g0, 0, none⟩ m cap0 (strs (R.writes i)) rfl HSTR.out.1 (HROW.out _ HA1.out) HSTR.out.2 (by have := HML.out; unfold maxLen; omega) (by have := HML.out; omega) (by simp) ?_); intro v1 w1 hown1 hg1 _))
 have hB1 : Below w'.heap.size w' w1.drew := (HA1.out.grown hg1 (by simp) (fun k hk => by cases hk; exact Nat.le_refl _)).drew
 have hOW1 : Hid (w1.drew.ownsRow w'.heap.size 9 1 v1 m (strs (R.writes i))) := by
  have : w1.ownsRow w'.heap.size 9 1 v1 m (strs (R.writes i)) := by have := hown1; rwa [Nat.zero_add, List.nil_append] at this
  exact this
 refine wp_region_held (S := fun W => W.cell? ⟨rp, 1, none⟩ = some (.slice (some ⟨gw, 0, none⟩) n cw)) HMX.out ?_
 have hS : (fun W : World => W.cell? ⟨rp, 1, none⟩ = some (.slice (some ⟨gw, 0, none⟩) n cw)) w1.drew := (hB1.cell (p := ⟨rp, 1, none⟩) hrpw).trans c1
 change wpAnyH _ _ _ _ _ _ _ _ w1.drew
 generalize hW1 : w1.drew = W1 at hB1 hOW1 hS ⊢
 clear hW1 hown1 hg1
 refine held_quiet 0 (v := ?v0q9) rfl (by kernel_rfl) (fun _ _ _ h => h) (by assumption) rfl ?hy0q9 ?rest0q9
 case hy0q9 => (intro wS hSw; (try dsimp only at hSw); go_simp; try with_reducible rfl)
 try simp only [Act.put, List.setIfInBounds_toArray, List.set_cons_zero, List.set_cons_succ]
 refine held_quiet 1 (v := ?v1q10) rfl (by kernel_rfl) (fun _ _ _ h => h) (by assumption) rfl ?hy1q10 ?rest1q10
 case hy1q10 => (intro wS hSw; (try dsimp only at hSw); go_simp; try with_reducible rfl)
 try simp only [Act.put, List.setIfInBounds_toArray, List.set_cons_zero, List.set_cons_succ]
 refine held_quiet 2 (v := ?v2q11) rfl (by kernel_rfl) (fun _ _ _ h => h) (by assumption) rfl ?hy2q11 ?rest2q11
 case hy2q11 => (intro wS hSw; (try dsimp only at hSw); go_simp; try with_reducible rfl)
 try simp only [Act.put, List.setIfInBounds_toArray, List.set_cons_zero, List.set_cons_succ]
 refine held_quiet 3 (v := ?v3q12) rfl (by kernel_rfl) (fun _ _ _ h => h) (by assumption) rfl ?hy3q12 ?rest3q12
 case hy3q12 => (intro wS hSw; (try dsimp only at hSw); go_simp; try with_reducible rfl)
 try simp only [Act.put, List.setIfInBounds_toArray, List.set_cons_zero, List.set_cons_succ]
 refine held_quiet 4 (v := ?v4q13) rfl (by kernel_rfl) (fun _ _ _ h => h) (by assumption) rfl ?hy4q13 ?rest4q13
 case hy4q13 => (intro wS hSw; (try dsimp only at hSw); go_simp; try with_reducible rfl)
 try simp only [Act.put, List.setIfInBounds_toArray, List.set_cons_zero, List.set_cons_succ]
 refine held_quiet 5 (v := ?v5q14) rfl (by kernel_rfl) (fun _ _ _ h => h) (by assumption) rfl ?hy5q14 ?rest5q14
 case hy5q14 => (intro wS hSw; (try dsimp only at hSw); go_simp; try with_reducible rfl)
 try simp only [Act.put, List.setIfInBounds_toArray, List.set_cons_zero, List.set_cons_succ]
 refine held_quiet 6 (v := ?v6q15) rfl (by kernel_rfl) (fun _ _ _ h => h) (by assumption) rfl ?hy6q15 ?rest6q15
 case hy6q15 => (intro wS hSw; (try dsimp only at hSw); go_simp; try with_reducible rfl)
 try simp only [Act.put, List.setIfInBounds_toArray, List.set_cons_zero, List.set_cons_succ]
 refine held_one 7 rfl (by kernel_rfl) ?_
 go_wp2
 have hc1b : (W1.alloc (.cells #[.string s] 9)).cell? ⟨rp, 1, none⟩ = some (.slice (some ⟨gw, 0, none⟩) n cw) := ((hB1.alloc hB1.size _).cell (p := ⟨rp, 1, none⟩) hrpw).trans c1
 try refine ⟨hc1b, ?_⟩
 refine held_one 8 rfl (by kernel_rfl) ?_
 refine wpList_append_own _ rfl _ _ 40 rfl w'.heap.size 9 iS (.string ByteArray.empty) 1 16 Tryz.underlying40 hS0 hS1 hS2 hS3 rfl (by decide) v1 m (strs (R.writes i)) rfl (hOW1.out.alloc _) ⟨W1.heap.size, 0, none⟩ 1 1 [.string s] rfl rfl (cell_one_new _ _ _) (by simp [Value.oneCell']) (by have := HML.out; unfold maxLen; omega) (by have := HML.out; omega) (by simp; have := hB1.size; omega) ?_
 intro v' w3 hown3 hg3 _
 obtain ⟨g, cap, rfl⟩ := ownsRow_succ hown3
 have hg2 : g < w3.heap.size := (hown3.lt g rfl).2
 have hg1 : w'.heap.size ≤ g := (hown3.lt g rfl).1
 have B3 : Hid (Below w'.heap.size w' w3) := (hB1.alloc hB1.size _).grown hg3 (by simp; have := hB1.size; omega) (fun k hk => (hOW1.out.lt k hk).1)
 have hS3 : w3.cell? ⟨rp, 1, none⟩ = some (.slice (some ⟨gw, 0, none⟩) n cw) := (B3.out.cell (p := ⟨rp, 1, none⟩) hrpw).trans c1
 have R3 : RefSt w3 rp vS vW vP hd R := H.out.only (Only.of_below B3.out (fun _ => False)) (fun _ _ hf => hf)
 have hput := R3.wrote (gw := gw) (g := g) (cap := cap) Hi.out (by rw [EW.out]; rfl) (x := s.data.toList) HSL.out (by rw [← HM.out, txt_data]; exact hown3.mono (Nat.zero_le _)) (fun e => by have := (H.out.at_.lt g (.inr (.inl e))).2; omega)
 rw [← HM.out] at hput
 have R4 : Hid (RefSt (w3.setCell ⟨gw, i, none⟩ (.slice (some ⟨g, 0, none⟩) (m + 1) cap)) rp vS vW vP (fun j => if j = i then .slice (some ⟨g, 0, none⟩) (m + 1) cap else hd j) { R with writes := fun j => if j = i then R.writes i ++ [s.data.toList] else R.writes j }) := hput.1
 have O4 : Hid (Only (One gw) w3 (w3.setCell ⟨gw, i, none⟩ (.slice (some ⟨g, 0, none⟩) (m + 1) cap))) := hput.2
 have hcw3 := (B3.out.cell (p := ⟨gw, i, none⟩) hgw).trans hcw
 have hfw3 := (row_head R3.at_.writes EW.out (j := i) (by rw [List.length_map, List.length_range]; exact Hi.out)).2.2
 have GG : Hid (w'.heap.size ≤ g) := hg1
 clear hput R3 hown3 hg3 hg1 hg2
 refine ⟨hS3, ?_⟩
 refine held_quiet 9 (v := ?v9q16) rfl (by kernel_rfl) (fun _ _ _ h => h) (by assumption) rfl ?hy9q16 ?rest9q16
 case hy9q16 => (intro wS hSw; (try dsimp only at hSw); go_simp; try with_reducible rfl)
 try simp only [Act.put, List.setIfInBounds_toArray, List.set_cons_zero, List.set_cons_succ]
 refine held_one 10 rfl (by kernel_rfl) ?_
 go_wp2
 generalize hW4 : w3.setCell ⟨gw, i, none⟩ (.slice (some ⟨g, 0, none⟩) (m + 1) cap) = w4 at R4 O4 ⊢
 have c14 := R4.out.at_.cell.2.1
 have c24 := R4.out.at_.cell.2.2.1
 rw [EP.out, ← HNN.out] at c24
 have hspl : R.spoilt.length = R.safe.length := H.out.ok.spoilt
 obtain ⟨hgp4, hcp4, hfp4⟩ := row_head R4.out.at_.spoilt EP.out (j := i) (by show i < R.spoilt.length; rw [hspl]; exact Hi.out)
 have hy : (R.spoilt.map Value.bool)[i]? = some (.bool (R.spoilt.getD i false)) := by
  rw [List.getElem?_map, List.getElem?_eq_getElem (by rw [hspl]; exact Hi.out), List.getD_eq_getElem?_getD, List.getElem?_eq_getElem (by rw [hspl]; exact Hi.out)]; rfl
 rw [hy] at hcp4
 obtain ⟨b0, hb0⟩ : ∃ b0, b0 = R.spoilt.getD i false := ⟨_, rfl⟩
 rw [← hb0] at hcp4
 have hput := R4.out.mark (gp := gp) (by rw [EP.out]; rfl) i false
 have R5 : Hid (RefSt (w4.setCell ⟨gp, i, none⟩ (.bool false)) rp vS vW vP (fun j => if j = i then .slice (some ⟨g, 0, none⟩) (m + 1) cap else hd j) (R.put i s.data.toList)) := hput.1
 have O5 : Hid (Only (One gp) w4 (w4.setCell ⟨gp, i, none⟩ (.bool false))) := hput.2
 clear hput hW4 hspl hy hb0
 try refine ⟨by rw [c14, EW.out, HNN.out], ?_⟩
 refine held_done (by kernel_rfl) ?_
 go_wp2_with fail
 refine (pUse_any R5.out HP.out).mono ?_
 rintro e w6 ⟨rfl, r6, o6⟩
 have R6 : Hid (RefSt w6 rp vS vW vP (fun j => if j = i then .slice (some ⟨g, 0, none⟩) (m + 1) cap else hd j) (R.write i s.data.toList)) := r6
 have O6 : Hid (Only (One rp) _ w6) := o6
 clear r6 o6
 go_wp2
 go_ret
 have hO : Only G w' w6 :=
  (((Only.of_below B3.out _).then (O4.out.mono fun k hk => by cases hk; exact HF.out _ (.inl (.inr (.inr (.inl (by rw [EW.out]; rfl))))))).then (O5.out.mono fun k hk => by cases hk; exact HF.out _ (.inl (.inr (.inr (.inr (by rw [EP.out]; rfl))))))).then (O6.out.mono fun k hk => by cases hk; exact HF.out _ (.inl (.inl rfl)))
 refine ⟨rfl, ⟨vS, vW, vP, _, R6.out, fun k hk => ?_⟩, hO⟩
 rcases hk with hk | ⟨j, hj⟩
 ·exact .inl (HF.out k (.inl hk))
 ·dsimp only at hj
  split at hj
  ·simp [Value.ownBlock] at hj; exact .inr (by rw [← hj]; exact GG.out)
  ·exact .inl (HF.out k (.inr ⟨j, hj⟩))
theorem pWrite_yes (h : RefAt w rp R G) (i : Nat) (hi : i < R.safe.length) (hr : R.reachE i = 0) (hlen : (R.writes i).length ≤ 1000000) (s : ByteArray) (hs : s.size = 64) :
  Calls Tryz.prog 72 #[.pointer (some ⟨rp, 0, none⟩), .int .i64 (i : Nat), .string s] w fun e w' => e = .returned (.int .i64 0) ∧ RefAt w' rp (R.write i s.data.toList) (Plus G w.heap.size) ∧ Only G w w' := by
 by_cases hw : R.writes i = []
 ·exact pWrite_first h i hi hr hw s hs
 ·exact pWrite_more h i hi hr hw hlen s hs
set_option maxRecDepth 100000 in
set_option maxHeartbeats 1000000 in
theorem pWrite_bad (h : RefAt w rp R G) (i : Int) (s : ByteArray) (hr : R.reachE i = 0) (hs : s.size ≠ 64) : Calls Tryz.prog 72 #[.pointer (some ⟨rp, 0, none⟩), .int .i64 i, .string s] w fun e w' => e = .returned (.int .i64 1) ∧ w' = w := by
 obtain ⟨vS, vW, vP, hd, h, _⟩ := h
 have hm := pwMay_any h i
 rw [hr] at hm
 have hne : ((s.size : Int) == 64) = false := by rw [beq_eq_false_iff_ne]; omega
 clear h hr hs
 go_enter Tryz.func72, Tryz.ntmps72
 go_wp2_with fail
 refine hm.mono ?_
 rintro e w' ⟨rfl, rfl⟩
 go_wp2
 go_ret
 exact ⟨rfl, rfl⟩
set_option maxRecDepth 100000 in
set_option maxHeartbeats 4000000 in
theorem pFlush_yes (h : RefAt w rp R G) (hp : R.isOff = false) (hd : R.dead = false) (hlen : ∀ i, (R.writes i).length ≤ 1000000) :
  Calls Tryz.prog 74 #[.pointer (some ⟨rp, 0, none⟩)] w fun e w' => e = .returned (.int .i64 0) ∧ RefAt w' rp R.flush G ∧ Only G w w' := by
 obtain ⟨c3, c4, f3, f4⟩ := h.flags
 rw [hd] at c3
 have ho : Calls Tryz.prog 104 #[.pointer (some ⟨rp, 0, none⟩)] w fun e w' => e = .returned (.bool false) ∧ w' = w := by
  obtain ⟨vS, vW, vP, hd, h, _⟩ := h
  have h := pOff_any h
  rwa [hp] at h
 obtain ⟨Q, hQ⟩ : ∃ Q, Q = R.spend := ⟨_, rfl⟩
 have hu : Calls Tryz.prog 103 #[.pointer (some ⟨rp, 0, none⟩)] w fun e w' => e = .returned (.tuple #[]) ∧ RefAt w' rp Q G ∧ Only G w w' := by
  obtain ⟨vS, vW, vP, hd, h, hf⟩ := h
  refine (pUse_any h (fun hg => by
   unfold Dr.isOff at hp
   rw [hg, Bool.true_and, beq_eq_false_iff_ne] at hp
   omega)).mono ?_
  rintro e w' ⟨rfl, h1, h2⟩
  rw [hQ]
  exact ⟨rfl, ⟨vS, vW, vP, hd, h1, hf⟩, h2.mono fun k hk => by cases hk; exact hf _ (.inl (.inl rfl))⟩
 have HU : Hid (Calls Tryz.prog 103 #[.pointer (some ⟨rp, 0, none⟩)] w fun e w' => e = .returned (.tuple #[]) ∧ RefAt w' rp Q G ∧ Only G w w') := hu
 have hQs : Q.safe = R.safe := by rw [hQ]; rfl
 have hQw : Q.writes = R.writes := by rw [hQ]; rfl
 have HL : Hid (∀ i, (Q.writes i).length ≤ 1000000) := by rw [hQw]; exact hlen
 have hn4 : Q.safe.length ≤ 4096 := by rw [hQs]; exact h.ok.le
 obtain ⟨n, hn⟩ : ∃ n, n = Q.safe.length := ⟨_, rfl⟩
 rw [← hn] at hn4
 have HN : Hid (n = Q.safe.length) := hn
 have HS : Hid (Q.keptTo (fun i => (Q.writes i).length) n = R.flush) := by
  unfold Hid
  rw [hn, Dr.keptTo_all (show Q.Ok by rw [hQ]; exact h.ok.spend) _ (fun _ c => c) (fun _ _ _ _ _ => rfl) (fun i hi => by rw [hi]; rfl), hQ]
  exact Dr.settle_spend R _
 clear h hd hp hlen hn hQ hQs hQw hu
 go_enter Tryz.func74, Tryz.ntmps74
 go_wp2_with (first
  | (go_at_call 104; refine ho.mono ?_; rintro e w' ⟨rfl, hw'⟩; replace hw' := hw'.symm; subst hw')
  | (go_at_call 103; refine HU.out.mono ?_; rintro e w1 ⟨rfl, hA, hO⟩; have HB1 : Hid (RefAt w1 rp Q G) := hA; have HB : Hid (Only G w w1) := hO; clear hA hO))
 go_loopg [3] n (fun gg i wr => ∃ k : Nat, k ≤ n ∧ gg = n - k ∧ i = .int .i64 k ∧ RefAt wr rp (Q.keptTo (fun i => (Q.writes i).length) k) G ∧ Only G w wr)
 case atStart => exact ⟨0, Nat.zero_le _, rfl, rfl, HB1.out, HB.out⟩
 case round =>
  obtain ⟨k, hk, rfl, rfl, hR, hO⟩ := hrel
  by_cases hlt : k < n
  ·obtain ⟨gw, cw, a, cap, q1, q2, q3, q4⟩ := hR.row (i := k) (by rw [Dr.keptTo_len, ← HN.out]; exact hlt)
   have hkeep := rKeep_any hR k (by rw [Dr.keptTo_len, ← HN.out]; exact hlt) ((Q.writes k).length) (by rw [Dr.keptTo_writes, if_neg (Nat.lt_irrefl _)]; exact Nat.le_refl _)
   rw [Dr.keptTo_len, ← HN.out] at q1 q2
   rw [Dr.keptTo_writes, if_neg (Nat.lt_irrefl _)] at q4
   have hl := HL.out k
   obtain ⟨m, em⟩ : ∃ m, m = (Q.writes k).length := ⟨_, rfl⟩
   have HM : Hid (m = (Q.writes k).length) := em
   rw [← em] at q4 hkeep hl
   unfold maxLen at q3
   have HO : Hid (Only G w wr) := hO
   clear hR hO em
   go_wp2_with (go_at_call 105; refine hkeep.mono ?_; rintro e w' ⟨rfl, hR', hO'⟩; rw [HM.out] at hR'; have RR : Hid (RefAt w' rp (Q.keptTo (fun i => (Q.writes i).length) (k + 1)) G ∧ Only G w w') := ⟨hR', HO.out.then hO'⟩; clear hR' hO' hkeep)
   go_roundg (n - (k + 1))
   case measure => omega
   case rel => exact ⟨k + 1, by omega, rfl, by go_num, RR.out⟩
  ·have hkn : k = n := by omega
   subst hkn
   obtain ⟨gw, cw, q1⟩ := hR.head
   rw [Dr.keptTo_len, ← HN.out] at q1
   rw [HS.out] at hR
   have RR : Hid (RefAt wr rp R.flush G ∧ Only G w wr) := ⟨hR, hO⟩
   clear hR hO
   go_wp2
   go_ret
   exact ⟨rfl, RR.out⟩
theorem pFlush_off (h : RefAt w rp R G) (hp : R.isOff = true) (hd : R.dead = false) : Calls Tryz.prog 74 #[.pointer (some ⟨rp, 0, none⟩)] w fun e w' => e = .returned (.int .i64 42) ∧ w' = w := by
 obtain ⟨c3, _, _, _⟩ := h.flags
 rw [hd] at c3
 have ho : Calls Tryz.prog 104 #[.pointer (some ⟨rp, 0, none⟩)] w fun e w' => e = .returned (.bool true) ∧ w' = w := by
  obtain ⟨vS, vW, vP, hd, h, _⟩ := h
  have h := pOff_any h
  rwa [hp] at h
 clear h hd hp
 go_enter Tryz.func74, Tryz.ntmps74
 go_wp2_with fail
 refine ho.mono ?_
 rintro e w' ⟨rfl, rfl⟩
 go_wp2
 go_ret
 exact ⟨rfl, rfl⟩
theorem pOffCall (h : RefAt w rp R G) (a : Int) (ha : a ≤ 9223372036854775807) : Calls Tryz.prog 37 #[.pointer (some ⟨rp, 0, none⟩), .int .i64 a] w fun e w' => e = .returned (.tuple #[]) ∧ RefAt w' rp (R.off a) G ∧ Only G w w' := by
 obtain ⟨vS, vW, vP, hd, h, hf⟩ := h
 refine (refOffCall h.at_ a).mono ?_
 rintro e w' ⟨rfl, h1, h2⟩
 refine ⟨rfl, ⟨vS, vW, vP, hd, ?_, hf⟩, h2.mono fun k hk => by cases hk; exact hf _ (.inl (.inl rfl))⟩
 exact h.turned (Q := R.off a) rfl rfl rfl ⟨h.ok.pos, h.ok.le, h.ok.spoilt, h.ok.sector, h.ok.writes, h.ok.out, by show a.toNat ≤ _; omega⟩ h2 h1.self
end
end Go.Proofs.YtdgkhjgnjfgnlaaGreat
