import Derived.Test.YtdgkhjgnjfgnlaaGreatMRefA
import Derived.Deep.Cut
import Derived.Deep.Onto
import Derived.Deep.LoopGhost
namespace Go.Proofs.YtdgkhjgnjfgnlaaGreat
open Go.RowKit Go.Maps
section
variable {w w' : World} {rp : Nat} {vS vW vP : Value} {hd : Nat → Value} {R : Dr} {G : Nat → Prop}
theorem Dr.Ok.mark {R : Dr} (h : R.Ok) (i : Nat) (b : Bool) : Dr.Ok { R with spoilt := R.spoilt.set i b } :=
 ⟨h.pos, h.le, by show (R.spoilt.set i b).length = _; rw [List.length_set]; exact h.spoilt, h.sector, h.writes, h.out, h.left⟩
theorem RefSt.mark (h : RefSt w rp vS vW vP hd R) {gp : Nat} (hp : vP.ownBlock = some gp) (i : Nat) (b : Bool) : RefSt (w.setCell ⟨gp, i, none⟩ (.bool b)) rp vS vW vP hd { R with spoilt := R.spoilt.set i b } ∧ Only (One gp) w (w.setCell ⟨gp, i, none⟩ (.bool b)) := by
 obtain ⟨h1, h2⟩ := h.at_.putP hp i b
 refine ⟨⟨h1, h.ok.mark i b, fun j => ownsRow_only h2 (h.rows j) (fun k hk e => ?_), h.off, h.nil⟩, h2⟩
 obtain ⟨c1, g1⟩ := row_type (h.rows j) hk
 obtain ⟨c2, g2⟩ := row_type h.at_.spoilt hp
 rw [show k = gp from e, g2] at g1; simp at g1
theorem RefSt.wrote (h : RefSt w rp vS vW vP hd R) {i gw g cap : Nat} (hi : i < R.safe.length) (hw : vW.ownBlock = some gw) {x : List UInt8} (hx : x.length = 64) (hr : w.ownsRow 0 9 1 (.slice (some ⟨g, 0, none⟩) ((R.writes i).length + 1) cap) ((R.writes i).length + 1) (strs (R.writes i) ++ [.string (txt x)])) (hgS : vS.ownBlock ≠ some g) :
    RefSt (w.setCell ⟨gw, i, none⟩ (.slice (some ⟨g, 0, none⟩) ((R.writes i).length + 1) cap)) rp vS vW vP (fun j => if j = i then .slice (some ⟨g, 0, none⟩) ((R.writes i).length + 1) cap else hd j) { R with writes := fun j => if j = i then R.writes i ++ [x] else R.writes j } ∧
      Only (One gw) w (w.setCell ⟨gw, i, none⟩ (.slice (some ⟨g, 0, none⟩) ((R.writes i).length + 1) cap)) := by
  obtain ⟨h1, h2⟩ := h.at_.putW hw i (.slice (some ⟨g, 0, none⟩) ((R.writes i).length + 1) cap)
  have tw := row_type h.at_.writes hw
  have hne : ∀ {v : Value} {n : Nat} {xs : List Value}, w.ownsRow 0 9 1 v n xs → ∀ k, v.ownBlock = some k → ¬ One gw k := fun ho k hk e => by
    obtain ⟨c1, g1⟩ := row_type ho hk
    obtain ⟨c2, g2⟩ := tw
    rw [show k = gw from e, g2] at g1; simp at g1
  have hok := h.ok.put hi hx
  refine ⟨⟨?_, ⟨h.ok.pos, h.ok.le, h.ok.spoilt, h.ok.sector, hok.writes, hok.out, h.ok.left⟩, fun j => ?_, fun j k hk => ?_, fun j hj => ?_⟩, h2⟩
  · have e : ((List.range R.safe.length).map hd).set i (.slice (some ⟨g, 0, none⟩) ((R.writes i).length + 1) cap) = (List.range R.safe.length).map (fun j => if j = i then .slice (some ⟨g, 0, none⟩) ((R.writes i).length + 1) cap else hd j) := by
      refine List.ext_getElem (by simp) fun j a b => ?_
      simp only [List.getElem_set, List.getElem_map, List.getElem_range]
      by_cases e : i = j
      · rw [if_pos e, if_pos e.symm]
      · rw [if_neg e, if_neg (fun q => e q.symm)]
    rw [← e]; exact h1
  · show (w.setCell _ _).ownsRow 0 9 1 (if j = i then _ else hd j) (if j = i then R.writes i ++ [x] else R.writes j).length (strs (if j = i then R.writes i ++ [x] else R.writes j))
    by_cases e : j = i
    · simp only [if_pos e]
      have e2 : strs (R.writes i ++ [x]) = strs (R.writes i) ++ [.string (txt x)] := by simp [strs]
      rw [e2, List.length_append]
      exact ownsRow_only h2 hr (hne hr)
    · simp only [if_neg e]
      exact ownsRow_only h2 (h.rows j) (hne (h.rows j))
  · (try dsimp only at hk)
    split at hk
    · simp [Value.ownBlock] at hk; rw [← hk]; exact hgS
    · exact h.off j k hk
  · have hj2 : (if j = i then R.writes i ++ [x] else R.writes j) = [] := hj
    by_cases e : j = i
    · rw [if_pos e] at hj2; simp at hj2
    · rw [if_neg e] at hj2
      show (if j = i then _ else hd j) = nilS
      rw [if_neg e]; exact h.nil j hj2
end
end Go.Proofs.YtdgkhjgnjfgnlaaGreat
namespace Go.Proofs.YtdgkhjgnjfgnlaaGreat
open Go.RowKit Go.Maps
namespace Dr
def kept (R : Dr) (i c : Nat) : Dr := { R with safe := if 0 < c then R.safe.set i ((R.writes i).getD (c - 1) []) else R.safe, writes := fun j => if j = i then [] else R.writes j }
def keptTo (R : Dr) (C : Nat → Nat) : Nat → Dr
 | 0 => R
 | k + 1 => (R.keptTo C k).kept k (C k)
theorem kept_len (R : Dr) (i c : Nat) : (R.kept i c).safe.length = R.safe.length := by
 show (if 0 < c then R.safe.set i _ else R.safe).length = _
 split
 ·rw [List.length_set]
 ·rfl
theorem keptTo_len (R : Dr) (C : Nat → Nat) : ∀ k, (R.keptTo C k).safe.length = R.safe.length
 | 0 => rfl
 | k + 1 => (kept_len _ _ _).trans (keptTo_len R C k)
theorem keptTo_rest (R : Dr) (C : Nat → Nat) : ∀ k, (R.keptTo C k).dead = R.dead ∧ (R.keptTo C k).goes = R.goes ∧ (R.keptTo C k).left = R.left ∧ (R.keptTo C k).spoilt = R.spoilt
 | 0 => ⟨rfl, rfl, rfl, rfl⟩
 | k + 1 => keptTo_rest R C k
theorem keptTo_writes (R : Dr) (C : Nat → Nat) : ∀ k j, (R.keptTo C k).writes j = if j < k then [] else R.writes j
 | 0, j => by rw [if_neg (Nat.not_lt_zero _)]; rfl
 | k + 1, j => by
  show (if j = k then [] else (R.keptTo C k).writes j) = _
  by_cases e : j = k
  ·rw [if_pos e, if_pos (by omega)]
  ·rw [if_neg e, keptTo_writes R C k j]
   by_cases h : j < k
   ·rw [if_pos h, if_pos (by omega)]
   ·rw [if_neg h, if_neg (by omega)]
theorem keptTo_safe (R : Dr) (C : Nat → Nat) : ∀ k i, i < R.safe.length → (R.keptTo C k).safe.getD i [] = if i < k then (if 0 < C i then (R.writes i).getD (C i - 1) [] else R.safe.getD i []) else R.safe.getD i []
  | 0, i, _ => by rw [if_neg (Nat.not_lt_zero _)]; rfl
  | k + 1, i, hi => by
    show (if 0 < C k then (R.keptTo C k).safe.set k (((R.keptTo C k).writes k).getD (C k - 1) []) else (R.keptTo C k).safe).getD i [] = _
    rw [keptTo_writes R C k k, if_neg (Nat.lt_irrefl _)]
    by_cases e : i = k
    · subst e
      rw [if_pos (Nat.lt_succ_self _)]
      split
      · rw [List.getD_eq_getElem?_getD, List.getElem?_set_self (by rw [keptTo_len]; exact hi)]; rfl
      · rw [keptTo_safe R C i i hi, if_neg (Nat.lt_irrefl _)]
    · have hne : ((R.keptTo C k).safe.set k ((R.writes k).getD (C k - 1) [])).getD i [] = (R.keptTo C k).safe.getD i [] := by
        rw [List.getD_eq_getElem?_getD, List.getElem?_set_ne (fun q => e q.symm), ← List.getD_eq_getElem?_getD]
      have h2 : (if 0 < C k then (R.keptTo C k).safe.set k ((R.writes k).getD (C k - 1) []) else (R.keptTo C k).safe).getD i [] = (R.keptTo C k).safe.getD i [] := by
        split
        · exact hne
        · rfl
      rw [h2, keptTo_safe R C k i hi]
      by_cases h : i < k
      · rw [if_pos h, if_pos (show i < k + 1 by omega)]
      · rw [if_neg h, if_neg (show ¬ i < k + 1 by omega)]
theorem keptTo_all {R : Dr} (ok : R.Ok) (C : Nat → Nat) (K : Nat → Nat → Nat) (hK : ∀ i j, i < R.safe.length → R.writes i ≠ [] → R.busy.getD j 0 = i → K j (R.writes i).length = C i) (h0 : ∀ i, R.writes i = [] → C i = 0) : R.keptTo C R.safe.length = R.settle K := by
 have hs : (R.keptTo C R.safe.length).safe = (R.settle K).safe := by
  have l1 := keptTo_len R C R.safe.length
  have l2 : (R.settle K).safe.length = R.safe.length := safeAt_length R K _
  refine List.ext_getElem (l1.trans l2.symm) fun i a b => ?_
  rw [l1] at a
  have e := keptTo_safe R C R.safe.length i a
  rw [if_pos a] at e
  have e2 : (R.settle K).safe.getD i [] = if 0 < C i then (R.writes i).getD (C i - 1) [] else R.safe.getD i [] := by
   by_cases hw : R.writes i = []
   ·rw [settle_idle K a hw, h0 i hw, if_neg (Nat.lt_irrefl _)]
   ·obtain ⟨j, hj, _, hjs⟩ := settle_busy K a hw
    rw [hjs, hK i j a hw hj]
  have := e.trans e2.symm
  rw [List.getD_eq_getElem?_getD, List.getD_eq_getElem?_getD, List.getElem?_eq_getElem (by rw [l1]; exact a), List.getElem?_eq_getElem (by rw [l2]; exact a)] at this
  exact this
 have hw : (R.keptTo C R.safe.length).writes = fun _ => [] := by
  funext j
  rw [keptTo_writes]
  split
  ·rfl
  ·exact ok.out j (by omega)
 obtain ⟨r1, r2, r3, r4⟩ := keptTo_rest R C R.safe.length
 have e : ∀ A B : Dr, A.safe = B.safe → A.spoilt = B.spoilt → A.writes = B.writes → A.dead = B.dead → A.goes = B.goes → A.left = B.left → A = B := fun A B => by cases A; cases B; simp only [Dr.mk.injEq]; exact fun a b c d e f => ⟨a, b, c, d, e, f⟩
 exact e _ _ hs r4 hw r1 r2 r3
theorem Ok.kept {R : Dr} (h : R.Ok) (i c : Nat) (hc : c ≤ (R.writes i).length) : (R.kept i c).Ok := by
 refine ⟨by rw [kept_len]; exact h.pos, by rw [kept_len]; exact h.le, by rw [kept_len]; exact h.spoilt, fun s hs => ?_, fun j s hs => ?_, fun j hj => ?_, h.left⟩
 ·have hs2 : s ∈ (if 0 < c then R.safe.set i ((R.writes i).getD (c - 1) []) else R.safe) := hs
  split at hs2
  ·rcases List.mem_or_eq_of_mem_set hs2 with h1 | h1
   ·exact h.sector s h1
   ·rw [h1]; exact h.writes i _ (getD_mem (by omega))
  ·exact h.sector s hs2
 ·have hs2 : s ∈ (if j = i then [] else R.writes j) := hs
  split at hs2
  ·exact absurd hs2 List.not_mem_nil
  ·exact h.writes j s hs2
 ·rw [kept_len] at hj
  show (if j = i then [] else R.writes j) = []
  split
  ·rfl
  ·exact h.out j hj
end Dr
section
variable {w w' : World} {rp : Nat} {vS vW vP : Value} {hd : Nat → Value} {R : Dr} {G : Nat → Prop}
theorem RefSt.drop (h : RefSt w rp vS vW vP hd R) {i gw : Nat} (hw : vW.ownBlock = some gw) :
    RefSt (w.setCell ⟨gw, i, none⟩ nilS) rp vS vW vP (fun j => if j = i then nilS else hd j) (R.kept i 0) ∧ Only (One gw) w (w.setCell ⟨gw, i, none⟩ nilS) := by
  obtain ⟨h1, h2⟩ := h.at_.putW hw i nilS
  have tw := row_type h.at_.writes hw
  refine ⟨⟨?_, h.ok.kept i 0 (Nat.zero_le _), fun j => ?_, fun j k hk => ?_, fun j hj => ?_⟩, h2⟩
  · have e : ((List.range R.safe.length).map hd).set i nilS = (List.range R.safe.length).map (fun j => if j = i then nilS else hd j) := by
      refine List.ext_getElem (by simp) fun j a b => ?_
      simp only [List.getElem_set, List.getElem_map, List.getElem_range]
      by_cases e : i = j
      · rw [if_pos e, if_pos e.symm]
      · rw [if_neg e, if_neg (fun q => e q.symm)]
    have e2 : (R.kept i 0).safe = R.safe := by show (if (0 : Nat) < 0 then R.safe.set i ((R.writes i).getD (0 - 1) []) else R.safe) = R.safe; exact if_neg (Nat.lt_irrefl _)
    rw [e2, ← e]; exact h1
  · show (w.setCell _ _).ownsRow 0 9 1 (if j = i then nilS else hd j) (if j = i then [] else R.writes j).length (strs (if j = i then [] else R.writes j))
    by_cases e : j = i
    · simp only [if_pos e]; exact World.ownsRow_nil _ _ _ _
    · simp only [if_neg e]
      refine ownsRow_only h2 (h.rows j) (fun k hk e => ?_)
      obtain ⟨c1, g1⟩ := row_type (h.rows j) hk
      obtain ⟨c2, g2⟩ := tw
      rw [show k = gw from e, g2] at g1; simp at g1
  · (try dsimp only at hk)
    split at hk
    · simp [nilS, Value.ownBlock] at hk
    · exact h.off j k hk
  · have hj2 : (if j = i then [] else R.writes j) = [] := hj
    show (if j = i then nilS else hd j) = nilS
    by_cases e : j = i
    · rw [if_pos e]
    · rw [if_neg e] at hj2 ⊢; exact h.nil j hj2
theorem RefSt.setS (h : RefSt w rp vS vW vP hd R) {gs : Nat} (hs : vS.ownBlock = some gs) (i : Nat) (x : List UInt8) (hx : x.length = 64) :
  RefSt (w.setCell ⟨gs, i, none⟩ (.string (txt x))) rp vS vW vP hd { R with safe := R.safe.set i x } ∧ Only (One gs) w (w.setCell ⟨gs, i, none⟩ (.string (txt x))) := by
 obtain ⟨h1, h2⟩ := h.at_.putS hs i (txt x)
 refine ⟨⟨?_, ⟨by show 1 ≤ (R.safe.set i x).length; rw [List.length_set]; exact h.ok.pos, by show (R.safe.set i x).length ≤ 4096; rw [List.length_set]; exact h.ok.le, by show R.spoilt.length = (R.safe.set i x).length; rw [List.length_set]; exact h.ok.spoilt, fun s hs => ?_, h.ok.writes, fun j hj => h.ok.out j (by have : (R.safe.set i x).length ≤ j := hj; rwa [List.length_set] at this), h.ok.left⟩, fun j => ownsRow_only h2 (h.rows j) (fun k hk e => ?_), h.off, h.nil⟩, h2⟩
 ·show RefIn _ 0 rp vS vW vP ((R.safe.set i x).map txt) ((List.range (R.safe.set i x).length).map hd) _ _ _ _
  rw [List.map_set, List.length_set]; exact h1
 ·rcases List.mem_or_eq_of_mem_set hs with h1 | h1
  ·exact h.ok.sector s h1
  ·rw [h1]; exact hx
 ·exact h.off j k hk (by rw [show k = gs from e]; exact hs)
set_option maxRecDepth 100000 in
set_option maxHeartbeats 1000000 in
theorem rKeep0 (h : RefAt w rp R G) (i : Nat) (hi : i < R.safe.length) : Calls Tryz.prog 105 #[.pointer (some ⟨rp, 0, none⟩), .int .i64 (i : Nat), .int .i64 0] w fun e w' => e = .returned (.tuple #[]) ∧ RefAt w' rp (R.kept i 0) G ∧ Only G w w' := by
 obtain ⟨vS, vW, vP, hd, h, hf⟩ := h
 obtain ⟨_, c1, _⟩ := h.at_.cell
 obtain ⟨gw, cw, ew, _, hgw, hcapw, hmaxw, hcw, hfw⟩ := ownsRow_at h.at_.writes (j := i) (by rw [List.length_map, List.length_range]; exact hi)
 rw [wl_at hi] at hcw
 rw [List.length_map, List.length_range] at ew hcapw
 rw [ew] at c1
 unfold maxLen at hmaxw
 obtain ⟨h1, h2⟩ := h.drop (i := i) (gw := gw) (by rw [ew]; rfl)
 have H : Hid (RefAt (w.setCell ⟨gw, i, none⟩ nilS) rp (R.kept i 0) G ∧ Only G w (w.setCell ⟨gw, i, none⟩ nilS)) := by
  refine ⟨⟨vS, vW, vP, _, h1, fun k hk => ?_⟩, h2.mono fun k hk => by cases hk; exact hf _ (.inl (.inr (.inr (.inl (by rw [ew]; rfl)))))⟩
  rcases hk with hk | ⟨j, hj⟩
  ·exact hf k (.inl hk)
  ·(try dsimp only at hj)
   split at hj
   ·simp [nilS, Value.ownBlock] at hj
   ·exact hf k (.inr ⟨j, hj⟩)
 have hn4 := h.ok.le
 obtain ⟨n, hn⟩ : ∃ n, n = R.safe.length := ⟨_, rfl⟩
 rw [← hn] at c1 hi hcapw hn4
 clear h ew hn h1 h2
 go_enter Tryz.func105, Tryz.ntmps105
 go_wp2
 go_end0
 exact ⟨rfl, H.out⟩
set_option maxRecDepth 100000 in
set_option maxHeartbeats 4000000 in
theorem rKeepC (h : RefAt w rp R G) (i : Nat) (hi : i < R.safe.length) (c : Nat) (hc : c < (R.writes i).length) : Calls Tryz.prog 105 #[.pointer (some ⟨rp, 0, none⟩), .int .i64 (i : Nat), .int .i64 ((c + 1 : Nat) : Int)] w fun e w' => e = .returned (.tuple #[]) ∧ RefAt w' rp (R.kept i (c + 1)) G ∧ Only G w w' := by
 obtain ⟨vS, vW, vP, hd, h, hf⟩ := h
 obtain ⟨c0, c1, _⟩ := h.at_.cell
 obtain ⟨gw, cw, ew, _, hgw, hcapw, hmaxw, hcw, hfw⟩ := ownsRow_at h.at_.writes (j := i) (by rw [List.length_map, List.length_range]; exact hi)
 obtain ⟨gs, cs, es, _, hgs, hcaps, hmaxs, hcs, hfs⟩ := ownsRow_at h.at_.safes (j := i) (by rw [List.length_map]; exact hi)
 rw [wl_at hi] at hcw
 rw [List.length_map, List.length_range] at ew hcapw
 rw [List.length_map] at es hcaps
 have hx : ((R.safe.map txt).map Value.string)[i]? = some (.string (txt (R.safe.getD i []))) := by
  rw [List.getElem?_map, List.getElem?_map, List.getElem?_eq_getElem hi, List.getD_eq_getElem?_getD, List.getElem?_eq_getElem hi]; rfl
 rw [hx] at hcs
 obtain ⟨g, cap, e0, _, hg0, hcap, hmax, hcell, _⟩ := ownsRow_at (h.rows i) hc
 rw [strs_at hc] at hcell
 rw [e0] at hcw
 rw [ew] at c1
 rw [es] at c0
 unfold maxLen at hmaxw hmaxs hmax
 have hxl : ((R.writes i).getD c []).length = 64 := h.ok.writes i _ (Dr.getD_mem hc)
 obtain ⟨x, ex⟩ : ∃ x, x = (R.writes i).getD c [] := ⟨_, rfl⟩
 rw [← ex] at hcell hxl
 obtain ⟨h1, h2⟩ := h.setS (gs := gs) (by rw [es]; rfl) i x hxl
 have R1 : Hid (RefSt (w.setCell ⟨gs, i, none⟩ (.string (txt x))) rp vS vW vP hd { R with safe := R.safe.set i x }) := h1
 have O1 : Hid (Only (One gs) w (w.setCell ⟨gs, i, none⟩ (.string (txt x)))) := h2
 have EW : Hid (vW = .slice (some ⟨gw, 0, none⟩) R.safe.length cw) := ew
 have ES : Hid (vS = .slice (some ⟨gs, 0, none⟩) R.safe.length cs) := es
 have HF : Hid (∀ k, RFeet rp vS vW vP hd k → G k) := hf
 have Hi : Hid (i < R.safe.length) := hi
 have HX : Hid (x = (R.writes i).getD c []) := ex
 have EHD : Hid (hd i = .slice (some ⟨g, 0, none⟩) (R.writes i).length cap) := e0
 have hn4 := h.ok.le
 obtain ⟨n, hn⟩ : ∃ n, n = R.safe.length := ⟨_, rfl⟩
 have HN : Hid (n = R.safe.length) := hn
 rw [← hn] at c0 c1 hi hcapw hcaps hn4
 obtain ⟨m, em⟩ : ∃ m, m = (R.writes i).length := ⟨_, rfl⟩
 have HM : Hid (m = (R.writes i).length) := em
 rw [← em] at hcw hc hcap
 obtain ⟨t, et⟩ : ∃ t, t = txt x := ⟨_, rfl⟩
 have HT : Hid (t = txt x) := et
 rw [← et] at hcell
 obtain ⟨u, eu⟩ : ∃ u, u = txt (R.safe.getD i []) := ⟨_, rfl⟩
 rw [← eu] at hcs
 have hm1 : IntKind.i64.wrap (((c + 1 : Nat) : Int) - 1) = (c : Int) := by rw [IntKind.wrap_i64]; omega
 have hm2 : ((c + 1 : Nat) : Int) - 1 = (c : Int) := by omega
 have hm3 : (0 : Int) < ((c + 1 : Nat) : Int) := by omega
 have hm4 : (c : Int) < (m : Int) := by omega
 clear h ew es hx hn ex e0 h1 h2 em et eu hf
 go_enter Tryz.func105, Tryz.ntmps105
 go_wp2_with fail
 go_region
 have R2 : RefSt (w.setCell ⟨gs, i, none⟩ (.string t)).drew rp vS vW vP hd { R with safe := R.safe.set i x } := by rw [HT.out]; exact R1.out.only (Only.drew (fun _ => False) _) (fun _ _ hf => hf)
 have O2 : Only G w (w.setCell ⟨gs, i, none⟩ (.string t)).drew := by rw [HT.out]; exact (O1.out.mono (fun k hk => by cases hk; exact HF.out _ (.inl (.inr (.inl (by rw [ES.out]; rfl)))))).then (Only.drew _ _)
 generalize hW1 : (w.setCell ⟨gs, i, none⟩ (.string t)).drew = w1 at R2 O2 ⊢
 clear hW1
 obtain ⟨_, c1', _⟩ := R2.at_.cell
 obtain ⟨hgw', hcw', hfw'⟩ := row_head R2.at_.writes EW.out (j := i) (by rw [List.length_map, List.length_range]; show i < (R.safe.set i x).length; rw [List.length_set]; exact Hi.out)
 rw [wl_at (by show i < (R.safe.set i x).length; rw [List.length_set]; exact Hi.out), EHD.out, ← HM.out] at hcw'
 rw [EW.out, ← HN.out] at c1'
 obtain ⟨h1, h2⟩ := R2.drop (i := i) (gw := gw) (by rw [EW.out]; rfl)
 have e : Dr.kept { R with safe := R.safe.set i x } i 0 = R.kept i (c + 1) := by
  unfold Dr.kept
  rw [if_neg (Nat.lt_irrefl _), if_pos (Nat.succ_pos c), Nat.add_sub_cancel, HX.out]
 rw [e] at h1
 have H : Hid (RefAt (w1.setCell ⟨gw, i, none⟩ nilS) rp (R.kept i (c + 1)) G ∧ Only G w (w1.setCell ⟨gw, i, none⟩ nilS)) := by
  refine ⟨⟨vS, vW, vP, _, h1, fun k hk => ?_⟩, O2.then (h2.mono fun k hk => by cases hk; exact HF.out _ (.inl (.inr (.inr (.inl (by rw [EW.out]; rfl))))))⟩
  rcases hk with hk | ⟨j, hj⟩
  ·exact HF.out k (.inl hk)
  ·(try dsimp only at hj)
   split at hj
   ·simp [nilS, Value.ownBlock] at hj
   ·exact HF.out k (.inr ⟨j, hj⟩)
 clear h1 h2 e R2 O2
 go_wp2
 go_end0
 exact ⟨rfl, H.out⟩
theorem rKeep_any (h : RefAt w rp R G) (i : Nat) (hi : i < R.safe.length) (c : Nat) (hc : c ≤ (R.writes i).length) : Calls Tryz.prog 105 #[.pointer (some ⟨rp, 0, none⟩), .int .i64 (i : Nat), .int .i64 (c : Nat)] w fun e w' => e = .returned (.tuple #[]) ∧ RefAt w' rp (R.kept i c) G ∧ Only G w w' := by
 cases c with
 | zero => exact rKeep0 h i hi
 | succ c => exact rKeepC h i hi c hc
theorem RefAt.row (h : RefAt w rp R G) {i : Nat} (hi : i < R.safe.length) : ∃ (gw cw : Nat) (a : Option Addr) (cap : Nat), w.cell? ⟨rp, 1, none⟩ = some (.slice (some ⟨gw, 0, none⟩) R.safe.length cw) ∧ R.safe.length ≤ cw ∧ cw ≤ maxLen ∧ w.cell? ⟨gw, i, none⟩ = some (.slice a (R.writes i).length cap) := by
 obtain ⟨vS, vW, vP, hd, h, _⟩ := h
 obtain ⟨_, c1, _⟩ := h.at_.cell
 obtain ⟨gw, cw, ew, _, hgw, hcapw, hmaxw, hcw, hfw⟩ := ownsRow_at h.at_.writes (j := i) (by rw [List.length_map, List.length_range]; exact hi)
 rw [wl_at hi] at hcw
 rw [List.length_map, List.length_range] at ew hcapw
 rw [ew] at c1
 obtain ⟨a, cap, e, _, _⟩ := own_head (h.rows i)
 rw [e] at hcw
 exact ⟨gw, cw, a, cap, c1, hcapw, hmaxw, hcw⟩
theorem RefAt.head (h : RefAt w rp R G) : ∃ (gw cw : Nat), w.cell? ⟨rp, 1, none⟩ = some (.slice (some ⟨gw, 0, none⟩) R.safe.length cw) := by
 obtain ⟨gw, cw, a, cap, h1, _⟩ := h.row (i := 0) h.ok.pos
 exact ⟨gw, cw, h1⟩
theorem RefAt.flags (h : RefAt w rp R G) : w.cell? ⟨rp, 3, none⟩ = some (.bool R.dead) ∧ w.cell? ⟨rp, 4, none⟩ = some (.bool R.goes) ∧ w.frozen? ⟨rp, 3, none⟩ = false ∧ w.frozen? ⟨rp, 4, none⟩ = false := by
 obtain ⟨vS, vW, vP, hd, h, _⟩ := h
 obtain ⟨_, _, _, c3, c4, _, cf⟩ := h.at_.cell
 exact ⟨c3, c4, cf 3, cf 4⟩
theorem rFlush_no (h : RefAt w rp R G) (hd : R.dead = true) :
  Calls Tryz.prog 74 #[.pointer (some ⟨rp, 0, none⟩)] w fun e w' => e = .returned (.int .i64 40) ∧ w' = w := by
 obtain ⟨vS, vW, vP, hd', h, _⟩ := h
 have ha := h.at_
 rw [hd] at ha
 exact refFlush_dead ha
namespace Dr
def keepC (R : Dr) (x : Nat) (i : Nat) : Nat := if R.writes i = [] then 0 else x % ((R.writes i).length + 1)
end Dr
theorem RefAt.gone (h : RefAt w rp R G) : RefAt (w.setCell ⟨rp, 3, none⟩ (.bool true)) rp R.die G ∧ Only G w (w.setCell ⟨rp, 3, none⟩ (.bool true)) := by
 obtain ⟨vS, vW, vP, hd, h, hf⟩ := h
 obtain ⟨g1, g2⟩ := turn1 (j := 3) (v := .bool true) h.at_.self
 have hr := h.at_.turn (gone' := true) (cut' := R.goes) (left' := (R.left : Int)) g1 (by rw [g2]; rfl)
 refine ⟨⟨vS, vW, vP, hd, ⟨hr, ⟨h.ok.pos, h.ok.le, h.ok.spoilt, h.ok.sector, h.ok.writes, h.ok.out, h.ok.left⟩, fun i => ownsRow_only g1 (h.rows i) (fun k hk e => ?_), h.off, h.nil⟩, hf⟩, g1.mono fun k hk => by rw [show k = rp from hk]; exact hf rp (.inl (.inl rfl))⟩
 obtain ⟨c1, q1⟩ := row_type (h.rows i) hk
 have q2 := h.at_.self
 rw [show k = rp from e] at q1
 rw [q2] at q1; simp at q1
end
end Go.Proofs.YtdgkhjgnjfgnlaaGreat
