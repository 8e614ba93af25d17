/- Several texts in one. The walks of the document's own Spoil and Write, whatever the drive holds. The walks of the document's own keep, Flush and Crash (by a list of one), whatever the drive holds. -/
import Derived.Test.YtdgkhjgnjfgnlaaGreatMRefA
import Derived.Deep.Cut
import Derived.Deep.Onto
import Derived.Deep.LoopGhost
namespace Go.Proofs.YtdgkhjgnjfgnlaaGreat
open Go.RowKit Go.Maps

section
variable {w w' : World} {rp : Nat} {vS vW vP : Value} {hd : Nat → Value} {R : Dr} {G : Nat → Prop}
set_option maxRecDepth 100000 in
set_option maxHeartbeats 1000000 in
theorem rSpoil_no (h : RefAt w rp R G) (hg : R.goes = false) (i : Int) (hr : R.reachE i ≠ 0) : Calls Tryz.prog 35 #[.pointer (some ⟨rp, 0, none⟩), .int .i64 i] w fun e w' => e = .returned (.int .i64 (R.reachE i : Nat)) ∧ w' = w := by
  obtain ⟨vS, vW, vP, hd, h, _⟩ := h
  have hm := rMayE_any h hg i
  obtain ⟨r, er⟩ : ∃ r, r = R.reachE i := ⟨_, rfl⟩
  rw [← er] at hr hm ⊢
  have hne : ((r : Int) == 0) = false := by rw [beq_eq_false_iff_ne]; omega
  clear h er
  go_enter Tryz.func35, Tryz.ntmps35
  go_wp2_with fail
  refine hm.mono ?_
  rintro e w' ⟨rfl, rfl⟩
  go_wp2
  go_ret
  exact ⟨rfl, rfl⟩
theorem Dr.Ok.mark {R : Dr} (h : R.Ok) (i : Nat) (b : Bool) : Dr.Ok { R with spoilt := R.spoilt.set i b } :=
  ⟨h.pos, h.le, by show (R.spoilt.set i b).length = _; rw [List.length_set]; exact h.spoilt, h.sector, h.writes, h.out, h.left⟩
theorem RefSt.mark (h : RefSt w rp vS vW vP hd R) {gp : Nat} (hp : vP.ownBlock = some gp) (i : Nat) (b : Bool) : RefSt (w.setCell ⟨gp, i, none⟩ (.bool b)) rp vS vW vP hd { R with spoilt := R.spoilt.set i b } ∧ Only (One gp) w (w.setCell ⟨gp, i, none⟩ (.bool b)) := by
  obtain ⟨h1, h2⟩ := h.at_.putP hp i b
  refine ⟨⟨h1, h.ok.mark i b, fun j => ownsRow_only h2 (h.rows j) (fun k hk e => ?_), h.off, h.nil⟩, h2⟩
  obtain ⟨c1, g1⟩ := row_type (h.rows j) hk
  obtain ⟨c2, g2⟩ := row_type h.at_.spoilt hp
  rw [show k = gp from e, g2] at g1; simp at g1
set_option maxRecDepth 100000 in
set_option maxHeartbeats 1000000 in
theorem rSpoil_yes (h : RefAt w rp R G) (hg : R.goes = false) (i : Nat) (hi : i < R.safe.length) (hr : R.reachE i = 0) : Calls Tryz.prog 35 #[.pointer (some ⟨rp, 0, none⟩), .int .i64 (i : Nat)] w fun e w' => e = .returned (.int .i64 0) ∧ RefAt w' rp (R.spoil i) G ∧ Only G w w' := by
  obtain ⟨vS, vW, vP, hd, h, hf⟩ := h
  have hm := rMayE_any h hg i
  rw [hr] at hm
  obtain ⟨_, _, c2, _, _, _, _⟩ := h.at_.cell
  have hsp : R.spoilt.length = R.safe.length := h.ok.spoilt
  obtain ⟨gp, cp, ep, _, hgp, hcapp, hmaxp, hcp, hfp⟩ := ownsRow_at h.at_.spoilt (j := i) (by rw [hsp]; exact hi)
  rw [hsp] at ep hcapp
  have hy : (R.spoilt.map Value.bool)[i]? = some (.bool (R.spoilt.getD i false)) := by
    rw [List.getElem?_map, List.getElem?_eq_getElem (by rw [hsp]; exact hi), List.getD_eq_getElem?_getD, List.getElem?_eq_getElem (by rw [hsp]; exact hi)]; rfl
  rw [hy] at hcp
  rw [ep] at c2
  unfold maxLen at hmaxp
  obtain ⟨h1, h2⟩ := h.mark (gp := gp) (by rw [ep]; rfl) i true
  have H : Hid (RefAt (w.setCell ⟨gp, i, none⟩ (.bool true)) rp (R.spoil i) G ∧ Only G w (w.setCell ⟨gp, i, none⟩ (.bool true))) :=
    ⟨⟨vS, vW, vP, hd, h1, hf⟩, h2.mono fun k hk => by cases hk; exact hf _ (.inl (.inr (.inr (.inr (by rw [ep]; rfl)))))⟩
  have hn4 := h.ok.le
  obtain ⟨b0, hb0⟩ : ∃ b0, b0 = R.spoilt.getD i false := ⟨_, rfl⟩
  rw [← hb0] at hcp
  obtain ⟨n, hn⟩ : ∃ n, n = R.safe.length := ⟨_, rfl⟩
  rw [← hn] at c2 hi hcapp hn4
  clear h ep hy hn hr h1 h2 hb0
  go_enter Tryz.func35, Tryz.ntmps35
  go_wp2_with fail
  refine hm.mono ?_
  rintro e w' ⟨rfl, rfl⟩
  go_wp2
  go_ret
  exact ⟨rfl, H.out⟩
set_option maxRecDepth 100000 in
set_option maxHeartbeats 1000000 in
theorem rWrite_no (h : RefAt w rp R G) (hg : R.goes = false) (i : Int) (s : ByteArray) (hr : R.reachE i ≠ 0) : Calls Tryz.prog 72 #[.pointer (some ⟨rp, 0, none⟩), .int .i64 i, .string s] w fun e w' => e = .returned (.int .i64 (R.reachE i : Nat)) ∧ w' = w := by
  obtain ⟨vS, vW, vP, hd, h, _⟩ := h
  have hm := rMayE_any h hg i
  obtain ⟨r, er⟩ : ∃ r, r = R.reachE i := ⟨_, rfl⟩
  rw [← er] at hr hm ⊢
  have hne : ((r : Int) != 0) = true := by simp only [bne_iff_ne, ne_eq]; omega
  clear h er
  go_enter Tryz.func72, Tryz.ntmps72
  go_wp2_with fail
  refine hm.mono ?_
  rintro e w' ⟨rfl, rfl⟩
  go_wp2
  go_ret
  exact ⟨rfl, rfl⟩
/-- one more write of a sector: its row lies in a new block -/
theorem RefSt.wrote (h : RefSt w rp vS vW vP hd R) {i gw g cap : Nat} (hi : i < R.safe.length) (hw : vW.ownBlock = some gw) {x : List UInt8} (hx : x.length = 64) (hr : w.ownsRow 0 9 1 (.slice (some ⟨g, 0, none⟩) ((R.writes i).length + 1) cap) ((R.writes i).length + 1) (strs (R.writes i) ++ [.string (txt x)])) (hgS : vS.ownBlock ≠ some g) :
    RefSt (w.setCell ⟨gw, i, none⟩ (.slice (some ⟨g, 0, none⟩) ((R.writes i).length + 1) cap)) rp vS vW vP (fun j => if j = i then .slice (some ⟨g, 0, none⟩) ((R.writes i).length + 1) cap else hd j) { R with writes := fun j => if j = i then R.writes i ++ [x] else R.writes j } ∧
      Only (One gw) w (w.setCell ⟨gw, i, none⟩ (.slice (some ⟨g, 0, none⟩) ((R.writes i).length + 1) cap)) := by
  obtain ⟨h1, h2⟩ := h.at_.putW hw i (.slice (some ⟨g, 0, none⟩) ((R.writes i).length + 1) cap)
  have tw := row_type h.at_.writes hw
  have hne : ∀ {v : Value} {n : Nat} {xs : List Value}, w.ownsRow 0 9 1 v n xs → ∀ k, v.ownBlock = some k → ¬ One gw k := fun ho k hk e => by
    obtain ⟨c1, g1⟩ := row_type ho hk
    obtain ⟨c2, g2⟩ := tw
    rw [show k = gw from e, g2] at g1; simp at g1
  have hok := h.ok.put hi hx
  refine ⟨⟨?_, ⟨h.ok.pos, h.ok.le, h.ok.spoilt, h.ok.sector, hok.writes, hok.out, h.ok.left⟩, fun j => ?_, fun j k hk => ?_, fun j hj => ?_⟩, h2⟩
  · have e : ((List.range R.safe.length).map hd).set i (.slice (some ⟨g, 0, none⟩) ((R.writes i).length + 1) cap) = (List.range R.safe.length).map (fun j => if j = i then .slice (some ⟨g, 0, none⟩) ((R.writes i).length + 1) cap else hd j) := by
      refine List.ext_getElem (by simp) fun j a b => ?_
      simp only [List.getElem_set, List.getElem_map, List.getElem_range]
      by_cases e : i = j
      · rw [if_pos e, if_pos e.symm]
      · rw [if_neg e, if_neg (fun q => e q.symm)]
    rw [← e]; exact h1
  · show (w.setCell _ _).ownsRow 0 9 1 (if j = i then _ else hd j) (if j = i then R.writes i ++ [x] else R.writes j).length (strs (if j = i then R.writes i ++ [x] else R.writes j))
    by_cases e : j = i
    · simp only [if_pos e]
      have e2 : strs (R.writes i ++ [x]) = strs (R.writes i) ++ [.string (txt x)] := by simp [strs]
      rw [e2, List.length_append]
      exact ownsRow_only h2 hr (hne hr)
    · simp only [if_neg e]
      exact ownsRow_only h2 (h.rows j) (hne (h.rows j))
  · (try dsimp only at hk)
    split at hk
    · simp [Value.ownBlock] at hk; rw [← hk]; exact hgS
    · exact h.off j k hk
  · have hj2 : (if j = i then R.writes i ++ [x] else R.writes j) = [] := hj
    by_cases e : j = i
    · rw [if_pos e] at hj2; simp at hj2
    · rw [if_neg e] at hj2
      show (if j = i then _ else hd j) = nilS
      rw [if_neg e]; exact h.nil j hj2
set_option maxRecDepth 100000 in
set_option maxHeartbeats 4000000 in
theorem rWrite_first (h : RefAt w rp R G) (hg : R.goes = false) (i : Nat) (hi : i < R.safe.length) (hr : R.reachE i = 0) (hw : R.writes i = []) (s : ByteArray) (hs : s.size = 64) :
    Calls Tryz.prog 72 #[.pointer (some ⟨rp, 0, none⟩), .int .i64 (i : Nat), .string s] w fun e w' => e = .returned (.int .i64 0) ∧ RefAt w' rp (R.put i s.data.toList) (Plus G w.heap.size) ∧ Only G w w' := by
  obtain ⟨vS, vW, vP, hd, h, hf⟩ := h
  have hm := rMayE_any h hg i
  rw [hr] at hm
  have hat := h.at_
  rw [hg] at hat
  obtain ⟨c0, c1, c2, _, _, _, cf⟩ := h.at_.cell
  have hsp : R.spoilt.length = R.safe.length := h.ok.spoilt
  obtain ⟨gw, cw, ew, _, hgw, hcapw, hmaxw, hcw, hfw⟩ := ownsRow_at h.at_.writes (j := i) (by rw [List.length_map, List.length_range]; exact hi)
  obtain ⟨gp, cpp, ep, _, hgp, hcapp, hmaxp, hcp, hfp⟩ := ownsRow_at h.at_.spoilt (j := i) (by rw [hsp]; exact hi)
  rw [wl_at hi] at hcw
  rw [List.length_map, List.length_range] at ew hcapw
  rw [hsp] at ep hcapp
  rw [ew] at c1
  rw [ep] at c2
  unfold maxLen at hmaxw hmaxp
  obtain ⟨iS, hS0, hS1, hS2, hS3⟩ := info_parts info_str
  have hrow := h.rows i
  have H : Hid (RefSt w rp vS vW vP hd R) := h
  have HF : Hid (∀ k, RFeet rp vS vW vP hd k → G k) := hf
  have HG : Hid (R.goes = false) := hg
  have EW : Hid (vW = .slice (some ⟨gw, 0, none⟩) R.safe.length cw) := ew
  have EP : Hid (vP = .slice (some ⟨gp, 0, none⟩) R.safe.length cpp) := ep
  have HSZ : Hid (s.size = 64) := hs
  have HSL : Hid (s.data.toList.length = 64) := hs
  have Hi : Hid (i < R.safe.length) := hi
  have HN4 : Hid (R.safe.length ≤ 4096) := h.ok.le
  have HMX : Hid (Tryz.prog.follows .mixedOrders = true) := by unfold Hid; kernel_rfl
  have hsz : ((s.size : Int) == 64) = true := by rw [beq_iff_eq]; omega
  have OWN : Hid ((w.alloc (.cells #[] 9)).ownsRow w.heap.size 9 1 (.slice (some ⟨w.heap.size, 0, none⟩) 0 0) 0 []) := World.ownsRow_made (base := w.heap.size) (e := 9) (size := 1) w #[] 0 (Nat.le_refl _) (by decide) rfl
  have hrpw : rp < w.heap.size := (h.at_.lt rp (.inl rfl)).2
  have hgwp : gw ≠ rp := fun e => H.out.at_.neW (by rw [EW.out, ← e]; rfl)
  obtain ⟨n, hn⟩ : ∃ n, n = R.safe.length := ⟨_, rfl⟩
  have HNN : Hid (n = R.safe.length) := hn
  rw [← hn] at c1 c2 hi hcapw hcapp
  have hn4 : n ≤ 4096 := by rw [hn]; exact HN4.out
  rw [h.nil i hw] at hcw
  unfold nilS at hcw
  have HM : Hid (0 = (R.writes i).length) := by unfold Hid; rw [hw]; rfl
  have HM2 : Hid (strs (R.writes i) = []) := by unfold Hid; rw [hw]; rfl
  clear h hat ew ep hs c0 cf hf hg hr hrow hn hw hsp hcp
  go_enter Tryz.func72, Tryz.ntmps72
  go_wp2_with fail
  refine hm.mono ?_
  rintro e w' ⟨rfl, rfl⟩
  clear hm
  go_wp2_with fail
  have hB1 : Below w'.heap.size w' (w'.alloc (.cells #[] 9)).drew := ((Below.refl _ w').alloc (Nat.le_refl _) _).drew
  obtain ⟨v1, hv1⟩ : ∃ v1, v1 = Value.slice (some ⟨w'.heap.size, 0, none⟩) 0 0 := ⟨_, rfl⟩
  obtain ⟨m, em⟩ : ∃ m, m = 0 := ⟨_, rfl⟩
  have hOW1 : Hid ((w'.alloc (.cells #[] 9)).drew.ownsRow w'.heap.size 9 1 v1 m (strs (R.writes i))) := by rw [hv1, HM2.out, em]; exact OWN.out
  have HML : Hid (m ≤ 1000000) := by rw [em]; exact Nat.zero_le _
  have HM : Hid (m = (R.writes i).length) := em.trans HM.out
  refine wp_region_held (S := fun W => W.cell? ⟨rp, 1, none⟩ = some (.slice (some ⟨gw, 0, none⟩) n cw)) HMX.out ?_
  have hS : (fun W : World => W.cell? ⟨rp, 1, none⟩ = some (.slice (some ⟨gw, 0, none⟩) n cw)) (w'.alloc (.cells #[] 9)).drew := (hB1.cell (p := ⟨rp, 1, none⟩) hrpw).trans c1
  change wpAnyH _ _ _ _ _ _ _ _ (w'.alloc (.cells #[] 9)).drew
  generalize hW1 : (w'.alloc (.cells #[] 9)).drew = W1 at hB1 hOW1 hS ⊢
  rw [← hv1]
  clear hW1 hv1 em
  refine held_quiet 0 (v := ?v0q1) rfl (by kernel_rfl) (fun _ _ _ h => h) (by assumption) rfl ?hy0q1 ?rest0q1
  case hy0q1 => (intro wS hSw; (try dsimp only at hSw); go_simp; try with_reducible rfl)
  try simp only [Act.put, List.setIfInBounds_toArray, List.set_cons_zero, List.set_cons_succ]
  refine held_quiet 1 (v := ?v1q2) rfl (by kernel_rfl) (fun _ _ _ h => h) (by assumption) rfl ?hy1q2 ?rest1q2
  case hy1q2 => (intro wS hSw; (try dsimp only at hSw); go_simp; try with_reducible rfl)
  try simp only [Act.put, List.setIfInBounds_toArray, List.set_cons_zero, List.set_cons_succ]
  refine held_quiet 2 (v := ?v2q3) rfl (by kernel_rfl) (fun _ _ _ h => h) (by assumption) rfl ?hy2q3 ?rest2q3
  case hy2q3 => (intro wS hSw; (try dsimp only at hSw); go_simp; try with_reducible rfl)
  try simp only [Act.put, List.setIfInBounds_toArray, List.set_cons_zero, List.set_cons_succ]
  refine held_quiet 3 (v := ?v3q4) rfl (by kernel_rfl) (fun _ _ _ h => h) (by assumption) rfl ?hy3q4 ?rest3q4
  case hy3q4 => (intro wS hSw; (try dsimp only at hSw); go_simp; try with_reducible rfl)
  try simp only [Act.put, List.setIfInBounds_toArray, List.set_cons_zero, List.set_cons_succ]
  refine held_quiet 4 (v := ?v4q5) rfl (by kernel_rfl) (fun _ _ _ h => h) (by assumption) rfl ?hy4q5 ?rest4q5
  case hy4q5 => (intro wS hSw; (try dsimp only at hSw); go_simp; try with_reducible rfl)
  try simp only [Act.put, List.setIfInBounds_toArray, List.set_cons_zero, List.set_cons_succ]
  refine held_quiet 5 (v := ?v5q6) rfl (by kernel_rfl) (fun _ _ _ h => h) (by assumption) rfl ?hy5q6 ?rest5q6
  case hy5q6 => (intro wS hSw; (try dsimp only at hSw); go_simp; try with_reducible rfl)
  try simp only [Act.put, List.setIfInBounds_toArray, List.set_cons_zero, List.set_cons_succ]
  refine held_quiet 6 (v := ?v6q7) rfl (by kernel_rfl) (fun _ _ _ h => h) (by assumption) rfl ?hy6q7 ?rest6q7
  case hy6q7 => (intro wS hSw; (try dsimp only at hSw); go_simp; try with_reducible rfl)
  try simp only [Act.put, List.setIfInBounds_toArray, List.set_cons_zero, List.set_cons_succ]
  refine held_one 7 rfl (by kernel_rfl) ?_
  go_wp2
  have hc1b : (W1.alloc (.cells #[.string s] 9)).cell? ⟨rp, 1, none⟩ = some (.slice (some ⟨gw, 0, none⟩) n cw) := ((hB1.alloc hB1.size _).cell (p := ⟨rp, 1, none⟩) hrpw).trans c1
  try refine ⟨hc1b, ?_⟩
  refine held_one 8 rfl (by kernel_rfl) ?_
  refine wpList_append_own _ rfl _ _ 40 rfl w'.heap.size 9 iS (.string ByteArray.empty) 1 16 Tryz.underlying40 hS0 hS1 hS2 hS3 rfl (by decide) v1 m (strs (R.writes i)) rfl (hOW1.out.alloc _) ⟨W1.heap.size, 0, none⟩ 1 1 [.string s] rfl rfl (cell_one_new _ _ _) (by simp [Value.oneCell']) (by have := HML.out; unfold maxLen; omega) (by have := HML.out; omega) (by simp; have := hB1.size; omega) ?_
  intro v' w3 hown3 hg3 _
  obtain ⟨g, cap, rfl⟩ := ownsRow_succ hown3
  have hg2 : g < w3.heap.size := (hown3.lt g rfl).2
  have hg1 : w'.heap.size ≤ g := (hown3.lt g rfl).1
  have B3 : Hid (Below w'.heap.size w' w3) := (hB1.alloc hB1.size _).grown hg3 (by simp; have := hB1.size; omega) (fun k hk => (hOW1.out.lt k hk).1)
  have hS3 : w3.cell? ⟨rp, 1, none⟩ = some (.slice (some ⟨gw, 0, none⟩) n cw) := (B3.out.cell (p := ⟨rp, 1, none⟩) hrpw).trans c1
  have R3 : RefSt w3 rp vS vW vP hd R := H.out.only (Only.of_below B3.out (fun _ => False)) (fun _ _ hf => hf)
  have hput := R3.wrote (gw := gw) (g := g) (cap := cap) Hi.out (by rw [EW.out]; rfl) (x := s.data.toList) HSL.out (by rw [← HM.out, txt_data]; exact hown3.mono (Nat.zero_le _)) (fun e => by have := (H.out.at_.lt g (.inr (.inl e))).2; omega)
  rw [← HM.out] at hput
  have R4 : Hid (RefSt (w3.setCell ⟨gw, i, none⟩ (.slice (some ⟨g, 0, none⟩) (m + 1) cap)) rp vS vW vP (fun j => if j = i then .slice (some ⟨g, 0, none⟩) (m + 1) cap else hd j) { R with writes := fun j => if j = i then R.writes i ++ [s.data.toList] else R.writes j }) := hput.1
  have O4 : Hid (Only (One gw) w3 (w3.setCell ⟨gw, i, none⟩ (.slice (some ⟨g, 0, none⟩) (m + 1) cap))) := hput.2
  have hcw3 := (B3.out.cell (p := ⟨gw, i, none⟩) hgw).trans hcw
  have hfw3 := (row_head R3.at_.writes EW.out (j := i) (by rw [List.length_map, List.length_range]; exact Hi.out)).2.2
  have GG : Hid (w'.heap.size ≤ g) := hg1
  clear hput R3 hown3 hg3 hg1 hg2
  refine ⟨hS3, ?_⟩
  refine held_quiet 9 (v := ?v9q8) rfl (by kernel_rfl) (fun _ _ _ h => h) (by assumption) rfl ?hy9q8 ?rest9q8
  case hy9q8 => (intro wS hSw; (try dsimp only at hSw); go_simp; try with_reducible rfl)
  try simp only [Act.put, List.setIfInBounds_toArray, List.set_cons_zero, List.set_cons_succ]
  refine held_one 10 rfl (by kernel_rfl) ?_
  go_wp2
  generalize hW4 : w3.setCell ⟨gw, i, none⟩ (.slice (some ⟨g, 0, none⟩) (m + 1) cap) = w4 at R4 O4 ⊢
  have c14 := R4.out.at_.cell.2.1
  have c24 := R4.out.at_.cell.2.2.1
  rw [EP.out, ← HNN.out] at c24
  have hspl : R.spoilt.length = R.safe.length := H.out.ok.spoilt
  obtain ⟨hgp4, hcp4, hfp4⟩ := row_head R4.out.at_.spoilt EP.out (j := i) (by show i < R.spoilt.length; rw [hspl]; exact Hi.out)
  have hy : (R.spoilt.map Value.bool)[i]? = some (.bool (R.spoilt.getD i false)) := by
    rw [List.getElem?_map, List.getElem?_eq_getElem (by rw [hspl]; exact Hi.out), List.getD_eq_getElem?_getD, List.getElem?_eq_getElem (by rw [hspl]; exact Hi.out)]; rfl
  rw [hy] at hcp4
  obtain ⟨b0, hb0⟩ : ∃ b0, b0 = R.spoilt.getD i false := ⟨_, rfl⟩
  rw [← hb0] at hcp4
  have hput := R4.out.mark (gp := gp) (by rw [EP.out]; rfl) i false
  have R5 : Hid (RefSt (w4.setCell ⟨gp, i, none⟩ (.bool false)) rp vS vW vP (fun j => if j = i then .slice (some ⟨g, 0, none⟩) (m + 1) cap else hd j) (R.put i s.data.toList)) := hput.1
  have O5 : Hid (Only (One gp) w4 (w4.setCell ⟨gp, i, none⟩ (.bool false))) := hput.2
  clear hput hW4 hspl hy hb0
  try refine ⟨by rw [c14, EW.out, HNN.out], ?_⟩
  refine held_done (by kernel_rfl) ?_
  go_wp2_with fail
  have hat5 := R5.out.at_
  rw [show (R.put i s.data.toList).goes = false from HG.out] at hat5
  refine (refUse_alive hat5).mono ?_
  rintro e w6 ⟨rfl, rfl⟩
  go_wp2
  go_ret
  have hO : Only G w' (w4.setCell ⟨gp, i, none⟩ (.bool false)) :=
    ((Only.of_below B3.out _).then (O4.out.mono fun k hk => by cases hk; exact HF.out _ (.inl (.inr (.inr (.inl (by rw [EW.out]; rfl))))))).then (O5.out.mono fun k hk => by cases hk; exact HF.out _ (.inl (.inr (.inr (.inr (by rw [EP.out]; rfl))))))
  refine ⟨rfl, ⟨vS, vW, vP, _, R5.out, fun k hk => ?_⟩, hO⟩
  rcases hk with hk | ⟨j, hj⟩
  · exact .inl (HF.out k (.inl hk))
  · dsimp only at hj
    split at hj
    · simp [Value.ownBlock] at hj; exact .inr (by rw [← hj]; exact GG.out)
    · exact .inl (HF.out k (.inr ⟨j, hj⟩))
set_option maxRecDepth 100000 in
set_option maxHeartbeats 4000000 in
theorem rWrite_more (h : RefAt w rp R G) (hg : R.goes = false) (i : Nat) (hi : i < R.safe.length) (hr : R.reachE i = 0) (hw : R.writes i ≠ []) (hlen : (R.writes i).length ≤ 1000000) (s : ByteArray) (hs : s.size = 64) :
    Calls Tryz.prog 72 #[.pointer (some ⟨rp, 0, none⟩), .int .i64 (i : Nat), .string s] w fun e w' => e = .returned (.int .i64 0) ∧ RefAt w' rp (R.put i s.data.toList) (Plus G w.heap.size) ∧ Only G w w' := by
  obtain ⟨vS, vW, vP, hd, h, hf⟩ := h
  have hm := rMayE_any h hg i
  rw [hr] at hm
  have hat := h.at_
  rw [hg] at hat
  obtain ⟨c0, c1, c2, _, _, _, cf⟩ := h.at_.cell
  have hsp : R.spoilt.length = R.safe.length := h.ok.spoilt
  obtain ⟨gw, cw, ew, _, hgw, hcapw, hmaxw, hcw, hfw⟩ := ownsRow_at h.at_.writes (j := i) (by rw [List.length_map, List.length_range]; exact hi)
  obtain ⟨gp, cpp, ep, _, hgp, hcapp, hmaxp, hcp, hfp⟩ := ownsRow_at h.at_.spoilt (j := i) (by rw [hsp]; exact hi)
  rw [wl_at hi] at hcw
  rw [List.length_map, List.length_range] at ew hcapw
  rw [hsp] at ep hcapp
  rw [ew] at c1
  rw [ep] at c2
  unfold maxLen at hmaxw hmaxp
  obtain ⟨iS, hS0, hS1, hS2, hS3⟩ := info_parts info_str
  have hrow := h.rows i
  have H : Hid (RefSt w rp vS vW vP hd R) := h
  have HF : Hid (∀ k, RFeet rp vS vW vP hd k → G k) := hf
  have HG : Hid (R.goes = false) := hg
  have EW : Hid (vW = .slice (some ⟨gw, 0, none⟩) R.safe.length cw) := ew
  have EP : Hid (vP = .slice (some ⟨gp, 0, none⟩) R.safe.length cpp) := ep
  have HSZ : Hid (s.size = 64) := hs
  have HSL : Hid (s.data.toList.length = 64) := hs
  have Hi : Hid (i < R.safe.length) := hi
  have HN4 : Hid (R.safe.length ≤ 4096) := h.ok.le
  have HMX : Hid (Tryz.prog.follows .mixedOrders = true) := by unfold Hid; kernel_rfl
  have hsz : ((s.size : Int) == 64) = true := by rw [beq_iff_eq]; omega
  have OWN : Hid ((w.alloc (.cells #[] 9)).ownsRow w.heap.size 9 1 (.slice (some ⟨w.heap.size, 0, none⟩) 0 0) 0 []) := World.ownsRow_made (base := w.heap.size) (e := 9) (size := 1) w #[] 0 (Nat.le_refl _) (by decide) rfl
  have hrpw : rp < w.heap.size := (h.at_.lt rp (.inl rfl)).2
  have hgwp : gw ≠ rp := fun e => H.out.at_.neW (by rw [EW.out, ← e]; rfl)
  obtain ⟨n, hn⟩ : ∃ n, n = R.safe.length := ⟨_, rfl⟩
  have HNN : Hid (n = R.safe.length) := hn
  rw [← hn] at c1 c2 hi hcapw hcapp
  have hn4 : n ≤ 4096 := by rw [hn]; exact HN4.out
  have hpos := List.length_pos_iff.2 hw
  obtain ⟨g0, cap0, e0, _, hg0, hcap0, hmax0, _, _⟩ := ownsRow_at hrow hpos
  rw [e0] at hcw
  have HROW : Hid (∀ W, Below w.heap.size w W → ∀ j u, (strs (R.writes i))[j]? = some u → W.cell? ((⟨g0, 0, none⟩ : Addr).add j) = some u) := fun W hb j u hu => by
    have hj : j < (R.writes i).length := by have := (List.getElem?_eq_some_iff.1 hu).1; rwa [strs_length] at this
    have := (row_head hrow e0 hj).2.1
    rw [hu] at this
    rw [show (⟨g0, 0, none⟩ : Addr).add j = ⟨g0, j, none⟩ by rw [Addr.add_mid]; simp]
    exact (hb.cell (p := ⟨g0, j, none⟩) hg0).trans this
  obtain ⟨m, em⟩ : ∃ m, m = (R.writes i).length := ⟨_, rfl⟩
  have HM : Hid (m = (R.writes i).length) := em
  have HML : Hid (m ≤ 1000000) := by unfold Hid; rw [em]; exact hlen
  have HSTR : Hid ((strs (R.writes i)).length = m * 1 ∧ ∀ u ∈ strs (R.writes i), u.oneCell' = true) := ⟨by rw [strs_length, em, Nat.mul_one], fun u hu => by
    obtain ⟨x, _, rfl⟩ := List.mem_map.1 hu; rfl⟩
  rw [← em] at hcw hcap0
  unfold maxLen at hmax0
  clear h hat ew ep hs c0 cf hf hg hr hrow hn hw hpos e0 em hlen hsp hcp
  go_enter Tryz.func72, Tryz.ntmps72
  go_wp2_with fail
  refine hm.mono ?_
  rintro e w' ⟨rfl, rfl⟩
  clear hm
  have hA1 : Below w'.heap.size w' (w'.alloc (.cells #[] 9)) := (Below.refl _ w').alloc (Nat.le_refl _) _
  have HA1 : Hid (Below w'.heap.size w' (w'.alloc (.cells #[] 9))) := hA1
  have hcw1 := (hA1.cell (p := ⟨gw, i, none⟩) hgw).trans hcw
  clear hA1
  go_upto_region 8 with (first
    | (at_builtin; go_loud (refine wpList_append_own _ rfl _ _ 40 rfl w'.heap.size 9 iS (.string ByteArray.empty) 1 16 Tryz.underlying40 hS0 hS1 hS2 hS3 rfl (by decide) (.slice (some ⟨w'.heap.size, 0, none⟩) 0 0) 0 [] rfl OWN.out ⟨g0, 0, none⟩ m cap0 (strs (R.writes i)) rfl HSTR.out.1 (HROW.out _ HA1.out) HSTR.out.2 (by have := HML.out; unfold maxLen; omega) (by have := HML.out; omega) (by simp) ?_); intro v1 w1 hown1 hg1 _))
  have hB1 : Below w'.heap.size w' w1.drew := (HA1.out.grown hg1 (by simp) (fun k hk => by cases hk; exact Nat.le_refl _)).drew
  have hOW1 : Hid (w1.drew.ownsRow w'.heap.size 9 1 v1 m (strs (R.writes i))) := by
    have : w1.ownsRow w'.heap.size 9 1 v1 m (strs (R.writes i)) := by have := hown1; rwa [Nat.zero_add, List.nil_append] at this
    exact this
  refine wp_region_held (S := fun W => W.cell? ⟨rp, 1, none⟩ = some (.slice (some ⟨gw, 0, none⟩) n cw)) HMX.out ?_
  have hS : (fun W : World => W.cell? ⟨rp, 1, none⟩ = some (.slice (some ⟨gw, 0, none⟩) n cw)) w1.drew := (hB1.cell (p := ⟨rp, 1, none⟩) hrpw).trans c1
  change wpAnyH _ _ _ _ _ _ _ _ w1.drew
  generalize hW1 : w1.drew = W1 at hB1 hOW1 hS ⊢
  clear hW1 hown1 hg1
  refine held_quiet 0 (v := ?v0q9) rfl (by kernel_rfl) (fun _ _ _ h => h) (by assumption) rfl ?hy0q9 ?rest0q9
  case hy0q9 => (intro wS hSw; (try dsimp only at hSw); go_simp; try with_reducible rfl)
  try simp only [Act.put, List.setIfInBounds_toArray, List.set_cons_zero, List.set_cons_succ]
  refine held_quiet 1 (v := ?v1q10) rfl (by kernel_rfl) (fun _ _ _ h => h) (by assumption) rfl ?hy1q10 ?rest1q10
  case hy1q10 => (intro wS hSw; (try dsimp only at hSw); go_simp; try with_reducible rfl)
  try simp only [Act.put, List.setIfInBounds_toArray, List.set_cons_zero, List.set_cons_succ]
  refine held_quiet 2 (v := ?v2q11) rfl (by kernel_rfl) (fun _ _ _ h => h) (by assumption) rfl ?hy2q11 ?rest2q11
  case hy2q11 => (intro wS hSw; (try dsimp only at hSw); go_simp; try with_reducible rfl)
  try simp only [Act.put, List.setIfInBounds_toArray, List.set_cons_zero, List.set_cons_succ]
  refine held_quiet 3 (v := ?v3q12) rfl (by kernel_rfl) (fun _ _ _ h => h) (by assumption) rfl ?hy3q12 ?rest3q12
  case hy3q12 => (intro wS hSw; (try dsimp only at hSw); go_simp; try with_reducible rfl)
  try simp only [Act.put, List.setIfInBounds_toArray, List.set_cons_zero, List.set_cons_succ]
  refine held_quiet 4 (v := ?v4q13) rfl (by kernel_rfl) (fun _ _ _ h => h) (by assumption) rfl ?hy4q13 ?rest4q13
  case hy4q13 => (intro wS hSw; (try dsimp only at hSw); go_simp; try with_reducible rfl)
  try simp only [Act.put, List.setIfInBounds_toArray, List.set_cons_zero, List.set_cons_succ]
  refine held_quiet 5 (v := ?v5q14) rfl (by kernel_rfl) (fun _ _ _ h => h) (by assumption) rfl ?hy5q14 ?rest5q14
  case hy5q14 => (intro wS hSw; (try dsimp only at hSw); go_simp; try with_reducible rfl)
  try simp only [Act.put, List.setIfInBounds_toArray, List.set_cons_zero, List.set_cons_succ]
  refine held_quiet 6 (v := ?v6q15) rfl (by kernel_rfl) (fun _ _ _ h => h) (by assumption) rfl ?hy6q15 ?rest6q15
  case hy6q15 => (intro wS hSw; (try dsimp only at hSw); go_simp; try with_reducible rfl)
  try simp only [Act.put, List.setIfInBounds_toArray, List.set_cons_zero, List.set_cons_succ]
  refine held_one 7 rfl (by kernel_rfl) ?_
  go_wp2
  have hc1b : (W1.alloc (.cells #[.string s] 9)).cell? ⟨rp, 1, none⟩ = some (.slice (some ⟨gw, 0, none⟩) n cw) := ((hB1.alloc hB1.size _).cell (p := ⟨rp, 1, none⟩) hrpw).trans c1
  try refine ⟨hc1b, ?_⟩
  refine held_one 8 rfl (by kernel_rfl) ?_
  refine wpList_append_own _ rfl _ _ 40 rfl w'.heap.size 9 iS (.string ByteArray.empty) 1 16 Tryz.underlying40 hS0 hS1 hS2 hS3 rfl (by decide) v1 m (strs (R.writes i)) rfl (hOW1.out.alloc _) ⟨W1.heap.size, 0, none⟩ 1 1 [.string s] rfl rfl (cell_one_new _ _ _) (by simp [Value.oneCell']) (by have := HML.out; unfold maxLen; omega) (by have := HML.out; omega) (by simp; have := hB1.size; omega) ?_
  intro v' w3 hown3 hg3 _
  obtain ⟨g, cap, rfl⟩ := ownsRow_succ hown3
  have hg2 : g < w3.heap.size := (hown3.lt g rfl).2
  have hg1 : w'.heap.size ≤ g := (hown3.lt g rfl).1
  have B3 : Hid (Below w'.heap.size w' w3) := (hB1.alloc hB1.size _).grown hg3 (by simp; have := hB1.size; omega) (fun k hk => (hOW1.out.lt k hk).1)
  have hS3 : w3.cell? ⟨rp, 1, none⟩ = some (.slice (some ⟨gw, 0, none⟩) n cw) := (B3.out.cell (p := ⟨rp, 1, none⟩) hrpw).trans c1
  have R3 : RefSt w3 rp vS vW vP hd R := H.out.only (Only.of_below B3.out (fun _ => False)) (fun _ _ hf => hf)
  have hput := R3.wrote (gw := gw) (g := g) (cap := cap) Hi.out (by rw [EW.out]; rfl) (x := s.data.toList) HSL.out (by rw [← HM.out, txt_data]; exact hown3.mono (Nat.zero_le _)) (fun e => by have := (H.out.at_.lt g (.inr (.inl e))).2; omega)
  rw [← HM.out] at hput
  have R4 : Hid (RefSt (w3.setCell ⟨gw, i, none⟩ (.slice (some ⟨g, 0, none⟩) (m + 1) cap)) rp vS vW vP (fun j => if j = i then .slice (some ⟨g, 0, none⟩) (m + 1) cap else hd j) { R with writes := fun j => if j = i then R.writes i ++ [s.data.toList] else R.writes j }) := hput.1
  have O4 : Hid (Only (One gw) w3 (w3.setCell ⟨gw, i, none⟩ (.slice (some ⟨g, 0, none⟩) (m + 1) cap))) := hput.2
  have hcw3 := (B3.out.cell (p := ⟨gw, i, none⟩) hgw).trans hcw
  have hfw3 := (row_head R3.at_.writes EW.out (j := i) (by rw [List.length_map, List.length_range]; exact Hi.out)).2.2
  have GG : Hid (w'.heap.size ≤ g) := hg1
  clear hput R3 hown3 hg3 hg1 hg2
  refine ⟨hS3, ?_⟩
  refine held_quiet 9 (v := ?v9q16) rfl (by kernel_rfl) (fun _ _ _ h => h) (by assumption) rfl ?hy9q16 ?rest9q16
  case hy9q16 => (intro wS hSw; (try dsimp only at hSw); go_simp; try with_reducible rfl)
  try simp only [Act.put, List.setIfInBounds_toArray, List.set_cons_zero, List.set_cons_succ]
  refine held_one 10 rfl (by kernel_rfl) ?_
  go_wp2
  generalize hW4 : w3.setCell ⟨gw, i, none⟩ (.slice (some ⟨g, 0, none⟩) (m + 1) cap) = w4 at R4 O4 ⊢
  have c14 := R4.out.at_.cell.2.1
  have c24 := R4.out.at_.cell.2.2.1
  rw [EP.out, ← HNN.out] at c24
  have hspl : R.spoilt.length = R.safe.length := H.out.ok.spoilt
  obtain ⟨hgp4, hcp4, hfp4⟩ := row_head R4.out.at_.spoilt EP.out (j := i) (by show i < R.spoilt.length; rw [hspl]; exact Hi.out)
  have hy : (R.spoilt.map Value.bool)[i]? = some (.bool (R.spoilt.getD i false)) := by
    rw [List.getElem?_map, List.getElem?_eq_getElem (by rw [hspl]; exact Hi.out), List.getD_eq_getElem?_getD, List.getElem?_eq_getElem (by rw [hspl]; exact Hi.out)]; rfl
  rw [hy] at hcp4
  obtain ⟨b0, hb0⟩ : ∃ b0, b0 = R.spoilt.getD i false := ⟨_, rfl⟩
  rw [← hb0] at hcp4
  have hput := R4.out.mark (gp := gp) (by rw [EP.out]; rfl) i false
  have R5 : Hid (RefSt (w4.setCell ⟨gp, i, none⟩ (.bool false)) rp vS vW vP (fun j => if j = i then .slice (some ⟨g, 0, none⟩) (m + 1) cap else hd j) (R.put i s.data.toList)) := hput.1
  have O5 : Hid (Only (One gp) w4 (w4.setCell ⟨gp, i, none⟩ (.bool false))) := hput.2
  clear hput hW4 hspl hy hb0
  try refine ⟨by rw [c14, EW.out, HNN.out], ?_⟩
  refine held_done (by kernel_rfl) ?_
  go_wp2_with fail
  have hat5 := R5.out.at_
  rw [show (R.put i s.data.toList).goes = false from HG.out] at hat5
  refine (refUse_alive hat5).mono ?_
  rintro e w6 ⟨rfl, rfl⟩
  go_wp2
  go_ret
  have hO : Only G w' (w4.setCell ⟨gp, i, none⟩ (.bool false)) :=
    ((Only.of_below B3.out _).then (O4.out.mono fun k hk => by cases hk; exact HF.out _ (.inl (.inr (.inr (.inl (by rw [EW.out]; rfl))))))).then (O5.out.mono fun k hk => by cases hk; exact HF.out _ (.inl (.inr (.inr (.inr (by rw [EP.out]; rfl))))))
  refine ⟨rfl, ⟨vS, vW, vP, _, R5.out, fun k hk => ?_⟩, hO⟩
  rcases hk with hk | ⟨j, hj⟩
  · exact .inl (HF.out k (.inl hk))
  · dsimp only at hj
    split at hj
    · simp [Value.ownBlock] at hj; exact .inr (by rw [← hj]; exact GG.out)
    · exact .inl (HF.out k (.inr ⟨j, hj⟩))
theorem rWrite_yes (h : RefAt w rp R G) (hg : R.goes = false) (i : Nat) (hi : i < R.safe.length) (hr : R.reachE i = 0) (hlen : (R.writes i).length ≤ 1000000) (s : ByteArray) (hs : s.size = 64) :
    Calls Tryz.prog 72 #[.pointer (some ⟨rp, 0, none⟩), .int .i64 (i : Nat), .string s] w fun e w' => e = .returned (.int .i64 0) ∧ RefAt w' rp (R.put i s.data.toList) (Plus G w.heap.size) ∧ Only G w w' := by
  by_cases hw : R.writes i = []
  · exact rWrite_first h hg i hi hr hw s hs
  · exact rWrite_more h hg i hi hr hw hlen s hs
end
end Go.Proofs.YtdgkhjgnjfgnlaaGreat

namespace Go.Proofs.YtdgkhjgnjfgnlaaGreat
open Go.RowKit Go.Maps

namespace Dr
/-- of the sector i the first c writes are kept, none is left -/
def kept (R : Dr) (i c : Nat) : Dr := { R with safe := if 0 < c then R.safe.set i ((R.writes i).getD (c - 1) []) else R.safe, writes := fun j => if j = i then [] else R.writes j }
/-- so of the first k sectors, of each as many as C says -/
def keptTo (R : Dr) (C : Nat → Nat) : Nat → Dr
  | 0 => R
  | k + 1 => (R.keptTo C k).kept k (C k)
theorem kept_len (R : Dr) (i c : Nat) : (R.kept i c).safe.length = R.safe.length := by
  show (if 0 < c then R.safe.set i _ else R.safe).length = _
  split
  · rw [List.length_set]
  · rfl
theorem keptTo_len (R : Dr) (C : Nat → Nat) : ∀ k, (R.keptTo C k).safe.length = R.safe.length
  | 0 => rfl
  | k + 1 => (kept_len _ _ _).trans (keptTo_len R C k)
theorem keptTo_rest (R : Dr) (C : Nat → Nat) : ∀ k, (R.keptTo C k).dead = R.dead ∧ (R.keptTo C k).goes = R.goes ∧ (R.keptTo C k).left = R.left ∧ (R.keptTo C k).spoilt = R.spoilt
  | 0 => ⟨rfl, rfl, rfl, rfl⟩
  | k + 1 => keptTo_rest R C k
theorem keptTo_writes (R : Dr) (C : Nat → Nat) : ∀ k j, (R.keptTo C k).writes j = if j < k then [] else R.writes j
  | 0, j => by rw [if_neg (Nat.not_lt_zero _)]; rfl
  | k + 1, j => by
    show (if j = k then [] else (R.keptTo C k).writes j) = _
    by_cases e : j = k
    · rw [if_pos e, if_pos (by omega)]
    · rw [if_neg e, keptTo_writes R C k j]
      by_cases h : j < k
      · rw [if_pos h, if_pos (by omega)]
      · rw [if_neg h, if_neg (by omega)]
theorem keptTo_safe (R : Dr) (C : Nat → Nat) : ∀ k i, i < R.safe.length → (R.keptTo C k).safe.getD i [] = if i < k then (if 0 < C i then (R.writes i).getD (C i - 1) [] else R.safe.getD i []) else R.safe.getD i []
  | 0, i, _ => by rw [if_neg (Nat.not_lt_zero _)]; rfl
  | k + 1, i, hi => by
    show (if 0 < C k then (R.keptTo C k).safe.set k (((R.keptTo C k).writes k).getD (C k - 1) []) else (R.keptTo C k).safe).getD i [] = _
    rw [keptTo_writes R C k k, if_neg (Nat.lt_irrefl _)]
    by_cases e : i = k
    · subst e
      rw [if_pos (Nat.lt_succ_self _)]
      split
      · rw [List.getD_eq_getElem?_getD, List.getElem?_set_self (by rw [keptTo_len]; exact hi)]; rfl
      · rw [keptTo_safe R C i i hi, if_neg (Nat.lt_irrefl _)]
    · have hne : ((R.keptTo C k).safe.set k ((R.writes k).getD (C k - 1) [])).getD i [] = (R.keptTo C k).safe.getD i [] := by
        rw [List.getD_eq_getElem?_getD, List.getElem?_set_ne (fun q => e q.symm), ← List.getD_eq_getElem?_getD]
      have h2 : (if 0 < C k then (R.keptTo C k).safe.set k ((R.writes k).getD (C k - 1) []) else (R.keptTo C k).safe).getD i [] = (R.keptTo C k).safe.getD i [] := by
        split
        · exact hne
        · rfl
      rw [h2, keptTo_safe R C k i hi]
      by_cases h : i < k
      · rw [if_pos h, if_pos (show i < k + 1 by omega)]
      · rw [if_neg h, if_neg (show ¬ i < k + 1 by omega)]
theorem kept_nothing {R : Dr} {i : Nat} (h : R.writes i = []) : R.kept i 0 = R := by
  unfold kept
  rw [if_neg (Nat.lt_irrefl _)]
  have : (fun j => if j = i then [] else R.writes j) = R.writes := by
    funext j
    by_cases e : j = i
    · subst e; rw [if_pos rfl, h]
    · rw [if_neg e]
  rw [this]
/-- all sectors, one behind the other, is all at once -/
theorem keptTo_all {R : Dr} (ok : R.Ok) (C : Nat → Nat) (K : Nat → Nat → Nat) (hK : ∀ i j, i < R.safe.length → R.writes i ≠ [] → R.busy.getD j 0 = i → K j (R.writes i).length = C i) (h0 : ∀ i, R.writes i = [] → C i = 0) : R.keptTo C R.safe.length = R.settle K := by
  have hs : (R.keptTo C R.safe.length).safe = (R.settle K).safe := by
    have l1 := keptTo_len R C R.safe.length
    have l2 : (R.settle K).safe.length = R.safe.length := safeAt_length R K _
    refine List.ext_getElem (l1.trans l2.symm) fun i a b => ?_
    rw [l1] at a
    have e := keptTo_safe R C R.safe.length i a
    rw [if_pos a] at e
    have e2 : (R.settle K).safe.getD i [] = if 0 < C i then (R.writes i).getD (C i - 1) [] else R.safe.getD i [] := by
      by_cases hw : R.writes i = []
      · rw [settle_idle K a hw, h0 i hw, if_neg (Nat.lt_irrefl _)]
      · obtain ⟨j, hj, _, hjs⟩ := settle_busy K a hw
        rw [hjs, hK i j a hw hj]
    have := e.trans e2.symm
    rw [List.getD_eq_getElem?_getD, List.getD_eq_getElem?_getD, List.getElem?_eq_getElem (by rw [l1]; exact a), List.getElem?_eq_getElem (by rw [l2]; exact a)] at this
    exact this
  have hw : (R.keptTo C R.safe.length).writes = fun _ => [] := by
    funext j
    rw [keptTo_writes]
    split
    · rfl
    · exact ok.out j (by omega)
  obtain ⟨r1, r2, r3, r4⟩ := keptTo_rest R C R.safe.length
  have e : ∀ A B : Dr, A.safe = B.safe → A.spoilt = B.spoilt → A.writes = B.writes → A.dead = B.dead → A.goes = B.goes → A.left = B.left → A = B := fun A B => by cases A; cases B; simp only [Dr.mk.injEq]; exact fun a b c d e f => ⟨a, b, c, d, e, f⟩
  exact e _ _ hs r4 hw r1 r2 r3
theorem Ok.kept {R : Dr} (h : R.Ok) (i c : Nat) (hc : c ≤ (R.writes i).length) : (R.kept i c).Ok := by
  refine ⟨by rw [kept_len]; exact h.pos, by rw [kept_len]; exact h.le, by rw [kept_len]; exact h.spoilt, fun s hs => ?_, fun j s hs => ?_, fun j hj => ?_, h.left⟩
  · have hs2 : s ∈ (if 0 < c then R.safe.set i ((R.writes i).getD (c - 1) []) else R.safe) := hs
    split at hs2
    · rcases List.mem_or_eq_of_mem_set hs2 with h1 | h1
      · exact h.sector s h1
      · rw [h1]; exact h.writes i _ (getD_mem (by omega))
    · exact h.sector s hs2
  · have hs2 : s ∈ (if j = i then [] else R.writes j) := hs
    split at hs2
    · exact absurd hs2 List.not_mem_nil
    · exact h.writes j s hs2
  · rw [kept_len] at hj
    show (if j = i then [] else R.writes j) = []
    split
    · rfl
    · exact h.out j hj
end Dr

section
variable {w w' : World} {rp : Nat} {vS vW vP : Value} {hd : Nat → Value} {R : Dr} {G : Nat → Prop}
/-- a sector's row is dropped -/
theorem RefSt.drop (h : RefSt w rp vS vW vP hd R) {i gw : Nat} (hw : vW.ownBlock = some gw) :
    RefSt (w.setCell ⟨gw, i, none⟩ nilS) rp vS vW vP (fun j => if j = i then nilS else hd j) (R.kept i 0) ∧ Only (One gw) w (w.setCell ⟨gw, i, none⟩ nilS) := by
  obtain ⟨h1, h2⟩ := h.at_.putW hw i nilS
  have tw := row_type h.at_.writes hw
  refine ⟨⟨?_, h.ok.kept i 0 (Nat.zero_le _), fun j => ?_, fun j k hk => ?_, fun j hj => ?_⟩, h2⟩
  · have e : ((List.range R.safe.length).map hd).set i nilS = (List.range R.safe.length).map (fun j => if j = i then nilS else hd j) := by
      refine List.ext_getElem (by simp) fun j a b => ?_
      simp only [List.getElem_set, List.getElem_map, List.getElem_range]
      by_cases e : i = j
      · rw [if_pos e, if_pos e.symm]
      · rw [if_neg e, if_neg (fun q => e q.symm)]
    have e2 : (R.kept i 0).safe = R.safe := by show (if (0 : Nat) < 0 then R.safe.set i ((R.writes i).getD (0 - 1) []) else R.safe) = R.safe; exact if_neg (Nat.lt_irrefl _)
    rw [e2, ← e]; exact h1
  · show (w.setCell _ _).ownsRow 0 9 1 (if j = i then nilS else hd j) (if j = i then [] else R.writes j).length (strs (if j = i then [] else R.writes j))
    by_cases e : j = i
    · simp only [if_pos e]; exact World.ownsRow_nil _ _ _ _
    · simp only [if_neg e]
      refine ownsRow_only h2 (h.rows j) (fun k hk e => ?_)
      obtain ⟨c1, g1⟩ := row_type (h.rows j) hk
      obtain ⟨c2, g2⟩ := tw
      rw [show k = gw from e, g2] at g1; simp at g1
  · (try dsimp only at hk)
    split at hk
    · simp [nilS, Value.ownBlock] at hk
    · exact h.off j k hk
  · have hj2 : (if j = i then [] else R.writes j) = [] := hj
    show (if j = i then nilS else hd j) = nilS
    by_cases e : j = i
    · rw [if_pos e]
    · rw [if_neg e] at hj2 ⊢; exact h.nil j hj2
/-- a sector is set -/
theorem RefSt.setS (h : RefSt w rp vS vW vP hd R) {gs : Nat} (hs : vS.ownBlock = some gs) (i : Nat) (x : List UInt8) (hx : x.length = 64) :
    RefSt (w.setCell ⟨gs, i, none⟩ (.string (txt x))) rp vS vW vP hd { R with safe := R.safe.set i x } ∧ Only (One gs) w (w.setCell ⟨gs, i, none⟩ (.string (txt x))) := by
  obtain ⟨h1, h2⟩ := h.at_.putS hs i (txt x)
  refine ⟨⟨?_, ⟨by show 1 ≤ (R.safe.set i x).length; rw [List.length_set]; exact h.ok.pos, by show (R.safe.set i x).length ≤ 4096; rw [List.length_set]; exact h.ok.le, by show R.spoilt.length = (R.safe.set i x).length; rw [List.length_set]; exact h.ok.spoilt, fun s hs => ?_, h.ok.writes, fun j hj => h.ok.out j (by have : (R.safe.set i x).length ≤ j := hj; rwa [List.length_set] at this), h.ok.left⟩, fun j => ownsRow_only h2 (h.rows j) (fun k hk e => ?_), h.off, h.nil⟩, h2⟩
  · show RefIn _ 0 rp vS vW vP ((R.safe.set i x).map txt) ((List.range (R.safe.set i x).length).map hd) _ _ _ _
    rw [List.map_set, List.length_set]; exact h1
  · rcases List.mem_or_eq_of_mem_set hs with h1 | h1
    · exact h.ok.sector s h1
    · rw [h1]; exact hx
  · exact h.off j k hk (by rw [show k = gs from e]; exact hs)

set_option maxRecDepth 100000 in
set_option maxHeartbeats 1000000 in
theorem rKeep0 (h : RefAt w rp R G) (i : Nat) (hi : i < R.safe.length) : Calls Tryz.prog 105 #[.pointer (some ⟨rp, 0, none⟩), .int .i64 (i : Nat), .int .i64 0] w fun e w' => e = .returned (.tuple #[]) ∧ RefAt w' rp (R.kept i 0) G ∧ Only G w w' := by
  obtain ⟨vS, vW, vP, hd, h, hf⟩ := h
  obtain ⟨_, c1, _⟩ := h.at_.cell
  obtain ⟨gw, cw, ew, _, hgw, hcapw, hmaxw, hcw, hfw⟩ := ownsRow_at h.at_.writes (j := i) (by rw [List.length_map, List.length_range]; exact hi)
  rw [wl_at hi] at hcw
  rw [List.length_map, List.length_range] at ew hcapw
  rw [ew] at c1
  unfold maxLen at hmaxw
  obtain ⟨h1, h2⟩ := h.drop (i := i) (gw := gw) (by rw [ew]; rfl)
  have H : Hid (RefAt (w.setCell ⟨gw, i, none⟩ nilS) rp (R.kept i 0) G ∧ Only G w (w.setCell ⟨gw, i, none⟩ nilS)) := by
    refine ⟨⟨vS, vW, vP, _, h1, fun k hk => ?_⟩, h2.mono fun k hk => by cases hk; exact hf _ (.inl (.inr (.inr (.inl (by rw [ew]; rfl)))))⟩
    rcases hk with hk | ⟨j, hj⟩
    · exact hf k (.inl hk)
    · (try dsimp only at hj)
      split at hj
      · simp [nilS, Value.ownBlock] at hj
      · exact hf k (.inr ⟨j, hj⟩)
  have hn4 := h.ok.le
  obtain ⟨n, hn⟩ : ∃ n, n = R.safe.length := ⟨_, rfl⟩
  rw [← hn] at c1 hi hcapw hn4
  clear h ew hn h1 h2
  go_enter Tryz.func105, Tryz.ntmps105
  go_wp2
  go_end0
  exact ⟨rfl, H.out⟩
set_option maxRecDepth 100000 in
set_option maxHeartbeats 4000000 in
theorem rKeepC (h : RefAt w rp R G) (i : Nat) (hi : i < R.safe.length) (c : Nat) (hc : c < (R.writes i).length) : Calls Tryz.prog 105 #[.pointer (some ⟨rp, 0, none⟩), .int .i64 (i : Nat), .int .i64 ((c + 1 : Nat) : Int)] w fun e w' => e = .returned (.tuple #[]) ∧ RefAt w' rp (R.kept i (c + 1)) G ∧ Only G w w' := by
  obtain ⟨vS, vW, vP, hd, h, hf⟩ := h
  obtain ⟨c0, c1, _⟩ := h.at_.cell
  obtain ⟨gw, cw, ew, _, hgw, hcapw, hmaxw, hcw, hfw⟩ := ownsRow_at h.at_.writes (j := i) (by rw [List.length_map, List.length_range]; exact hi)
  obtain ⟨gs, cs, es, _, hgs, hcaps, hmaxs, hcs, hfs⟩ := ownsRow_at h.at_.safes (j := i) (by rw [List.length_map]; exact hi)
  rw [wl_at hi] at hcw
  rw [List.length_map, List.length_range] at ew hcapw
  rw [List.length_map] at es hcaps
  have hx : ((R.safe.map txt).map Value.string)[i]? = some (.string (txt (R.safe.getD i []))) := by
    rw [List.getElem?_map, List.getElem?_map, List.getElem?_eq_getElem hi, List.getD_eq_getElem?_getD, List.getElem?_eq_getElem hi]; rfl
  rw [hx] at hcs
  obtain ⟨g, cap, e0, _, hg0, hcap, hmax, hcell, _⟩ := ownsRow_at (h.rows i) hc
  rw [strs_at hc] at hcell
  rw [e0] at hcw
  rw [ew] at c1
  rw [es] at c0
  unfold maxLen at hmaxw hmaxs hmax
  have hxl : ((R.writes i).getD c []).length = 64 := h.ok.writes i _ (Dr.getD_mem hc)
  obtain ⟨x, ex⟩ : ∃ x, x = (R.writes i).getD c [] := ⟨_, rfl⟩
  rw [← ex] at hcell hxl
  obtain ⟨h1, h2⟩ := h.setS (gs := gs) (by rw [es]; rfl) i x hxl
  have R1 : Hid (RefSt (w.setCell ⟨gs, i, none⟩ (.string (txt x))) rp vS vW vP hd { R with safe := R.safe.set i x }) := h1
  have O1 : Hid (Only (One gs) w (w.setCell ⟨gs, i, none⟩ (.string (txt x)))) := h2
  have EW : Hid (vW = .slice (some ⟨gw, 0, none⟩) R.safe.length cw) := ew
  have ES : Hid (vS = .slice (some ⟨gs, 0, none⟩) R.safe.length cs) := es
  have HF : Hid (∀ k, RFeet rp vS vW vP hd k → G k) := hf
  have Hi : Hid (i < R.safe.length) := hi
  have HX : Hid (x = (R.writes i).getD c []) := ex
  have EHD : Hid (hd i = .slice (some ⟨g, 0, none⟩) (R.writes i).length cap) := e0
  have hn4 := h.ok.le
  obtain ⟨n, hn⟩ : ∃ n, n = R.safe.length := ⟨_, rfl⟩
  have HN : Hid (n = R.safe.length) := hn
  rw [← hn] at c0 c1 hi hcapw hcaps hn4
  obtain ⟨m, em⟩ : ∃ m, m = (R.writes i).length := ⟨_, rfl⟩
  have HM : Hid (m = (R.writes i).length) := em
  rw [← em] at hcw hc hcap
  obtain ⟨t, et⟩ : ∃ t, t = txt x := ⟨_, rfl⟩
  have HT : Hid (t = txt x) := et
  rw [← et] at hcell
  obtain ⟨u, eu⟩ : ∃ u, u = txt (R.safe.getD i []) := ⟨_, rfl⟩
  rw [← eu] at hcs
  have hm1 : IntKind.i64.wrap (((c + 1 : Nat) : Int) - 1) = (c : Int) := by rw [IntKind.wrap_i64]; omega
  have hm2 : ((c + 1 : Nat) : Int) - 1 = (c : Int) := by omega
  have hm3 : (0 : Int) < ((c + 1 : Nat) : Int) := by omega
  have hm4 : (c : Int) < (m : Int) := by omega
  clear h ew es hx hn ex e0 h1 h2 em et eu hf
  go_enter Tryz.func105, Tryz.ntmps105
  go_wp2_with fail
  go_region
  have R2 : RefSt (w.setCell ⟨gs, i, none⟩ (.string t)).drew rp vS vW vP hd { R with safe := R.safe.set i x } := by rw [HT.out]; exact R1.out.only (Only.drew (fun _ => False) _) (fun _ _ hf => hf)
  have O2 : Only G w (w.setCell ⟨gs, i, none⟩ (.string t)).drew := by rw [HT.out]; exact (O1.out.mono (fun k hk => by cases hk; exact HF.out _ (.inl (.inr (.inl (by rw [ES.out]; rfl)))))).then (Only.drew _ _)
  generalize hW1 : (w.setCell ⟨gs, i, none⟩ (.string t)).drew = w1 at R2 O2 ⊢
  clear hW1
  obtain ⟨_, c1', _⟩ := R2.at_.cell
  obtain ⟨hgw', hcw', hfw'⟩ := row_head R2.at_.writes EW.out (j := i) (by rw [List.length_map, List.length_range]; show i < (R.safe.set i x).length; rw [List.length_set]; exact Hi.out)
  rw [wl_at (by show i < (R.safe.set i x).length; rw [List.length_set]; exact Hi.out), EHD.out, ← HM.out] at hcw'
  rw [EW.out, ← HN.out] at c1'
  obtain ⟨h1, h2⟩ := R2.drop (i := i) (gw := gw) (by rw [EW.out]; rfl)
  have e : Dr.kept { R with safe := R.safe.set i x } i 0 = R.kept i (c + 1) := by
    unfold Dr.kept
    rw [if_neg (Nat.lt_irrefl _), if_pos (Nat.succ_pos c), Nat.add_sub_cancel, HX.out]
  rw [e] at h1
  have H : Hid (RefAt (w1.setCell ⟨gw, i, none⟩ nilS) rp (R.kept i (c + 1)) G ∧ Only G w (w1.setCell ⟨gw, i, none⟩ nilS)) := by
    refine ⟨⟨vS, vW, vP, _, h1, fun k hk => ?_⟩, O2.then (h2.mono fun k hk => by cases hk; exact HF.out _ (.inl (.inr (.inr (.inl (by rw [EW.out]; rfl))))))⟩
    rcases hk with hk | ⟨j, hj⟩
    · exact HF.out k (.inl hk)
    · (try dsimp only at hj)
      split at hj
      · simp [nilS, Value.ownBlock] at hj
      · exact HF.out k (.inr ⟨j, hj⟩)
  clear h1 h2 e R2 O2
  go_wp2
  go_end0
  exact ⟨rfl, H.out⟩
theorem rKeep_any (h : RefAt w rp R G) (i : Nat) (hi : i < R.safe.length) (c : Nat) (hc : c ≤ (R.writes i).length) : Calls Tryz.prog 105 #[.pointer (some ⟨rp, 0, none⟩), .int .i64 (i : Nat), .int .i64 (c : Nat)] w fun e w' => e = .returned (.tuple #[]) ∧ RefAt w' rp (R.kept i c) G ∧ Only G w w' := by
  cases c with
  | zero => exact rKeep0 h i hi
  | succ c => exact rKeepC h i hi c hc
/-- what a round asks of such a drive: the header of its writes, one sector's row -/
theorem RefAt.row (h : RefAt w rp R G) {i : Nat} (hi : i < R.safe.length) : ∃ (gw cw : Nat) (a : Option Addr) (cap : Nat), w.cell? ⟨rp, 1, none⟩ = some (.slice (some ⟨gw, 0, none⟩) R.safe.length cw) ∧ R.safe.length ≤ cw ∧ cw ≤ maxLen ∧ w.cell? ⟨gw, i, none⟩ = some (.slice a (R.writes i).length cap) := by
  obtain ⟨vS, vW, vP, hd, h, _⟩ := h
  obtain ⟨_, c1, _⟩ := h.at_.cell
  obtain ⟨gw, cw, ew, _, hgw, hcapw, hmaxw, hcw, hfw⟩ := ownsRow_at h.at_.writes (j := i) (by rw [List.length_map, List.length_range]; exact hi)
  rw [wl_at hi] at hcw
  rw [List.length_map, List.length_range] at ew hcapw
  rw [ew] at c1
  obtain ⟨a, cap, e, _, _⟩ := own_head (h.rows i)
  rw [e] at hcw
  exact ⟨gw, cw, a, cap, c1, hcapw, hmaxw, hcw⟩
theorem RefAt.head (h : RefAt w rp R G) : ∃ (gw cw : Nat), w.cell? ⟨rp, 1, none⟩ = some (.slice (some ⟨gw, 0, none⟩) R.safe.length cw) := by
  obtain ⟨gw, cw, a, cap, h1, _⟩ := h.row (i := 0) h.ok.pos
  exact ⟨gw, cw, h1⟩
theorem RefAt.flags (h : RefAt w rp R G) : w.cell? ⟨rp, 3, none⟩ = some (.bool R.dead) ∧ w.cell? ⟨rp, 4, none⟩ = some (.bool R.goes) ∧ w.frozen? ⟨rp, 3, none⟩ = false ∧ w.frozen? ⟨rp, 4, none⟩ = false := by
  obtain ⟨vS, vW, vP, hd, h, _⟩ := h
  obtain ⟨_, _, _, c3, c4, _, cf⟩ := h.at_.cell
  exact ⟨c3, c4, cf 3, cf 4⟩

set_option maxRecDepth 100000 in
set_option maxHeartbeats 4000000 in
theorem rFlush_yes (h : RefAt w rp R G) (hg : R.goes = false) (hd : R.dead = false) (hlen : ∀ i, (R.writes i).length ≤ 1000000) :
    Calls Tryz.prog 74 #[.pointer (some ⟨rp, 0, none⟩)] w fun e w' => e = .returned (.int .i64 0) ∧ RefAt w' rp (R.settle fun _ c => c) G ∧ Only G w w' := by
  have H : Hid (RefAt w rp R G) := h
  obtain ⟨c3, c4, f3, f4⟩ := h.flags
  rw [hd] at c3
  have ho : Calls Tryz.prog 104 #[.pointer (some ⟨rp, 0, none⟩)] w fun e w' => e = .returned (.bool false) ∧ w' = w := by
    obtain ⟨vS, vW, vP, hd, h, _⟩ := h
    have ha := h.at_; rw [hg] at ha; exact refOff_alive ha
  have hu : Calls Tryz.prog 103 #[.pointer (some ⟨rp, 0, none⟩)] w fun e w' => e = .returned (.tuple #[]) ∧ w' = w := by
    obtain ⟨vS, vW, vP, hd, h, _⟩ := h
    have ha := h.at_; rw [hg] at ha; exact refUse_alive ha
  have HL : Hid (∀ i, (R.writes i).length ≤ 1000000) := hlen
  have hn4 := h.ok.le
  obtain ⟨n, hn⟩ : ∃ n, n = R.safe.length := ⟨_, rfl⟩
  rw [← hn] at hn4
  have HN : Hid (n = R.safe.length) := hn
  have HS : Hid (R.keptTo (fun i => (R.writes i).length) n = R.settle fun _ c => c) := by
    unfold Hid
    rw [hn]
    exact Dr.keptTo_all h.ok _ _ (fun _ _ _ _ _ => rfl) (fun i hi => by rw [hi]; rfl)
  clear h hg hd hlen hn
  go_enter Tryz.func74, Tryz.ntmps74
  go_wp2_with (first
    | (go_at_call 104; refine ho.mono ?_; rintro e w' ⟨rfl, hw'⟩; replace hw' := hw'.symm; subst hw')
    | (go_at_call 103; refine hu.mono ?_; rintro e w' ⟨rfl, hw'⟩; replace hw' := hw'.symm; subst hw'))
  go_loopg [3] n (fun gg i wr => ∃ k : Nat, k ≤ n ∧ gg = n - k ∧ i = .int .i64 k ∧ RefAt wr rp (R.keptTo (fun i => (R.writes i).length) k) G ∧ Only G w wr)
  case atStart => exact ⟨0, Nat.zero_le _, rfl, rfl, H.out, Only.refl _ _⟩
  case round =>
    obtain ⟨k, hk, rfl, rfl, hR, hO⟩ := hrel
    by_cases hlt : k < n
    · obtain ⟨gw, cw, a, cap, q1, q2, q3, q4⟩ := hR.row (i := k) (by rw [Dr.keptTo_len, ← HN.out]; exact hlt)
      have hkeep := rKeep_any hR k (by rw [Dr.keptTo_len, ← HN.out]; exact hlt) ((R.writes k).length) (by rw [Dr.keptTo_writes, if_neg (Nat.lt_irrefl _)]; exact Nat.le_refl _)
      rw [Dr.keptTo_len, ← HN.out] at q1 q2
      rw [Dr.keptTo_writes, if_neg (Nat.lt_irrefl _)] at q4
      have hl := HL.out k
      obtain ⟨m, em⟩ : ∃ m, m = (R.writes k).length := ⟨_, rfl⟩
      have HM : Hid (m = (R.writes k).length) := em
      rw [← em] at q4 hkeep hl
      unfold maxLen at q3
      have HO : Hid (Only G w wr) := hO
      clear hR hO em
      go_wp2_with (go_at_call 105; refine hkeep.mono ?_; rintro e w' ⟨rfl, hR', hO'⟩; rw [HM.out] at hR'; have RR : Hid (RefAt w' rp (R.keptTo (fun i => (R.writes i).length) (k + 1)) G ∧ Only G w w') := ⟨hR', HO.out.then hO'⟩; clear hR' hO' hkeep)
      go_roundg (n - (k + 1))
      case measure => omega
      case rel => exact ⟨k + 1, by omega, rfl, by go_num, RR.out⟩
    · have hkn : k = n := by omega
      subst hkn
      obtain ⟨gw, cw, q1⟩ := hR.head
      rw [Dr.keptTo_len, ← HN.out] at q1
      rw [HS.out] at hR
      have RR : Hid (RefAt wr rp (R.settle fun _ c => c) G ∧ Only G w wr) := ⟨hR, hO⟩
      clear hR hO
      go_wp2
      go_ret
      exact ⟨rfl, RR.out⟩
theorem rFlush_no (h : RefAt w rp R G) (hd : R.dead = true) :
    Calls Tryz.prog 74 #[.pointer (some ⟨rp, 0, none⟩)] w fun e w' => e = .returned (.int .i64 40) ∧ w' = w := by
  obtain ⟨vS, vW, vP, hd', h, _⟩ := h
  have ha := h.at_
  rw [hd] at ha
  exact refFlush_dead ha
namespace Dr
/-- of each sector as many as x keeps of them -/
def keepC (R : Dr) (x : Nat) (i : Nat) : Nat := if R.writes i = [] then 0 else x % ((R.writes i).length + 1)
theorem keepC_le (R : Dr) (x i : Nat) : R.keepC x i ≤ (R.writes i).length := by
  unfold keepC; split
  · exact Nat.zero_le _
  · have := Nat.mod_lt x (show 0 < (R.writes i).length + 1 by omega); omega
theorem keeps_one (x k c : Nat) : keeps [x] k c = x % (c + 1) := by
  unfold keeps
  rw [if_neg (show ¬ [x].length = 0 from Nat.succ_ne_zero 0), show [x].length = 1 from rfl, Nat.mod_one]; rfl
theorem crash_one {R : Dr} (ok : R.Ok) (x : Nat) : R.keptTo (R.keepC x) R.safe.length = R.settle (keeps [x]) :=
  keptTo_all ok _ _ (fun i j _ hw _ => by rw [keeps_one]; unfold keepC; rw [if_neg hw]) (fun i h => if_pos h)
theorem settle_power {R : Dr} (K : Nat → Nat → Nat) (hg : R.goes = false) (hl : R.left = 0) : ({ R.settle K with goes := false, left := 0 } : Dr) = R.settle K := by
  unfold settle; rw [hg, hl]
end Dr
/-- the power's cell, put as it is -/
theorem RefAt.power (h : RefAt w rp R G) (hg : R.goes = false) : RefAt (w.setCell ⟨rp, 4, none⟩ (.bool false)) rp R G ∧ Only G w (w.setCell ⟨rp, 4, none⟩ (.bool false)) := by
  obtain ⟨vS, vW, vP, hd, h, hf⟩ := h
  obtain ⟨g1, g2⟩ := turn1 (j := 4) (v := .bool false) h.at_.self
  have hr := h.at_.turn (gone' := R.dead) (cut' := R.goes) (left' := (R.left : Int)) g1 (by rw [g2, hg]; rfl)
  refine ⟨⟨vS, vW, vP, hd, ⟨hr, h.ok, fun i => ownsRow_only g1 (h.rows i) (fun k hk e => ?_), h.off, h.nil⟩, hf⟩, g1.mono fun k hk => by rw [show k = rp from hk]; exact hf rp (.inl (.inl rfl))⟩
  obtain ⟨c1, q1⟩ := row_type (h.rows i) hk
  have q2 := h.at_.self
  rw [show k = rp from e] at q1
  rw [q2] at q1; simp at q1
theorem RefAt.gone (h : RefAt w rp R G) : RefAt (w.setCell ⟨rp, 3, none⟩ (.bool true)) rp R.die G ∧ Only G w (w.setCell ⟨rp, 3, none⟩ (.bool true)) := by
  obtain ⟨vS, vW, vP, hd, h, hf⟩ := h
  obtain ⟨g1, g2⟩ := turn1 (j := 3) (v := .bool true) h.at_.self
  have hr := h.at_.turn (gone' := true) (cut' := R.goes) (left' := (R.left : Int)) g1 (by rw [g2]; rfl)
  refine ⟨⟨vS, vW, vP, hd, ⟨hr, ⟨h.ok.pos, h.ok.le, h.ok.spoilt, h.ok.sector, h.ok.writes, h.ok.out, h.ok.left⟩, fun i => ownsRow_only g1 (h.rows i) (fun k hk e => ?_), h.off, h.nil⟩, hf⟩, g1.mono fun k hk => by rw [show k = rp from hk]; exact hf rp (.inl (.inl rfl))⟩
  obtain ⟨c1, q1⟩ := row_type (h.rows i) hk
  have q2 := h.at_.self
  rw [show k = rp from e] at q1
  rw [q2] at q1; simp at q1

end
end Go.Proofs.YtdgkhjgnjfgnlaaGreat
