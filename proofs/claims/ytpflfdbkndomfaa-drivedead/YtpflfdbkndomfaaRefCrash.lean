/- The walks of the document's own Crash, where no sector has a write; Write, keep and Flush, as DriveDead begins with them. -/
import Derived.Test.YtpflfdbkndomfaaRefWrite
namespace Go.Proofs.Ytpflfdbkndomfaa
open Go.RowKit Go.Maps

section
variable {w : World} {B rp : Nat} {vS vW vP : Value} {S : List ByteArray} {Wl : List Value} {Pl : List Bool} {gone cut : Bool} {left : Int}
set_option maxRecDepth 100000 in
set_option maxHeartbeats 1000000 in
theorem refCrash_idle (h : RefIn w B rp vS vW vP S (List.replicate 5 nilS) Pl gone cut left) (a : Option Addr) (n cap : Nat) : Calls Try.prog 42 #[.pointer (some ⟨rp, 0, none⟩), .slice a n cap] w fun e w' => e = .returned (.tuple #[]) ∧ RefIn w' B rp vS vW vP S (List.replicate 5 nilS) Pl gone false left ∧ Only (One rp) w w' := by
  obtain ⟨_, c1, _, _, c4, _, cf⟩ := h.cell
  have f4 := cf 4
  obtain ⟨g, cp, e, _, _, hcap, hmax, _, _⟩ := ownsRow_at h.writes (j := 0) (by simp)
  rw [List.length_replicate] at e hcap
  rw [e] at c1
  unfold maxLen at hmax
  have H : Hid (RefIn w B rp vS vW vP S (List.replicate 5 nilS) Pl gone cut left) := h
  have E : Hid (vW = .slice (some ⟨g, 0, none⟩) 5 cp) := e
  clear h e cf
  go_enter Try.func42, Try.ntmps42
  go_wp2
  go_loopg [5] 5 (fun gg i wr => ∃ k : Nat, k ≤ 5 ∧ gg = 5 - k ∧ i = .int .i64 k ∧ wr = w.setCell ⟨rp, 4, none⟩ (.bool false))
  case atStart => exact ⟨0, Nat.zero_le _, rfl, rfl, rfl⟩
  case round =>
    obtain ⟨k, hk, rfl, rfl, hw⟩ := hrel
    have R : Hid (RefIn wr B rp vS vW vP S (List.replicate 5 nilS) Pl gone false left ∧ Only (One rp) w wr) := by
      obtain ⟨g1, g2⟩ := turn1 (j := 4) (v := .bool false) H.out.self
      rw [hw]; exact ⟨H.out.turn g1 (by rw [g2]; rfl), g1⟩
    have HW : Hid (wr = w.setCell ⟨rp, 4, none⟩ (.bool false)) := hw
    clear hw
    have c1r := R.out.1.cell.2.1
    rw [E.out] at c1r
    by_cases hlt : k < 5
    · obtain ⟨g', cp', e', _, _, _, _, hc, _⟩ := ownsRow_at R.out.1.writes (j := k) (by simpa using hlt)
      rw [E.out, List.length_replicate] at e'
      injection e' with e1 e2 e3
      injection e1 with e1
      injection e1 with e1
      subst e1
      clear e2 e3
      have hx : (List.replicate 5 nilS)[k]? = some (.slice none 0 0) := by rw [List.getElem?_replicate, if_pos hlt]; rfl
      rw [hx] at hc
      clear hx
      go_wp2
      go_roundg (5 - (k + 1))
      case measure => omega
      case rel => exact ⟨k + 1, by omega, rfl, by go_num, HW.out⟩
    · have hk5 : k = 5 := by omega
      subst hk5
      go_wp2
      go_end0
      exact ⟨rfl, R.out.1, R.out.2⟩
theorem row_head {w : World} {b e n m : Nat} {v : Value} {xs : List Value} (h : w.ownsRow b e 1 v n xs) {g cap : Nat} (hv : v = .slice (some ⟨g, 0, none⟩) m cap) {j : Nat} (hj : j < n) : g < w.heap.size ∧ w.cell? ⟨g, j, none⟩ = xs[j]? ∧ w.frozen? ⟨g, j, none⟩ = false := by
  obtain ⟨g', cap', e', _, h2, _, _, h5, h6⟩ := ownsRow_at h hj
  rw [e'] at hv
  injection hv with e1
  injection e1 with e1
  injection e1 with e1
  subst e1
  exact ⟨h2, h5, h6⟩
theorem row_cap {w : World} {b e n m : Nat} {v : Value} {xs : List Value} (h : w.ownsRow b e 1 v n xs) {g cap : Nat} (hv : v = .slice (some ⟨g, 0, none⟩) m cap) : n ≤ cap ∧ cap ≤ maxLen := by
  rcases h.2 with ⟨e, _⟩ | ⟨g', cap', cur, e, _, _, h1, h2, _⟩
  · rw [e] at hv; injection hv with e1; cases e1
  · rw [e] at hv
    injection hv with _ _ e3
    subst e3
    exact ⟨h1, h2⟩
theorem RefIn.putW (h : RefIn w B rp vS vW vP S Wl Pl gone cut left) {g : Nat} (hg : vW.ownBlock = some g) (j : Nat) (u : Value) : RefIn (w.setCell ⟨g, j, none⟩ u) B rp vS vW vP S (Wl.set j u) Pl gone cut left ∧ Only (One g) w (w.setCell ⟨g, j, none⟩ u) := by
  have o : Only (One g) w (w.setCell ⟨g, j, none⟩ u) := Only.setCell _ w ⟨g, j, none⟩ _ rfl
  have hgc := row_type h.writes hg
  refine ⟨⟨(o.block rp (h.lt rp (.inl rfl)).2 (fun e => h.neW (by rw [hg]; exact congrArg some e.symm))).trans h.self, h.lo, ownsRow_only o h.safes (fun k hk e => ?_), by rw [List.length_set]; exact ownsRow_put h.writes hg j u, ownsRow_only o h.spoilt (fun k hk e => ?_)⟩, o⟩
  · obtain ⟨c1, h1⟩ := hgc; obtain ⟨c2, h2⟩ := row_type h.safes hk; rw [show k = g from e, h1] at h2; simp at h2
  · obtain ⟨c1, h1⟩ := hgc; obtain ⟨c2, h2⟩ := row_type h.spoilt hk; rw [show k = g from e, h1] at h2; simp at h2
theorem RefIn.putP (h : RefIn w B rp vS vW vP S Wl Pl gone cut left) {g : Nat} (hg : vP.ownBlock = some g) (j : Nat) (b : Bool) : RefIn (w.setCell ⟨g, j, none⟩ (.bool b)) B rp vS vW vP S Wl (Pl.set j b) gone cut left ∧ Only (One g) w (w.setCell ⟨g, j, none⟩ (.bool b)) := by
  have o : Only (One g) w (w.setCell ⟨g, j, none⟩ (.bool b)) := Only.setCell _ w ⟨g, j, none⟩ _ rfl
  have hgc := row_type h.spoilt hg
  refine ⟨⟨(o.block rp (h.lt rp (.inl rfl)).2 (fun e => h.neP (by rw [hg]; exact congrArg some e.symm))).trans h.self, h.lo, ownsRow_only o h.safes (fun k hk e => ?_), ownsRow_only o h.writes (fun k hk e => ?_), by rw [List.length_set, List.map_set]; exact ownsRow_put h.spoilt hg j _⟩, o⟩
  · obtain ⟨c1, h1⟩ := hgc; obtain ⟨c2, h2⟩ := row_type h.safes hk; rw [show k = g from e, h1] at h2; simp at h2
  · obtain ⟨c1, h1⟩ := hgc; obtain ⟨c2, h2⟩ := row_type h.writes hk; rw [show k = g from e, h1] at h2; simp at h2
theorem RefIn.putS (h : RefIn w B rp vS vW vP S Wl Pl gone cut left) {g : Nat} (hg : vS.ownBlock = some g) (j : Nat) (x : ByteArray) : RefIn (w.setCell ⟨g, j, none⟩ (.string x)) B rp vS vW vP (S.set j x) Wl Pl gone cut left ∧ Only (One g) w (w.setCell ⟨g, j, none⟩ (.string x)) := by
  have o : Only (One g) w (w.setCell ⟨g, j, none⟩ (.string x)) := Only.setCell _ w ⟨g, j, none⟩ _ rfl
  have hgc := row_type h.safes hg
  refine ⟨⟨(o.block rp (h.lt rp (.inl rfl)).2 (fun e => h.neS (by rw [hg]; exact congrArg some e.symm))).trans h.self, h.lo, by rw [List.length_set, List.map_set]; exact ownsRow_put h.safes hg j _, ownsRow_only o h.writes (fun k hk e => ?_), ownsRow_only o h.spoilt (fun k hk e => ?_)⟩, o⟩
  · obtain ⟨c1, h1⟩ := hgc; obtain ⟨c2, h2⟩ := row_type h.writes hk; rw [show k = g from e, h1] at h2; simp at h2
  · obtain ⟨c1, h1⟩ := hgc; obtain ⟨c2, h2⟩ := row_type h.spoilt hk; rw [show k = g from e, h1] at h2; simp at h2

/-- the row of the writes where the third sector has one -/
def oneW (v : Value) : List Value := [nilS, nilS, v, nilS, nilS]

set_option maxRecDepth 100000 in
set_option maxHeartbeats 2000000 in
theorem refWrite2 (h : RefIn w B rp vS vW vP S (List.replicate 5 nilS) (List.replicate 5 false) false false left) (hS : S.length = 5) (s : ByteArray) (hs : s.size = 64) :
    Calls Try.prog 20 #[.pointer (some ⟨rp, 0, none⟩), .int .i64 2, .string s] w fun e w' => e = .returned (.int .i64 0) ∧ ∃ g cp, RefIn w' B rp vS vW vP S (oneW (.slice (some ⟨g, 0, none⟩) 1 cp)) (List.replicate 5 false) false false left ∧
      1 ≤ cp ∧ cp ≤ maxLen ∧ w'.cell? ⟨g, 0, none⟩ = some (.string s) ∧ w.heap.size ≤ g ∧ g < w'.heap.size ∧ Only (RFoot rp vS vW vP) w w' := by
  have hm := refMay_alive h 2 (by omega)
  obtain ⟨c0, c1, c2, _, _, _, cf⟩ := h.cell
  obtain ⟨gw, cw, ew, _, hgw, hcapw, hmaxw, hcw, hfw⟩ := ownsRow_at h.writes (j := 2) (by simp)
  obtain ⟨gp, cpp, ep, _, hgp, hcapp, hmaxp, hcp, hfp⟩ := ownsRow_at h.spoilt (j := 2) (by simp)
  rw [List.length_replicate] at ew ep hcapw hcapp
  rw [show (List.replicate 5 nilS)[2]? = some (.slice none 0 0) from rfl] at hcw
  rw [show ((List.replicate 5 false).map Value.bool)[2]? = some (.bool false) from rfl] at hcp
  rw [ew] at c1
  rw [ep] at c2
  unfold maxLen at hmaxw hmaxp
  obtain ⟨iS, hS0, hS1, hS2, hS3⟩ := info_parts info_str
  have H : Hid (RefIn w B rp vS vW vP S (List.replicate 5 nilS) (List.replicate 5 false) false false left) := h
  have EW : Hid (vW = .slice (some ⟨gw, 0, none⟩) 5 cw) := ew
  have EP : Hid (vP = .slice (some ⟨gp, 0, none⟩) 5 cpp) := ep
  have HSZ : Hid (s.size = 64) := hs
  have HMX : Hid (Try.prog.follows .mixedOrders = true) := by unfold Hid; kernel_rfl
  have hsz : ((s.size : Int) == 64) = true := by rw [beq_iff_eq]; omega
  have OWN : Hid ((w.alloc (.cells #[] 9)).ownsRow w.heap.size 9 1 (.slice (some ⟨w.heap.size, 0, none⟩) 0 0) 0 []) := World.ownsRow_made (base := w.heap.size) (e := 9) (size := 1) w #[] 0 (Nat.le_refl _) (by decide) rfl
  have hrpw : rp < w.heap.size := (h.lt rp (.inl rfl)).2
  have hgwp : gw ≠ rp := fun e => H.out.neW (by rw [EW.out, ← e]; rfl)
  clear h ew ep hs hS c0 cf
  go_enter Try.func20, Try.ntmps20
  go_wp2_with fail
  refine hm.mono ?_
  rintro e w' ⟨rfl, rfl⟩
  clear hm
  go_wp2_with fail
  have hB1 : Below w'.heap.size w' (w'.alloc (.cells #[] 9)).drew := ((Below.refl _ w').alloc (Nat.le_refl _) _).drew
  have hOW1 : Hid ((w'.alloc (.cells #[] 9)).drew.ownsRow w'.heap.size 9 1 (.slice (some ⟨w'.heap.size, 0, none⟩) 0 0) 0 []) := OWN.out
  refine wp_region_held (S := fun W => W.cell? ⟨rp, 1, none⟩ = some (.slice (some ⟨gw, 0, none⟩) 5 cw)) HMX.out ?_
  have hS : (fun W : World => W.cell? ⟨rp, 1, none⟩ = some (.slice (some ⟨gw, 0, none⟩) 5 cw)) (w'.alloc (.cells #[] 9)).drew := (hB1.cell (p := ⟨rp, 1, none⟩) hrpw).trans c1
  change wpAnyH _ _ _ _ _ _ _ _ (w'.alloc (.cells #[] 9)).drew
  generalize hW1 : (w'.alloc (.cells #[] 9)).drew = W1 at hB1 hOW1 hS ⊢
  clear hW1
  refine held_quiet 0 (v := ?v0) rfl (by kernel_rfl) (fun _ _ _ h => h) (by assumption) rfl ?hy0 ?rest0
  case hy0 => (intro wS hSw; (try dsimp only at hSw); go_simp; try with_reducible rfl)
  try simp only [Act.put, List.setIfInBounds_toArray, List.set_cons_zero, List.set_cons_succ]
  refine held_quiet 1 (v := ?v1) rfl (by kernel_rfl) (fun _ _ _ h => h) (by assumption) rfl ?hy1 ?rest1
  case hy1 => (intro wS hSw; (try dsimp only at hSw); go_simp; try with_reducible rfl)
  try simp only [Act.put, List.setIfInBounds_toArray, List.set_cons_zero, List.set_cons_succ]
  refine held_quiet 2 (v := ?v2) rfl (by kernel_rfl) (fun _ _ _ h => h) (by assumption) rfl ?hy2 ?rest2
  case hy2 => (intro wS hSw; (try dsimp only at hSw); go_simp; try with_reducible rfl)
  try simp only [Act.put, List.setIfInBounds_toArray, List.set_cons_zero, List.set_cons_succ]
  refine held_quiet 3 (v := ?v3) rfl (by kernel_rfl) (fun _ _ _ h => h) (by assumption) rfl ?hy3 ?rest3
  case hy3 => (intro wS hSw; (try dsimp only at hSw); go_simp; try with_reducible rfl)
  try simp only [Act.put, List.setIfInBounds_toArray, List.set_cons_zero, List.set_cons_succ]
  refine held_quiet 4 (v := ?v4) rfl (by kernel_rfl) (fun _ _ _ h => h) (by assumption) rfl ?hy4 ?rest4
  case hy4 => (intro wS hSw; (try dsimp only at hSw); go_simp; try with_reducible rfl)
  try simp only [Act.put, List.setIfInBounds_toArray, List.set_cons_zero, List.set_cons_succ]
  refine held_quiet 5 (v := ?v5) rfl (by kernel_rfl) (fun _ _ _ h => h) (by assumption) rfl ?hy5 ?rest5
  case hy5 => (intro wS hSw; (try dsimp only at hSw); go_simp; try with_reducible rfl)
  try simp only [Act.put, List.setIfInBounds_toArray, List.set_cons_zero, List.set_cons_succ]
  refine held_quiet 6 (v := ?v6) rfl (by kernel_rfl) (fun _ _ _ h => h) (by assumption) rfl ?hy6 ?rest6
  case hy6 => (intro wS hSw; (try dsimp only at hSw); go_simp; try with_reducible rfl)
  try simp only [Act.put, List.setIfInBounds_toArray, List.set_cons_zero, List.set_cons_succ]
  refine held_one 7 rfl (by kernel_rfl) ?_
  go_wp2
  have hc1b : (W1.alloc (.cells #[.string s] 9)).cell? ⟨rp, 1, none⟩ = some (.slice (some ⟨gw, 0, none⟩) 5 cw) := ((hB1.alloc hB1.size _).cell (p := ⟨rp, 1, none⟩) hrpw).trans c1
  try refine ⟨hc1b, ?_⟩
  refine held_one 8 rfl (by kernel_rfl) ?_
  refine wpList_append_own _ rfl _ _ 22 rfl w'.heap.size 9 iS (.string ByteArray.empty) 1 16 Try.underlying22 hS0 hS1 hS2 hS3 rfl (by decide) (.slice (some ⟨w'.heap.size, 0, none⟩) 0 0) 0 [] rfl (hOW1.out.alloc _) ⟨W1.heap.size, 0, none⟩ 1 1 [.string s] rfl rfl (cell_one_new _ _ _) (by simp [Value.oneCell']) (by decide) (by decide) (by simp; have := hB1.size; omega) ?_
  intro v' w3 hown3 hg3 _
  obtain ⟨g, cap, rfl⟩ := ownsRow_succ hown3
  obtain ⟨hg2, hgc, _⟩ := row_head hown3 rfl (j := 0) (by omega)
  have hg1 : w'.heap.size ≤ g := (hown3.lt g rfl).1
  obtain ⟨hcap1, hcap2⟩ := row_cap hown3 rfl
  have hgc' : w3.cell? ⟨g, 0, none⟩ = some (.string s) := hgc
  have B3 : Hid (Below w'.heap.size w' w3) := (hB1.alloc hB1.size _).grown hg3 (by simp; have := hB1.size; omega) (fun k hk => by cases hk; exact Nat.le_refl _)
  have hS3 : w3.cell? ⟨rp, 1, none⟩ = some (.slice (some ⟨gw, 0, none⟩) 5 cw) := (B3.out.cell (p := ⟨rp, 1, none⟩) hrpw).trans c1
  have R3 : RefIn w3 B rp vS vW vP S (List.replicate 5 nilS) (List.replicate 5 false) false false left := H.out.only (Only.of_below B3.out (fun _ => False)) (fun _ _ hf => hf)
  have hput := R3.putW (g := gw) (by rw [EW.out]; rfl) 2 (.slice (some ⟨g, 0, none⟩) (0 + 1) cap)
  have R4 : Hid (RefIn (w3.setCell ⟨gw, 2, none⟩ (.slice (some ⟨g, 0, none⟩) (0 + 1) cap)) B rp vS vW vP S (oneW (.slice (some ⟨g, 0, none⟩) 1 cap)) (List.replicate 5 false) false false left) := hput.1
  have O4 : Hid (Only (One gw) w3 (w3.setCell ⟨gw, 2, none⟩ (.slice (some ⟨g, 0, none⟩) (0 + 1) cap))) := hput.2
  have hcw3 := (B3.out.cell (p := ⟨gw, 2, none⟩) hgw).trans hcw
  have hfw3 := (row_head R3.writes EW.out (j := 2) (by simp)).2.2
  have G : Hid (w'.heap.size ≤ g ∧ g < w3.heap.size ∧ 1 ≤ cap ∧ cap ≤ maxLen ∧ w3.cell? ⟨g, 0, none⟩ = some (.string s) ∧ g ≠ gw ∧ g ≠ gp) := ⟨hg1, hg2, hcap1, hcap2, hgc', by omega, by omega⟩
  clear hgc hgc' hput R3 hown3 hg3 hg1 hg2 hcap1 hcap2
  refine ⟨hS3, ?_⟩
  refine held_quiet 9 (v := ?v9) rfl (by kernel_rfl) (fun _ _ _ h => h) (by assumption) rfl ?hy9 ?rest9
  case hy9 => (intro wS hSw; (try dsimp only at hSw); go_simp; try with_reducible rfl)
  try simp only [Act.put, List.setIfInBounds_toArray, List.set_cons_zero, List.set_cons_succ]
  refine held_one 10 rfl (by kernel_rfl) ?_
  go_wp2
  generalize hW4 : w3.setCell ⟨gw, 2, none⟩ (.slice (some ⟨g, 0, none⟩) (0 + 1) cap) = w4 at R4 O4 ⊢
  have c14 := R4.out.cell.2.1
  have c24 := R4.out.cell.2.2.1
  rw [EP.out] at c24
  obtain ⟨hgp4, hcp4, hfp4⟩ := row_head R4.out.spoilt EP.out (j := 2) (by simp)
  rw [show ((List.replicate 5 false).map Value.bool)[2]? = some (.bool false) from rfl] at hcp4
  have hgc4 : Hid (w4.cell? ⟨g, 0, none⟩ = some (.string s)) := (World.cell?_of_block (a := ⟨g, 0, none⟩) (O4.out.block g G.out.2.1 G.out.2.2.2.2.2.1)).trans G.out.2.2.2.2.1
  have hput := R4.out.putP (g := gp) (by rw [EP.out]; rfl) 2 false
  have R5 : Hid (RefIn (w4.setCell ⟨gp, 2, none⟩ (.bool false)) B rp vS vW vP S (oneW (.slice (some ⟨g, 0, none⟩) 1 cap)) (List.replicate 5 false) false false left) := hput.1
  have O5 : Hid (Only (One gp) w4 (w4.setCell ⟨gp, 2, none⟩ (.bool false))) := hput.2
  clear hput hW4
  try refine ⟨by rw [c14, EW.out], ?_⟩
  refine held_done (by kernel_rfl) ?_
  go_wp2_with fail
  refine (refUse_alive R5.out).mono ?_
  rintro e w6 ⟨rfl, rfl⟩
  go_wp2
  go_ret
  have hsz4 : w4.heap.size ≤ (w4.setCell ⟨gp, 2, none⟩ (.bool false)).heap.size := O5.out.size
  have hO : Only (RFoot rp vS vW vP) w' (w4.setCell ⟨gp, 2, none⟩ (.bool false)) :=
    ((Only.of_below B3.out _).then (O4.out.mono fun k hk => by cases hk; exact .inr (.inr (.inl (by rw [EW.out]; rfl))))).then (O5.out.mono fun k hk => by cases hk; exact .inr (.inr (.inr (by rw [EP.out]; rfl))))
  refine ⟨rfl, g, cap, R5.out, G.out.2.2.1, G.out.2.2.2.1, ?_, G.out.1, ?_, hO⟩
  · exact (World.cell?_of_block (a := ⟨g, 0, none⟩) (O5.out.block g (Nat.lt_of_lt_of_le G.out.2.1 O4.out.size) G.out.2.2.2.2.2.2)).trans hgc4.out
  · exact Nat.lt_of_lt_of_le G.out.2.1 (Nat.le_trans O4.out.size O5.out.size)
end
end Go.Proofs.Ytpflfdbkndomfaa
