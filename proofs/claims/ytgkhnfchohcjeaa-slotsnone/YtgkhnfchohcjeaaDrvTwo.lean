/- The walks of a drive's functions that turn its own cells alone: spending, dying, losing its power, a sector that is spoilt. -/
import Derived.Test.YtgkhnfchohcjeaaDrvOne
namespace Go.Proofs.Ytgkhnfchohcjeaa
open Go.RowKit Go.Maps

def One (p : Nat) : Nat → Prop := fun k => k = p
theorem DrvIn.turn {w w' : World} {p sb pb mb : Nat} {hd : Nat → Value} {D D' : Dr} (h : DrvIn w p sb pb mb hd D) (hg : Only (One p) w w')
    (hself : w'.heap[p]? = some (.cells #[.slice (some ⟨sb, 0, none⟩) D'.safe.length D'.safe.length, .slice (some ⟨pb, 0, none⟩) D'.safe.length D'.safe.length, .map (some mb), .bool D'.dead, .bool D'.goes, .int .i64 D'.left] 55 (0, 0)))
    (ok : D'.Ok) (e1 : D'.safe = D.safe) (e2 : D'.spoilt = D.spoilt) (e3 : D'.writes = D.writes) : DrvIn w' p sb pb mb hd D' := by
  have ho := h.others
  obtain ⟨c1, hs, hs2⟩ := h.safe
  obtain ⟨c2, hp, hp2⟩ := h.spoilt
  obtain ⟨M, hM⟩ := h.map
  have lt := h.lt
  refine ⟨ok, hself, ⟨c1, (hg.block sb (lt sb (.inr (.inl rfl))) (fun e => ho.p_sb e.symm)).trans hs, by rw [e1]; exact hs2⟩, ⟨c2, (hg.block pb (lt pb (.inr (.inr (.inl rfl)))) (fun e => ho.p_pb e.symm)).trans hp, by rw [e2]; exact hp2⟩, ⟨M, ?_⟩, ?_, ?_, h.off, h.apart⟩
  · have h1 := hM.only hg (fun e => ho.p_mb e.symm)
    exact ⟨h1.owns, by rw [e1]; exact h1.at_, by rw [e1, e3]; exact h1.has, by rw [e1]; exact h1.keys⟩
  · intro i; rw [e3]
    exact ownsRow_only hg (h.rows i) (fun k hk e => ho.r_p i (by rw [hk]; exact congrArg some e))
  · rw [e3]; exact h.nil
/-- one more of the drive's own cells has turned -/
theorem turn1 {w : World} {p j : Nat} {cs : Array Value} {t : TypeId} {v : Value} (h : w.heap[p]? = some (.cells cs t (0, 0))) : Only (One p) w (w.setCell ⟨p, j, none⟩ v) ∧ (w.setCell ⟨p, j, none⟩ v).heap[p]? = some (.cells (cs.setIfInBounds j v) t (0, 0)) :=
  ⟨Only.setCell _ w ⟨p, j, none⟩ v rfl, heap_setCell_same w p j cs t v h⟩
theorem One.in {w w' : World} {p : Nat} {F : Nat → Prop} (h : Only (One p) w w') (hF : F p) : Only F w w' := h.mono fun k hk => by rw [hk]; exact hF

set_option maxHeartbeats 400000 in
theorem spend_any {w : World} {p : Nat} {D : Dr} {F : Nat → Prop} (h : DriveAt w p D F) (hr : D.runsE = 0) :
    Calls Try.prog 30 #[.pointer (some ⟨p, 0, none⟩)] w fun e w' => e = .returned (.tuple #[]) ∧ DriveAt w' p D.spend F ∧ Only F w w' := by
  obtain ⟨sb, pb, mb, hd, hin, hf⟩ := h
  have c4 := hin.cells.c4
  have c5 := hin.cells.c5
  have f5 := hin.cells.f 5
  have hle := hin.ok.left
  obtain ⟨n, hn⟩ : ∃ n, n = D.left := ⟨_, rfl⟩
  cases hg : D.goes with
  | false =>
    have e : D.spend = D := by cases D; simp only at hg; subst hg; rfl
    rw [e]
    rw [hg] at c4
    have H : Hid (DrvIn w p sb pb mb hd D) := hin
    clear hin hr hn e hg
    go_enter Try.func30, Try.ntmps30
    go_wp2
    go_end0
    exact ⟨rfl, ⟨sb, pb, mb, hd, H.out, hf⟩, Only.refl _ _⟩
  | true =>
    have hpos : 1 ≤ n := by
      unfold Dr.runsE at hr
      rw [hg, ← hn] at hr
      cases n with
      | zero => split at hr <;> simp at hr
      | succ m => omega
    rw [hg] at c4
    rw [← hn] at c5 hle
    have H : Hid (DrvIn w p sb pb mb hd D) := hin
    have N : Hid (n = D.left) := hn
    have G : Hid (D.goes = true) := hg
    clear hin hr hn hg
    go_enter Try.func30, Try.ntmps30
    go_wp2
    go_end0
    obtain ⟨g1, g2⟩ := turn1 (j := 5) (v := .int .i64 ((n : Int) - 1)) H.out.self
    have e5 : D.spend.left = n - 1 := by show (if D.goes then D.left - 1 else D.left) = _; rw [G.out, N.out]; rfl
    have e6 : (n : Int) - 1 = (D.spend.left : Nat) := by rw [e5]; omega
    refine ⟨rfl, ⟨sb, pb, mb, hd, H.out.turn g1 (by rw [g2, e6]; rfl) H.out.ok.spend rfl rfl rfl, hf⟩, One.in g1 (hf p (.inl rfl))⟩

set_option maxHeartbeats 400000 in
theorem spoil_no {w : World} {p : Nat} {D : Dr} {F : Nat → Prop} (h : DriveAt w p D F) (i : Int) (hr : D.reachE i ≠ 0) :
    Calls Try.prog 12 #[.pointer (some ⟨p, 0, none⟩), .int .i64 i] w fun e w' => e = .returned (.int .i64 (D.reachE i : Nat)) ∧ w' = w := by
  have hc := reaches_any h i
  have hle := reachE_le D i
  obtain ⟨r, er⟩ : ∃ r, r = D.reachE i := ⟨_, rfl⟩
  rw [← er] at hc hr hle ⊢
  have hne : ((r : Int) == 0) = false := by rw [beq_eq_false_iff_ne]; omega
  clear er
  go_enter Try.func12, Try.ntmps12
  go_wp2_with fail
  refine hc.mono ?_
  rintro e w' ⟨rfl, rfl⟩
  go_wp2
  go_ret
  exact ⟨rfl, rfl⟩

/-- one of the marks of what is spoilt has turned -/
theorem DrvIn.mark {w : World} {p sb pb mb : Nat} {hd : Nat → Value} {D : Dr} (h : DrvIn w p sb pb mb hd D) (i : Nat) (b : Bool) : DrvIn (w.setCell ⟨pb, i, none⟩ (.bool b)) p sb pb mb hd { D with spoilt := D.spoilt.set i b } := by
  have ho := h.others
  obtain ⟨c1, hs, hs2⟩ := h.safe
  obtain ⟨c2, hp, hp2⟩ := h.spoilt
  obtain ⟨M, hM⟩ := h.map
  have lt := h.lt
  have hg : Only (One pb) w (w.setCell ⟨pb, i, none⟩ (.bool b)) := Only.setCell _ w ⟨pb, i, none⟩ _ rfl
  refine ⟨⟨h.ok.pos, h.ok.le, by show (D.spoilt.set i b).length = _; rw [List.length_set]; exact h.ok.spoilt, h.ok.sector, h.ok.writes, h.ok.out, h.ok.left⟩, (hg.block p (lt p (.inl rfl)) (fun e => ho.p_pb e)).trans h.self, ⟨c1, (hg.block sb (lt sb (.inr (.inl rfl))) (fun e => ho.sb_pb e)).trans hs, hs2⟩, ⟨_, heap_setCell_same w pb i c2 _ _ hp, ?_⟩, ⟨M, ?_⟩, ?_, h.nil, h.off, h.apart⟩
  · rw [Array.toList_setIfInBounds, hp2]
    simp
  · have h1 := hM.only hg (fun e => ho.pb_mb e.symm)
    exact ⟨h1.owns, h1.at_, h1.has, h1.keys⟩
  · intro j
    exact ownsRow_only hg (h.rows j) (fun k hk e => ho.r_pb j (by rw [hk]; exact congrArg some e))
theorem DrvIn.markAt {w : World} {p sb pb mb : Nat} {hd : Nat → Value} {D : Dr} (h : DrvIn w p sb pb mb hd D) {i : Nat} (hi : i < D.safe.length) : w.cell? ⟨pb, i, none⟩ = some (.bool (D.spoilt.getD i false)) ∧ w.frozen? ⟨pb, i, none⟩ = false := by
  obtain ⟨c2, hp, hp2⟩ := h.spoilt
  have hl := h.ok.spoilt
  rw [cell_of_row w pb i _ _ _ hp, frozen_of_row w pb i _ _ hp]
  refine ⟨?_, rfl⟩
  rw [← Array.getElem?_toList, hp2, List.getElem?_map, List.getElem?_eq_getElem (by omega), List.getD_eq_getElem?_getD, List.getElem?_eq_getElem (by omega)]
  rfl
theorem reachE_yes {D : Dr} (hr : D.runsE = 0) {i : Nat} (hi : i < D.safe.length) : D.reachE i = 0 := by
  unfold Dr.reachE Dr.hasB; rw [if_pos hr]; simp [hi]

set_option maxHeartbeats 400000 in
theorem spoil_yes {w : World} {p : Nat} {D : Dr} {F : Nat → Prop} (h : DriveAt w p D F) (i : Nat) (hr : D.runsE = 0) (hi : i < D.safe.length) :
    Calls Try.prog 12 #[.pointer (some ⟨p, 0, none⟩), .int .i64 (i : Nat)] w fun e w' => e = .returned (.int .i64 0) ∧ DriveAt w' p (D.spoil i) F ∧ Only F w w' := by
  have hc := reaches_any h i
  rw [reachE_yes hr hi] at hc
  obtain ⟨sb, pb, mb, hd, hin, hf⟩ := h
  have c1 := hin.cells.c1
  obtain ⟨cs, fs⟩ := hin.markAt hi
  have hle := hin.ok.le
  have H : Hid (DrvIn w p sb pb mb hd D) := hin
  obtain ⟨n, hn⟩ : ∃ n, n = D.safe.length := ⟨_, rfl⟩
  rw [← hn] at c1 hle hi
  obtain ⟨b0, hb0⟩ : ∃ b0, b0 = D.spoilt.getD i false := ⟨_, rfl⟩
  rw [← hb0] at cs
  clear hin hr hn hb0
  go_enter Try.func12, Try.ntmps12
  go_wp2_with fail
  refine hc.mono ?_
  rintro e w' ⟨rfl, rfl⟩
  go_wp2
  go_ret
  exact ⟨rfl, ⟨sb, pb, mb, hd, H.out.mark i true, hf⟩, (Only.setCell (One pb) w' ⟨pb, i, none⟩ _ rfl).mono fun k hk => by rw [hk]; exact hf pb (.inr (.inr (.inl rfl)))⟩
end Go.Proofs.Ytgkhnfchohcjeaa
