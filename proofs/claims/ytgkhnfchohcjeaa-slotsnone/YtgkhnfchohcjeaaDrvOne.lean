/- The walks of a drive's small functions: which state it is in, whether a sector is there, what a write spends, dying. -/
import Derived.Test.YtgkhnfchohcjeaaDrvAt
namespace Go.Proofs.Ytgkhnfchohcjeaa
open Go.RowKit Go.Maps

theorem bcell {W w1 : World} (hb : Below W.heap.size W w1) : (∀ b o, b < W.heap.size → w1.cell? ⟨b, o, none⟩ = W.cell? ⟨b, o, none⟩) ∧ (∀ b o, b < W.heap.size → w1.frozen? ⟨b, o, none⟩ = W.frozen? ⟨b, o, none⟩) :=
  ⟨fun b o h => hb.cell (p := ⟨b, o, none⟩) h, fun b o h => hb.frozen (p := ⟨b, o, none⟩) h⟩

/-- a drive's own cells -/
structure Cells (w : World) (p sb pb mb : Nat) (D : Dr) : Prop where
  c0 : w.cell? ⟨p, 0, none⟩ = some (.slice (some ⟨sb, 0, none⟩) D.safe.length D.safe.length)
  c1 : w.cell? ⟨p, 1, none⟩ = some (.slice (some ⟨pb, 0, none⟩) D.safe.length D.safe.length)
  c2 : w.cell? ⟨p, 2, none⟩ = some (.map (some mb))
  c3 : w.cell? ⟨p, 3, none⟩ = some (.bool D.dead)
  c4 : w.cell? ⟨p, 4, none⟩ = some (.bool D.goes)
  c5 : w.cell? ⟨p, 5, none⟩ = some (.int .i64 D.left)
  f : ∀ j, w.frozen? ⟨p, j, none⟩ = false
theorem DrvIn.cells {w : World} {p sb pb mb : Nat} {hd : Nat → Value} {D : Dr} (h : DrvIn w p sb pb mb hd D) : Cells w p sb pb mb D :=
  ⟨by rw [cell_of_row w p 0 _ _ _ h.self]; rfl, by rw [cell_of_row w p 1 _ _ _ h.self]; rfl, by rw [cell_of_row w p 2 _ _ _ h.self]; rfl, by rw [cell_of_row w p 3 _ _ _ h.self]; rfl,
   by rw [cell_of_row w p 4 _ _ _ h.self]; rfl, by rw [cell_of_row w p 5 _ _ _ h.self]; rfl, fun j => frozen_of_row w p j _ _ h.self⟩

set_option maxHeartbeats 400000 in
theorem has_any {w : World} {p : Nat} {D : Dr} {F : Nat → Prop} (h : DriveAt w p D F) (i : Int) :
    Calls Try.prog 36 #[.pointer (some ⟨p, 0, none⟩), .int .i64 i] w fun e w' => e = .returned (.bool (D.hasB i)) ∧ w' = w := by
  obtain ⟨sb, pb, mb, hd, hin, _⟩ := h
  have hc := hin.cells
  have c0 := hc.c0
  have hle := hin.ok.le
  obtain ⟨n, hn⟩ : ∃ n, n = D.safe.length := ⟨_, rfl⟩
  have E : Hid (D.hasB i = (decide (0 ≤ i) && decide (i < (n : Int)))) := by rw [hn]; rfl
  rw [← hn] at c0 hle
  clear hc hin hn
  by_cases h0 : 0 ≤ i
  · by_cases h1 : i < (n : Int)
    · go_enter Try.func36, Try.ntmps36
      go_wp2
      go_ret
      exact ⟨ret_bool (by rw [E.out]; simp [h0, h1]), rfl⟩
    · go_enter Try.func36, Try.ntmps36
      go_wp2
      go_ret
      exact ⟨ret_bool (by rw [E.out]; simp [h0, h1]), rfl⟩
  · go_enter Try.func36, Try.ntmps36
    go_wp2
    go_ret
    exact ⟨ret_bool (by rw [E.out]; simp; omega), rfl⟩

set_option maxHeartbeats 400000 in
theorem runs_any {w : World} {p : Nat} {D : Dr} {F : Nat → Prop} (h : DriveAt w p D F) :
    Calls Try.prog 35 #[.pointer (some ⟨p, 0, none⟩)] w fun e w' => e = .returned (.int .i64 (D.runsE : Nat)) ∧ w' = w := by
  obtain ⟨sb, pb, mb, hd, hin, _⟩ := h
  have hc := hin.cells
  have c3 := hc.c3
  have c4 := hc.c4
  have c5 := hc.c5
  have hle := hin.ok.left
  obtain ⟨n, hn⟩ : ∃ n, n = D.left := ⟨_, rfl⟩
  rw [← hn] at c5 hle
  clear hc hin
  cases hd : D.dead with
  | true =>
    have E : Hid (D.runsE = 40) := by unfold Hid Dr.runsE; rw [hd]; rfl
    rw [hd] at c3
    clear hn hd
    go_enter Try.func35, Try.ntmps35
    go_wp2
    go_ret
    exact ⟨ret_int (by rw [E.out]; rfl), rfl⟩
  | false =>
    cases hg : D.goes with
    | false =>
      have E : Hid (D.runsE = 0) := by unfold Hid Dr.runsE; rw [hd, hg]; rfl
      rw [hd] at c3
      rw [hg] at c4
      clear hn hd hg
      go_enter Try.func35, Try.ntmps35
      go_wp2
      go_ret
      exact ⟨ret_int (by rw [E.out]; rfl), rfl⟩
    | true =>
      by_cases h0 : n = 0
      · have E : Hid (D.runsE = 42) := by unfold Hid Dr.runsE; rw [hd, hg, ← hn, h0]; rfl
        rw [hd] at c3
        rw [hg] at c4
        subst h0
        clear hn hd hg
        go_enter Try.func35, Try.ntmps35
        go_wp2
        go_ret
        exact ⟨ret_int (by rw [E.out]; rfl), rfl⟩
      · have E : Hid (D.runsE = 0) := by
          unfold Hid Dr.runsE; rw [hd, hg, ← hn]
          have : (n == 0) = false := by simpa using h0
          rw [this]; rfl
        have hne : ((n : Int) == 0) = false := by rw [beq_eq_false_iff_ne]; omega
        rw [hd] at c3
        rw [hg] at c4
        clear hn hd hg
        go_enter Try.func35, Try.ntmps35
        go_wp2
        go_ret
        exact ⟨ret_int (by rw [E.out]; rfl), rfl⟩

theorem runsE_le (D : Dr) : D.runsE ≤ 42 := by unfold Dr.runsE; (repeat' split) <;> omega

set_option maxHeartbeats 400000 in
theorem reaches_any {w : World} {p : Nat} {D : Dr} {F : Nat → Prop} (h : DriveAt w p D F) (i : Int) :
    Calls Try.prog 22 #[.pointer (some ⟨p, 0, none⟩), .int .i64 i] w fun e w' => e = .returned (.int .i64 (D.reachE i : Nat)) ∧ w' = w := by
  have hr := runs_any h
  have hh := has_any h i
  obtain ⟨r, er⟩ : ∃ r, r = D.runsE := ⟨_, rfl⟩
  rw [← er] at hr
  by_cases h0 : r = 0
  · cases hb : D.hasB i with
    | true =>
      have E : Hid (D.reachE i = 0) := by unfold Hid Dr.reachE; rw [← er, if_pos h0, hb]; rfl
      rw [hb] at hh
      subst h0
      clear er hb
      go_enter Try.func22, Try.ntmps22
      go_wp2_with fail
      refine hr.mono ?_
      rintro e w' ⟨rfl, rfl⟩
      go_wp2_with fail
      refine hh.mono ?_
      rintro e w' ⟨rfl, rfl⟩
      go_wp2
      go_ret
      exact ⟨ret_int (by rw [E.out]; rfl), rfl⟩
    | false =>
      have E : Hid (D.reachE i = 70) := by unfold Hid Dr.reachE; rw [← er, if_pos h0, hb]; rfl
      rw [hb] at hh
      subst h0
      clear er hb
      go_enter Try.func22, Try.ntmps22
      go_wp2_with fail
      refine hr.mono ?_
      rintro e w' ⟨rfl, rfl⟩
      go_wp2_with fail
      refine hh.mono ?_
      rintro e w' ⟨rfl, rfl⟩
      go_wp2
      go_ret
      exact ⟨ret_int (by rw [E.out]; rfl), rfl⟩
  · have E : Hid (D.reachE i = r) := by unfold Hid Dr.reachE; rw [← er, if_neg h0]
    have hne : ((r : Int) == 0) = false := by rw [beq_eq_false_iff_ne]; omega
    have hle : r ≤ 42 := by rw [er]; exact runsE_le D
    clear er
    go_enter Try.func22, Try.ntmps22
    go_wp2_with fail
    refine hr.mono ?_
    rintro e w' ⟨rfl, rfl⟩
    go_wp2
    go_ret
    exact ⟨ret_int (by rw [E.out]), rfl⟩

theorem reachE_le (D : Dr) (i : Int) : D.reachE i ≤ 70 := by have := runsE_le D; unfold Dr.reachE; (repeat' split) <;> omega

set_option maxHeartbeats 400000 in
theorem takes_any {w : World} {p : Nat} {D : Dr} {F : Nat → Prop} (h : DriveAt w p D F) (i : Int) (s : ByteArray) :
    Calls Try.prog 28 #[.pointer (some ⟨p, 0, none⟩), .int .i64 i, .string s] w fun e w' => e = .returned (.int .i64 (D.takeE i s.size : Nat)) ∧ w' = w := by
  have hr := reaches_any h i
  obtain ⟨r, er⟩ : ∃ r, r = D.reachE i := ⟨_, rfl⟩
  rw [← er] at hr
  by_cases h0 : r = 0
  · by_cases hs : s.size = 64
    · have E : Hid (D.takeE i s.size = 0) := by unfold Hid Dr.takeE; rw [← er, if_pos h0, if_pos hs]
      have hne : ((s.size : Int) == 64) = true := by rw [beq_iff_eq]; omega
      subst h0
      have Hs : Hid (s.size = 64) := hs
      clear er hs
      go_enter Try.func28, Try.ntmps28
      go_wp2_with fail
      refine hr.mono ?_
      rintro e w' ⟨rfl, rfl⟩
      go_wp2
      go_ret
      exact ⟨ret_int (by rw [E.out]; rfl), rfl⟩
    · have E : Hid (D.takeE i s.size = 1) := by unfold Hid Dr.takeE; rw [← er, if_pos h0, if_neg hs]
      have hne : ((s.size : Int) == 64) = false := by rw [beq_eq_false_iff_ne]; omega
      subst h0
      clear er hs
      go_enter Try.func28, Try.ntmps28
      go_wp2_with fail
      refine hr.mono ?_
      rintro e w' ⟨rfl, rfl⟩
      go_wp2
      go_ret
      exact ⟨ret_int (by rw [E.out]; rfl), rfl⟩
  · have E : Hid (D.takeE i s.size = r) := by unfold Hid Dr.takeE; rw [← er, if_neg h0]
    have hne : ((r : Int) == 0) = false := by rw [beq_eq_false_iff_ne]; omega
    have hle : r ≤ 70 := by rw [er]; exact reachE_le D i
    clear er
    go_enter Try.func28, Try.ntmps28
    go_wp2_with fail
    refine hr.mono ?_
    rintro e w' ⟨rfl, rfl⟩
    go_wp2
    go_ret
    exact ⟨ret_int (by rw [E.out]), rfl⟩

set_option maxHeartbeats 400000 in
theorem dead_any {w : World} {p : Nat} {D : Dr} {F : Nat → Prop} (h : DriveAt w p D F) :
    Calls Try.prog 19 #[.pointer (some ⟨p, 0, none⟩)] w fun e w' => e = .returned (.bool D.dead) ∧ w' = w := by
  obtain ⟨sb, pb, mb, hd, hin, _⟩ := h
  have c3 := hin.cells.c3
  obtain ⟨b, hb⟩ : ∃ b, b = D.dead := ⟨_, rfl⟩
  rw [← hb] at c3 ⊢
  clear hin hb
  go_enter Try.func19, Try.ntmps19
  go_wp2
  go_ret
  exact ⟨rfl, rfl⟩
end Go.Proofs.Ytgkhnfchohcjeaa
