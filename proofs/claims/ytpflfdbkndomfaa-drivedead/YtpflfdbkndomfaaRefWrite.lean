/- The walks of the document's own may, off, use, Write and Flush, as DriveDead begins with them. -/
import Derived.Test.YtpflfdbkndomfaaRefNew
import Derived.Test.YtpflfdbkndomfaaDrvSettle
namespace Go.Proofs.Ytpflfdbkndomfaa
open Go.RowKit Go.Maps

section
variable {w : World} {B rp : Nat} {vS vW vP : Value} {S : List ByteArray} {Wl : List Value} {Pl : List Bool} {gone cut : Bool} {left : Int}
/-- an element of a row of the call's own is turned -/
theorem ownsRow_put {w : World} {b e n : Nat} {v : Value} {xs : List Value} (h : w.ownsRow b e 1 v n xs) {g : Nat} (hg : v.ownBlock = some g) (j : Nat) (u : Value) : (w.setCell ⟨g, j, none⟩ u).ownsRow b e 1 v n (xs.set j u) := by
  refine ⟨by rw [List.length_set]; exact h.1, ?_⟩
  rcases h.2 with ⟨rfl, _⟩ | ⟨g', cap, cur, rfl, hb, hc, hn, hm, hs, ht⟩
  · simp [Value.ownBlock] at hg
  · simp [Value.ownBlock] at hg; subst hg
    refine .inr ⟨g', cap, _, rfl, hb, heap_setCell_same w g' j cur e u hc, hn, hm, by simpa using hs, ?_⟩
    rw [Array.toList_setIfInBounds, List.take_set, ht]
theorem ownsRow_at {w : World} {b e n : Nat} {v : Value} {xs : List Value} (h : w.ownsRow b e 1 v n xs) {j : Nat} (hj : j < n) : ∃ g cap, v = .slice (some ⟨g, 0, none⟩) n cap ∧ b ≤ g ∧ g < w.heap.size ∧ n ≤ cap ∧ cap ≤ maxLen ∧ w.cell? ⟨g, j, none⟩ = xs[j]? ∧ w.frozen? ⟨g, j, none⟩ = false := by
  rcases h.2 with ⟨_, rfl⟩ | ⟨g, cap, cur, rfl, hb, hc, hn, hm, hs, ht⟩
  · omega
  · refine ⟨g, cap, rfl, hb, (Array.getElem?_eq_some_iff.1 hc).1, hn, hm, ?_, frozen_of_row w g j cur e hc⟩
    rw [cell_of_row w g j cur e _ hc, ← ht, List.getElem?_take, if_pos (by omega)]; simp

set_option maxHeartbeats 400000 in
theorem refOff_alive (h : RefIn w B rp vS vW vP S Wl Pl gone false left) : Calls Try.prog 39 #[.pointer (some ⟨rp, 0, none⟩)] w fun e w' => e = .returned (.bool false) ∧ w' = w := by
  obtain ⟨_, _, _, _, c4, c5, _⟩ := h.cell
  clear h
  go_enter Try.func39, Try.ntmps39
  go_wp2
  go_ret
  exact ⟨rfl, rfl⟩
set_option maxHeartbeats 400000 in
theorem refUse_alive (h : RefIn w B rp vS vW vP S Wl Pl gone false left) : Calls Try.prog 38 #[.pointer (some ⟨rp, 0, none⟩)] w fun e w' => e = .returned (.tuple #[]) ∧ w' = w := by
  obtain ⟨_, _, _, _, c4, c5, _⟩ := h.cell
  clear h
  go_enter Try.func38, Try.ntmps38
  go_wp2
  go_end0
  exact ⟨rfl, rfl⟩
set_option maxHeartbeats 400000 in
theorem refMay_alive (h : RefIn w B rp vS vW vP S Wl Pl false false left) (i : Nat) (hi : i < S.length) : Calls Try.prog 37 #[.pointer (some ⟨rp, 0, none⟩), .int .i64 (i : Nat)] w fun e w' => e = .returned (.int .i64 0) ∧ w' = w := by
  have ho := refOff_alive h
  obtain ⟨c0, _, _, c3, _, _, _⟩ := h.cell
  obtain ⟨g, cap, e, _, _, hcap, hmax, _, _⟩ := ownsRow_at h.safes hi
  rw [e] at c0
  unfold maxLen at hmax
  obtain ⟨n, hn⟩ : ∃ n, n = S.length := ⟨_, rfl⟩
  rw [← hn] at c0 hi hcap
  clear h e hn
  go_enter Try.func37, Try.ntmps37
  go_wp2_with fail
  refine ho.mono ?_
  rintro e w' ⟨rfl, rfl⟩
  go_wp2
  go_ret
  exact ⟨rfl, rfl⟩
set_option maxHeartbeats 400000 in
theorem refMay_dead (h : RefIn w B rp vS vW vP S Wl Pl true cut left) (i : Int) : Calls Try.prog 37 #[.pointer (some ⟨rp, 0, none⟩), .int .i64 i] w fun e w' => e = .returned (.int .i64 40) ∧ w' = w := by
  obtain ⟨_, _, _, c3, _, _, _⟩ := h.cell
  clear h
  go_enter Try.func37, Try.ntmps37
  go_wp2
  go_ret
  exact ⟨rfl, rfl⟩
set_option maxHeartbeats 400000 in
theorem refWrite_dead (h : RefIn w B rp vS vW vP S Wl Pl true cut left) (i : Int) (s : ByteArray) : Calls Try.prog 20 #[.pointer (some ⟨rp, 0, none⟩), .int .i64 i, .string s] w fun e w' => e = .returned (.int .i64 40) ∧ w' = w := by
  have hm := refMay_dead h i
  clear h
  go_enter Try.func20, Try.ntmps20
  go_wp2_with fail
  refine hm.mono ?_
  rintro e w' ⟨rfl, rfl⟩
  go_wp2
  go_ret
  exact ⟨rfl, rfl⟩
set_option maxHeartbeats 400000 in
theorem refRead_dead (h : RefIn w B rp vS vW vP S Wl Pl true cut left) (i : Int) : Calls Try.prog 41 #[.pointer (some ⟨rp, 0, none⟩), .int .i64 i] w fun e w' => e = .returned (.tuple #[.string ⟨#[]⟩, .int .i64 40]) ∧ w' = w := by
  have hm := refMay_dead h i
  clear h
  go_enter Try.func41, Try.ntmps41
  go_wp2_with fail
  refine hm.mono ?_
  rintro e w' ⟨rfl, rfl⟩
  go_wp2
  go_ret2
  exact ⟨rfl, rfl⟩
set_option maxHeartbeats 400000 in
theorem refFlush_dead (h : RefIn w B rp vS vW vP S Wl Pl true cut left) : Calls Try.prog 21 #[.pointer (some ⟨rp, 0, none⟩)] w fun e w' => e = .returned (.int .i64 40) ∧ w' = w := by
  obtain ⟨_, _, _, c3, _, _, _⟩ := h.cell
  clear h
  go_enter Try.func21, Try.ntmps21
  go_wp2
  go_ret
  exact ⟨rfl, rfl⟩
set_option maxHeartbeats 400000 in
theorem refSpoil_dead (h : RefIn w B rp vS vW vP S Wl Pl true cut left) (i : Int) : Calls Try.prog 43 #[.pointer (some ⟨rp, 0, none⟩), .int .i64 i] w fun e w' => e = .returned (.int .i64 40) ∧ w' = w := by
  have hm := refMay_dead h i
  clear h
  go_enter Try.func43, Try.ntmps43
  go_wp2_with fail
  refine hm.mono ?_
  rintro e w' ⟨rfl, rfl⟩
  go_wp2
  go_ret
  exact ⟨rfl, rfl⟩
set_option maxHeartbeats 400000 in
theorem refChange_dead (h : RefIn w B rp vS vW vP S Wl Pl true cut left) (i : Int) (s : ByteArray) : Calls Try.prog 44 #[.pointer (some ⟨rp, 0, none⟩), .int .i64 i, .string s] w fun e w' => e = .returned (.int .i64 40) ∧ w' = w := by
  have hm := refMay_dead h i
  clear h
  go_enter Try.func44, Try.ntmps44
  go_wp2_with fail
  refine hm.mono ?_
  rintro e w' ⟨rfl, rfl⟩
  go_wp2
  go_ret
  exact ⟨rfl, rfl⟩
set_option maxHeartbeats 400000 in
theorem refOffCall (h : RefIn w B rp vS vW vP S Wl Pl gone cut left) (a : Int) : Calls Try.prog 45 #[.pointer (some ⟨rp, 0, none⟩), .int .i64 a] w fun e w' => e = .returned (.tuple #[]) ∧ RefIn w' B rp vS vW vP S Wl Pl gone true (a.toNat : Nat) ∧ Only (One rp) w w' := by
  obtain ⟨_, _, _, _, c4, c5, cf⟩ := h.cell
  have f4 := cf 4
  have f5 := cf 5
  obtain ⟨m, hm⟩ : ∃ m : Nat, m = a.toNat := ⟨_, rfl⟩
  have hmax : ∀ (ts : Array TypeId) (ty : TypeId) (W : World), (Builtin.max_ ts ty #[.int .i64 a, .int .i64 0]).run Try.prog W = .ok (.int .i64 (m : Int)) W := by
    intro ts ty W
    simp [Builtin.max_, Builtin.max2]
    omega
  have H : Hid (RefIn w B rp vS vW vP S Wl Pl gone cut left) := h
  have E : Hid (m = a.toNat) := hm
  clear hm h cf
  go_enter Try.func45, Try.ntmps45
  go_wp2
  go_end0
  obtain ⟨g1, g2⟩ := turn1 (j := 4) (v := .bool true) H.out.self
  obtain ⟨k1, k2⟩ := turn1 (j := 5) (v := .int .i64 (m : Nat)) g2
  refine ⟨rfl, H.out.turn (g1.then k1) (by rw [k2, ← E.out]; rfl), g1.then k1⟩
set_option maxHeartbeats 400000 in
theorem refSafe_no (h : RefIn w B rp vS vW vP S Wl Pl gone cut left) (i : Int) (hi : i < 0 ∨ (S.length : Int) ≤ i) (hS : 0 < S.length) : Calls Try.prog 46 #[.pointer (some ⟨rp, 0, none⟩), .int .i64 i] w fun e w' => e = .returned (.tuple #[.string ⟨#[]⟩, .int .i64 70]) ∧ w' = w := by
  obtain ⟨c0, _⟩ := h.cell
  obtain ⟨g, cap, e, _, _, hcap, hmax, _, _⟩ := ownsRow_at h.safes hS
  rw [e] at c0
  unfold maxLen at hmax
  obtain ⟨n, hn⟩ : ∃ n, n = S.length := ⟨_, rfl⟩
  rw [← hn] at c0 hi hcap hS
  clear h e hn
  by_cases h0 : i < 0
  · go_enter Try.func46, Try.ntmps46
    go_wp2
    go_ret2
    exact ⟨rfl, rfl⟩
  · have h1 : (n : Int) ≤ i := by omega
    clear hi
    go_enter Try.func46, Try.ntmps46
    go_wp2
    go_ret2
    exact ⟨rfl, rfl⟩
set_option maxHeartbeats 400000 in
theorem refSafe_yes (h : RefIn w B rp vS vW vP S Wl Pl gone cut left) (i : Nat) (hi : i < S.length) : Calls Try.prog 46 #[.pointer (some ⟨rp, 0, none⟩), .int .i64 (i : Nat)] w fun e w' => e = .returned (.tuple #[.string (S.getD i ByteArray.empty), .int .i64 0]) ∧ w' = w := by
  obtain ⟨c0, _⟩ := h.cell
  obtain ⟨g, cap, e, _, _, hcap, hmax, hc, _⟩ := ownsRow_at h.safes hi
  rw [e] at c0
  have hx : (S.map Value.string)[i]? = some (.string (S.getD i ByteArray.empty)) := by simp [hi]
  rw [hx] at hc
  unfold maxLen at hmax
  obtain ⟨n, hn⟩ : ∃ n, n = S.length := ⟨_, rfl⟩
  obtain ⟨x, ex⟩ : ∃ x, x = S.getD i ByteArray.empty := ⟨_, rfl⟩
  rw [← hn] at c0 hi hcap
  rw [← ex] at hc ⊢
  clear h e hn hx ex
  go_enter Try.func46, Try.ntmps46
  go_wp2
  go_ret2
  exact ⟨rfl, rfl⟩
end
end Go.Proofs.Ytpflfdbkndomfaa
