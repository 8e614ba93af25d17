/- The document's own plans: the walks of has and roles. -/
import Derived.Test.YtlkbdhejfmljlaaDoorPlMath
import Derived.Test.YtlkbdhejfmljlaaDoorKitRow
import Derived.Deep.LoopGhost
import Derived.BigQuiet
import Derived.Deep.QuietTactic
namespace Go.Proofs.YtlkbdhejfmljlaaDoor
open Go.RowKit
attribute [local go_sem] Oper.semAt_some

set_option maxRecDepth 100000 in
set_option maxHeartbeats 2000000 in
theorem rhas15_any (w : World) (a : Option Addr) (cap : Nat) (L : List Int) (hn : L.length ≤ 1000000) (hR : RowI .i64 w a L.length (fun j => L.getD j 0)) (x : Int) :
    Calls Tryd.prog 23 #[.slice a L.length cap, .int .i64 x] w fun r w' => r = .returned (.bool (Pl.hasB L x)) ∧ w' = w := by
  obtain ⟨n, hne⟩ : ∃ n, n = L.length := ⟨_, rfl⟩
  rw [← hne] at hR hn ⊢
  have HR : Hid (RowI .i64 w a n (fun j => L.getD j 0)) := hR
  have HN : Hid (n = L.length) := hne
  clear hR hne
  go_enter Tryd.func23, Tryd.ntmps23
  go_wp2_with fail
  go_loopg [5] n (fun g i wr => ∃ t : Nat, t ≤ n ∧ g = n - t ∧ i = .int .i64 (t : Int) ∧ Pl.hasB (L.take t) x = false ∧ wr = w)
  case atStart => exact ⟨0, Nat.zero_le _, rfl, rfl, rfl, rfl⟩
  case round =>
    obtain ⟨t, ht, rfl, rfl, hti, rfl⟩ := hrel
    have HT : Hid (Pl.hasB (L.take t) x = false) := hti
    clear hti
    by_cases hlt : t < n
    · obtain ⟨b, off, rfl, hc⟩ := HR.out t hlt
      dsimp only at hc
      have hl : t < L.length := by rw [← HN.out]; exact hlt
      have hs := Pl.hasB_take (x := x) hl
      rw [HT.out, Bool.false_or] at hs
      obtain ⟨y, hy⟩ : ∃ y, y = L.getD t 0 := ⟨_, rfl⟩
      rw [← hy] at hc hs
      have HS : Hid (Pl.hasB (L.take (t + 1)) x = (y == x)) := hs
      clear hy hs
      by_cases he : y = x
      · have hb : (y == x) = true := by rw [he]; simp
        have E : Hid (Pl.hasB L x = true) := by
          have h1 := HS.out
          rw [hb] at h1
          show _ = _
          unfold Pl.hasB at h1 ⊢
          rw [List.any_eq_true] at h1 ⊢
          obtain ⟨z, hz, hz2⟩ := h1
          exact ⟨z, List.mem_of_mem_take hz, hz2⟩
        clear he hl
        go_wp2
        go_ret
        exact ⟨ret_bool E.out.symm, rfl⟩
      · have hb : (y == x) = false := beq_false_of_ne he
        clear he hl
        go_wp2
        go_roundg (n - (t + 1))
        case measure => omega
        case rel => exact ⟨t + 1, by omega, rfl, by go_num, HS.out.trans hb, rfl⟩
    · have E : Hid (Pl.hasB L x = false) := by
        have h1 := HT.out
        rwa [List.take_of_length_le (by have := HN.out; omega)] at h1
      have hx : ¬ (t : Int) < (n : Int) := by omega
      go_wp2
      go_ret
      exact ⟨ret_bool E.out.symm, rfl⟩

theorem add_zero15 (x : Addr) : x.add 0 = x := by
  unfold Addr.add
  split <;> simp_all
theorem sliced_to15 (a : Option Addr) (N cap s : Nat) : sliced a 0 N cap s = .slice a N cap := by
  unfold sliced
  cases a with
  | none => simp
  | some x => simp [add_zero15]
/-- 's[:n]' of a slice of ints -/
theorem slice_ints15 (a : Option Addr) (len cap N : Nat) (h : N ≤ cap) (W : World) :
    (Instr.slice 23 (.slice a len cap) none (some (.int .i64 (N : Nat))) none).run Tryd.prog W = .ok (.slice a N cap) W := by
  rw [run_slice_h W 23 a len cap (by kernel_rfl) .i64 (N : Int) (by omega) (by omega)]
  simp [sliced_to15]
  go_simp
/-- what a call that reads leaves -/
def Same15 (w : World) (v : Value) (r : Ending) (w' : World) : Prop := r = .returned v ∧ Below w.heap.size w w'

set_option maxRecDepth 100000 in
set_option maxHeartbeats 4000000 in
theorem rroles15_any (w : World) (n : Int) (a : Option Addr) (cap : Nat) (L : List Int) (hcap : L.length ≤ cap) (hn : L.length ≤ 1000000) (hR : RowI .i64 w a L.length (fun j => L.getD j 0)) :
    Calls Tryd.prog 22 #[.int .i64 n, .slice a L.length cap] w (Same15 w (.bool (Pl.rolesB n L))) := by
  by_cases hn2 : n < 2
  · have E : Hid (Pl.rolesB n L = false) := by show _ = _; unfold Pl.rolesB; rw [decide_eq_false (by omega)]; rfl
    clear hR
    go_enter Tryd.func22, Tryd.ntmps22
    go_wp2
    go_ret
    exact ⟨ret_bool E.out.symm, Below.refl _ _⟩
  by_cases hn8 : 8 < n
  · have E : Hid (Pl.rolesB n L = false) := by show _ = _; unfold Pl.rolesB; rw [decide_eq_false (show ¬ n ≤ 8 by omega)]; simp
    clear hR
    go_enter Tryd.func22, Tryd.ntmps22
    go_wp2
    go_ret
    exact ⟨ret_bool E.out.symm, Below.refl _ _⟩
  have ER : Hid (Pl.rolesB n L = (List.range L.length).all (Pl.oneOk n L)) := by show _ = _; unfold Pl.rolesB; rw [decide_eq_true (show 2 ≤ n by omega), decide_eq_true (show n ≤ 8 by omega)]; rfl
  obtain ⟨m, hne⟩ : ∃ m, m = L.length := ⟨_, rfl⟩
  rw [← hne] at hR hn hcap ⊢
  have HR : Hid (RowI .i64 w a m (fun j => L.getD j 0)) := hR
  have HN : Hid (m = L.length) := hne
  have hz : IntKind.i64.wrap (n + 1) = n + 1 := by rw [IntKind.wrap_i64]; omega
  clear hR hne
  go_enter Tryd.func22, Tryd.ntmps22
  go_wp2_with fail
  go_loopg [5] m (fun g i wr => ∃ t : Nat, t ≤ m ∧ g = m - t ∧ i = .int .i64 (t : Int) ∧ (List.range t).all (Pl.oneOk n L) = true ∧ Below w.heap.size w wr)
  case atStart => exact ⟨0, Nat.zero_le _, rfl, rfl, rfl, Below.refl _ _⟩
  case round =>
    obtain ⟨t, ht, rfl, rfl, hti, hb⟩ := hrel
    have HT : Hid ((List.range t).all (Pl.oneOk n L) = true) := hti
    have HB : Hid (Below w.heap.size w wr) := hb
    clear hti
    by_cases hlt : t < m
    · have hrow := HR.out.below hb
      obtain ⟨b, off, rfl, hc⟩ := hrow t hlt
      dsimp only at hc
      have hl : t < L.length := by rw [← HN.out]; exact hlt
      obtain ⟨y, hy⟩ : ∃ y, y = L.getD t 0 := ⟨_, rfl⟩
      have HY : Hid (y = L.getD t 0) := hy
      rw [← hy] at hc
      have sl := slice_ints15 (some ⟨b, off, none⟩) m cap t (by omega)
      have hhas : ∀ q, Calls Tryd.prog 23 #[.slice (some ⟨b, off, none⟩) t cap, .int .i64 y] (wr.drewN q) fun r w' => r = .returned (.bool (Pl.hasB (L.take t) y)) ∧ w' = wr.drewN q := fun q => by
        have hlen : (L.take t).length = t := by rw [List.length_take]; omega
        have := rhas15_any (wr.drewN q) (some ⟨b, off, none⟩) cap (L.take t) (by rw [hlen]; omega) (by
          rw [hlen]
          intro j hj
          obtain ⟨b', o', e, hc'⟩ := hrow j (by omega)
          refine ⟨b', o', e, ?_⟩
          show (wr.drewN q).cell? _ = some (Value.int .i64 ((L.take t).getD j 0))
          rw [List.getD_eq_getElem?_getD, List.getElem?_take_of_lt hj, ← List.getD_eq_getElem?_getD]
          exact hc') y
        rwa [hlen] at this
      obtain ⟨c, hc2⟩ : ∃ c, c = Pl.hasB (L.take t) y := ⟨_, rfl⟩
      rw [← hc2] at hhas
      have HH : Hid (∀ q, Calls Tryd.prog 23 #[.slice (some ⟨b, off, none⟩) t cap, .int .i64 y] (wr.drewN q) fun r w' => r = .returned (.bool c) ∧ w' = wr.drewN q) := hhas
      have HC : Hid (Pl.oneOk n L t = (decide (0 ≤ y) && (decide (y ≤ n + 1) && !c))) := by show _ = _; rw [hc2, hy]; rfl
      clear hy hc2 hhas hl hrow hb
      by_cases h0 : y < 0
      · have E : Hid (Pl.rolesB n L = false) := by
          show _ = _
          rw [ER.out, List.all_eq_false]
          exact ⟨t, List.mem_range.2 (by rw [← HN.out]; exact hlt), by rw [HC.out, decide_eq_false (by omega)]; simp⟩
        have hx : decide (y < 0) = true := decide_eq_true h0
        clear HC h0
        go_wp2_with fail
        go_quiet (fail)
        go_wp2
        go_ret
        exact ⟨ret_bool E.out.symm, below_drewN HB.out _⟩
      by_cases h1 : n + 1 < y
      · have E : Hid (Pl.rolesB n L = false) := by
          show _ = _
          rw [ER.out, List.all_eq_false]
          exact ⟨t, List.mem_range.2 (by rw [← HN.out]; exact hlt), by rw [HC.out, decide_eq_false (show ¬ y ≤ n + 1 by omega)]; simp⟩
        have hx : decide (y < 0) = false := decide_eq_false h0
        have hx1 : decide (n + 1 < y) = true := decide_eq_true h1
        clear HC h0 h1
        go_wp2_with fail
        go_quiet (fail)
        go_wp2
        go_ret
        exact ⟨ret_bool E.out.symm, below_drewN HB.out _⟩
      have hx : decide (y < 0) = false := decide_eq_false h0
      have hx1 : decide (n + 1 < y) = false := decide_eq_false h1
      cases c with
      | true =>
        have E : Hid (Pl.rolesB n L = false) := by
          show _ = _
          rw [ER.out, List.all_eq_false]
          exact ⟨t, List.mem_range.2 (by rw [← HN.out]; exact hlt), by rw [HC.out]; simp⟩
        clear HC h0 h1
        go_wp2_with fail
        go_quiet ((go_at_call 23; refine Calls.quiet_of_same (HH.out _)))
        go_wp2
        go_ret
        exact ⟨ret_bool E.out.symm, below_drewN HB.out _⟩
      | false =>
        have E : Hid ((List.range (t + 1)).all (Pl.oneOk n L) = true) := by
          show _ = _
          rw [List.range_succ, List.all_append, HT.out]
          simp only [List.all_cons, List.all_nil, Bool.and_true, Bool.true_and]
          rw [HC.out, decide_eq_true (show 0 ≤ y by omega), decide_eq_true (show y ≤ n + 1 by omega)]; rfl
        clear HC h0 h1
        go_wp2_with fail
        go_quiet ((go_at_call 23; refine Calls.quiet_of_same (HH.out _)))
        go_wp2
        go_roundg (m - (t + 1))
        case measure => omega
        case rel => exact ⟨t + 1, by omega, rfl, by go_num, E.out, below_drewN HB.out _⟩
    · have E : Hid (Pl.rolesB n L = true) := by
        have h1 := HT.out
        have h2 : t = L.length := by have := HN.out; omega
        rw [h2] at h1
        exact ER.out.trans h1
      have hx : ¬ (t : Int) < (m : Int) := by omega
      go_wp2
      go_ret
      exact ⟨ret_bool E.out.symm, HB.out⟩
end Go.Proofs.YtlkbdhejfmljlaaDoor
