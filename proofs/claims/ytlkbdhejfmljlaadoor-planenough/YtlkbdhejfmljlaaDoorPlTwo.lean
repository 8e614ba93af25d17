/- Plans: the statements' own has and two. -/
import Derived.Test.YtlkbdhejfmljlaaDoorPlLaw
namespace Go.Proofs.YtlkbdhejfmljlaaDoor
open Go.RowKit
attribute [local go_sem] Oper.semAt_some

set_option maxRecDepth 100000 in
set_option maxHeartbeats 2000000 in
theorem lhas15_any (w : World) (a : Option Addr) (cap : Nat) (L : List Int) (hn : L.length ≤ 1000000) (hR : RowI .i64 w a L.length (fun j => L.getD j 0)) (x : Int) :
    Calls Tryd.prog 17 #[.slice a L.length cap, .int .i64 x] w fun r w' => r = .returned (.bool (Pl.hasB L x)) ∧ w' = w := by
  obtain ⟨n, hne⟩ : ∃ n, n = L.length := ⟨_, rfl⟩
  rw [← hne] at hR hn ⊢
  have HR : Hid (RowI .i64 w a n (fun j => L.getD j 0)) := hR
  have HN : Hid (n = L.length) := hne
  clear hR hne
  go_enter Tryd.func17, Tryd.ntmps17
  go_wp2_with fail
  go_loopg [5] n (fun g i wr => ∃ t : Nat, t ≤ n ∧ g = n - t ∧ i = .int .i64 (t : Int) ∧ Pl.hasB (L.take t) x = false ∧ wr = w)
  case atStart => exact ⟨0, Nat.zero_le _, rfl, rfl, rfl, rfl⟩
  case round =>
    obtain ⟨t, ht, rfl, rfl, hti, rfl⟩ := hrel
    have HT : Hid (Pl.hasB (L.take t) x = false) := hti
    clear hti
    by_cases hlt : t < n
    · obtain ⟨b, off, rfl, hc⟩ := HR.out t hlt
      dsimp only at hc
      have hl : t < L.length := by rw [← HN.out]; exact hlt
      have hs := Pl.hasB_take (x := x) hl
      rw [HT.out, Bool.false_or] at hs
      obtain ⟨y, hy⟩ : ∃ y, y = L.getD t 0 := ⟨_, rfl⟩
      rw [← hy] at hc hs
      have HS : Hid (Pl.hasB (L.take (t + 1)) x = (y == x)) := hs
      clear hy hs
      by_cases he : y = x
      · have hb : (y == x) = true := by rw [he]; simp
        have E : Hid (Pl.hasB L x = true) := by
          have h1 := HS.out
          rw [hb] at h1
          show _ = _
          unfold Pl.hasB at h1 ⊢
          rw [List.any_eq_true] at h1 ⊢
          obtain ⟨z, hz, hz2⟩ := h1
          exact ⟨z, List.mem_of_mem_take hz, hz2⟩
        clear he hl
        go_wp2
        go_ret
        exact ⟨ret_bool E.out.symm, rfl⟩
      · have hb : (y == x) = false := beq_false_of_ne he
        clear he hl
        go_wp2
        go_roundg (n - (t + 1))
        case measure => omega
        case rel => exact ⟨t + 1, by omega, rfl, by go_num, HS.out.trans hb, rfl⟩
    · have E : Hid (Pl.hasB L x = false) := by
        have h1 := HT.out
        rwa [List.take_of_length_le (by have := HN.out; omega)] at h1
      have hx : ¬ (t : Int) < (n : Int) := by omega
      go_wp2
      go_ret
      exact ⟨ret_bool E.out.symm, rfl⟩

namespace Pl
/-- at most two roles -/
def fstT (N i : Nat) : List Int := if i < N + 2 then [(i : Int)] else []
def twoT (N i k : Nat) : List Int := if k < N + 2 ∧ k ≠ i then fstT N i ++ [(k : Int)] else fstT N i
theorem twoT_cases (N i k : Nat) : (twoT N i k = []) ∨ (∃ x : Nat, x < N + 2 ∧ twoT N i k = [(x : Int)]) ∨ (∃ x y : Nat, x < N + 2 ∧ y < N + 2 ∧ x ≠ y ∧ twoT N i k = [(x : Int), (y : Int)]) := by
  unfold twoT fstT
  by_cases h1 : i < N + 2 <;> by_cases h2 : k < N + 2 ∧ k ≠ i
  · rw [if_pos h1, if_pos h2]; exact .inr (.inr ⟨i, k, h1, h2.1, fun e => h2.2 e.symm, rfl⟩)
  · rw [if_pos h1, if_neg h2]; exact .inr (.inl ⟨i, h1, rfl⟩)
  · rw [if_neg h1, if_pos h2]; exact .inr (.inl ⟨k, h2.1, rfl⟩)
  · rw [if_neg h1, if_neg h2]; exact .inl rfl
end Pl
theorem ownsRow_cap {w : World} {B t n cap : Nat} {a : Option Addr} {l : List Value} (h : w.ownsRow B t 1 (.slice a n cap) n l) : n ≤ cap := by
  rcases h.2 with ⟨e, h0⟩ | ⟨g, cap', cur, e, _, _, hn, _⟩
  · subst h0; exact Nat.zero_le _
  · cases e; exact hn

set_option maxRecDepth 100000 in
set_option maxHeartbeats 4000000 in
theorem two15_any (w : World) (N : Nat) (h2 : 2 ≤ N) (h8 : N ≤ 8) (A C i k : Nat) (hA : A < 256) (hC : C < 256) (hi : Int.tmod (A : Int) ((N : Int) + 3) = (i : Int)) (hk : Int.tmod (C : Int) ((N : Int) + 3) = (k : Int)) :
    Calls Tryd.prog 16 #[.int .i64 (N : Int), .int .u8 (A : Int), .int .u8 (C : Int)] w fun r w' => ∃ v, r = .returned v ∧ Row15 w (Pl.twoT N i k) v w' := by
  have A0 : Hid (Row15 w [] (.slice (some ⟨w.heap.size, 0, none⟩) 0 0) (w.alloc (.cells #[] 3))) := Row15.made (Below.refl _ w)
  obtain ⟨i0, q1, q2, q3, q4⟩ := info_parts (show (Tryd.prog.info? 3).map (fun i => (i.zero, i.size, i.bytes)) = some (some (.int .i64 0), 1, 8) by kernel_rfl)
  have ONE : Hid (∀ x : Int, ∀ j u, [Value.int .i64 x][j]? = some u → ((w.alloc (.cells #[] 3)).alloc (.cells #[.int .i64 x] 3)).cell? ((⟨w.heap.size + 1, 0, none⟩ : Addr).add j) = some u) := fun x => by
    have h := cell_one_new (w.alloc (.cells #[] 3)) (.int .i64 x) 3
    rwa [World.size_alloc] at h
  have hsz := A0.out.2.size
  rw [World.size_alloc] at hsz
  by_cases hi2 : i < N + 2
  · have ti : (i : Int) < (N : Int) + 2 := by omega
    by_cases hk2 : k < N + 2
    · have tk : (k : Int) < (N : Int) + 2 := by omega
      by_cases hki : k = i
      · have tki : ((k : Int) == (i : Int)) = true := by rw [hki]; simp
        have ET : Hid (Pl.twoT N i k = [(i : Int)]) := by show _ = _; unfold Pl.twoT Pl.fstT; rw [if_pos hi2, if_neg (fun h => h.2 hki)]
        clear hki hi2 hk2
        go_enter Tryd.func16, Tryd.ntmps16
        go_wp2_with (at_builtin; refine wpList_append_own _ rfl _ _ 23 rfl w.heap.size 3 i0 (.int .i64 0) 1 8 Tryd.underlying23 q1 q2 q3 q4 rfl (by decide) (.slice (some ⟨w.heap.size, 0, none⟩) 0 0) 0 [] rfl (A0.out.1.alloc _) ⟨w.heap.size + 1, 0, none⟩ 1 1 [.int .i64 (i : Int)] rfl rfl (ONE.out _) (by simp [Value.oneCell']) (by unfold maxLen; omega) (by omega) (by simp; omega) ?_; go_loud (intro v1 w1 hown1 hgrow1 _; have R1 := A0.out.grown rfl hown1 hgrow1; have hz1 := R1.2.size; obtain ⟨g1, cap1, rfl⟩ := ownsRow_succ hown1))
        go_ret
        exact ⟨_, rfl, by rw [ET.out]; exact R1⟩
      · have tki : ((k : Int) == (i : Int)) = false := by rw [beq_eq_false_iff_ne]; omega
        have ET : Hid (Pl.twoT N i k = [(i : Int), (k : Int)]) := by show _ = _; unfold Pl.twoT Pl.fstT; rw [if_pos hi2, if_pos ⟨hk2, hki⟩]; rfl
        have T1 : Hid True := trivial
        clear hki hi2 hk2
        go_enter Tryd.func16, Tryd.ntmps16
        go_wp2_with (first | (have _t := T1.out; at_builtin; refine wpList_append_own _ rfl _ _ 23 rfl w.heap.size 3 i0 (.int .i64 0) 1 8 Tryd.underlying23 q1 q2 q3 q4 rfl (by decide) (.slice (some ⟨w.heap.size, 0, none⟩) 0 0) 0 [] rfl (A0.out.1.alloc _) ⟨w.heap.size + 1, 0, none⟩ 1 1 [.int .i64 (i : Int)] rfl rfl (ONE.out _) (by simp [Value.oneCell']) (by unfold maxLen; omega) (by omega) (by simp; omega) ?_; go_loud (intro v1 w1 hown1 hgrow1 _; have R1 := A0.out.grown rfl hown1 hgrow1; have hz1 := R1.2.size; obtain ⟨g1, cap1, rfl⟩ := ownsRow_succ hown1); clear T1) | (at_builtin; refine wpList_append_own _ rfl _ _ 23 rfl w.heap.size 3 i0 (.int .i64 0) 1 8 Tryd.underlying23 q1 q2 q3 q4 rfl (by decide) (.slice (some ⟨g1, 0, none⟩) 1 cap1) 1 (iV15 [(i : Int)]) rfl (R1.1.alloc _) ⟨w1.heap.size, 0, none⟩ 1 1 [.int .i64 (k : Int)] rfl rfl (cell_one_new _ _ _) (by simp [Value.oneCell']) (by unfold maxLen; omega) (by omega) (by simp; omega) ?_; go_loud (intro v2 w2 hown2 hgrow2 _; have R2 := Row15.grown R1 rfl hown2 hgrow2; obtain ⟨g2, cap2, rfl⟩ := ownsRow_succ hown2)))
        go_ret
        exact ⟨_, rfl, by rw [ET.out]; exact R2⟩
    · have tk : ¬ (k : Int) < (N : Int) + 2 := by omega
      have ET : Hid (Pl.twoT N i k = [(i : Int)]) := by show _ = _; unfold Pl.twoT Pl.fstT; rw [if_pos hi2, if_neg (fun h => hk2 h.1)]
      clear hi2 hk2
      go_enter Tryd.func16, Tryd.ntmps16
      go_wp2_with (at_builtin; refine wpList_append_own _ rfl _ _ 23 rfl w.heap.size 3 i0 (.int .i64 0) 1 8 Tryd.underlying23 q1 q2 q3 q4 rfl (by decide) (.slice (some ⟨w.heap.size, 0, none⟩) 0 0) 0 [] rfl (A0.out.1.alloc _) ⟨w.heap.size + 1, 0, none⟩ 1 1 [.int .i64 (i : Int)] rfl rfl (ONE.out _) (by simp [Value.oneCell']) (by unfold maxLen; omega) (by omega) (by simp; omega) ?_; go_loud (intro v1 w1 hown1 hgrow1 _; have R1 := A0.out.grown rfl hown1 hgrow1; have hz1 := R1.2.size; obtain ⟨g1, cap1, rfl⟩ := ownsRow_succ hown1))
      go_ret
      exact ⟨_, rfl, by rw [ET.out]; exact R1⟩
  · have ti : ¬ (i : Int) < (N : Int) + 2 := by omega
    by_cases hk2 : k < N + 2
    · have tk : (k : Int) < (N : Int) + 2 := by omega
      have hki : k ≠ i := by omega
      have tki : ((k : Int) == (i : Int)) = false := by rw [beq_eq_false_iff_ne]; omega
      have ET : Hid (Pl.twoT N i k = [(k : Int)]) := by show _ = _; unfold Pl.twoT Pl.fstT; rw [if_neg hi2, if_pos ⟨hk2, hki⟩]; rfl
      clear hki hi2 hk2
      go_enter Tryd.func16, Tryd.ntmps16
      go_wp2_with (at_builtin; refine wpList_append_own _ rfl _ _ 23 rfl w.heap.size 3 i0 (.int .i64 0) 1 8 Tryd.underlying23 q1 q2 q3 q4 rfl (by decide) (.slice (some ⟨w.heap.size, 0, none⟩) 0 0) 0 [] rfl (A0.out.1.alloc _) ⟨w.heap.size + 1, 0, none⟩ 1 1 [.int .i64 (k : Int)] rfl rfl (ONE.out _) (by simp [Value.oneCell']) (by unfold maxLen; omega) (by omega) (by simp; omega) ?_; go_loud (intro v1 w1 hown1 hgrow1 _; have R1 := A0.out.grown rfl hown1 hgrow1; have hz1 := R1.2.size; obtain ⟨g1, cap1, rfl⟩ := ownsRow_succ hown1))
      go_ret
      exact ⟨_, rfl, by rw [ET.out]; exact R1⟩
    · have tk : ¬ (k : Int) < (N : Int) + 2 := by omega
      have ET : Hid (Pl.twoT N i k = []) := by show _ = _; unfold Pl.twoT Pl.fstT; rw [if_neg hi2, if_neg (fun h => hk2 h.1)]
      clear hi2 hk2
      go_enter Tryd.func16, Tryd.ntmps16
      go_wp2_with fail
      go_ret
      exact ⟨_, rfl, by rw [ET.out]; exact A0.out⟩
end Go.Proofs.YtlkbdhejfmljlaaDoor
