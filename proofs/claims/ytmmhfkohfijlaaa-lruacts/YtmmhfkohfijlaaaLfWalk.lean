/- The walks of the document's own list: the place of a key, one is taken off, one is put in front, a new list. -/
import Derived.Test.YtmmhfkohfijlaaaLfMem
import Derived.Test.YtmmhfkohfijlaaaKitRound
import Derived.Deep.LoopGhost
import Derived.BigQuiet
namespace Go.Proofs.Ytmmhfkohfijlaaa
open Go.RowKit Lr
attribute [local go_sem] Oper.semAt_some

namespace Lr
/-- the place of a key, as the document's own list tells it -/
def atI (l : L) (k : Int) : Int := if idx l k < l.length then (idx l k : Int) else -1
end Lr

set_option maxRecDepth 100000 in
set_option maxHeartbeats 1000000 in
theorem rNew14_no (r : Int) (h : ¬ (1 ≤ r ∧ r ≤ 64)) (w : World) : Calls Try.prog 10 #[.int .i64 r] w fun e w' => e = .returned (.pointer none) ∧ w' = w := by
  by_cases h1 : r < 1
  · go_enter Try.func10, Try.ntmps10
    go_wp2
    go_ret
    exact ⟨rfl, rfl⟩
  · have h2 : 64 < r := by omega
    go_enter Try.func10, Try.ntmps10
    go_wp2
    go_ret
    exact ⟨rfl, rfl⟩
set_option maxRecDepth 100000 in
set_option maxHeartbeats 1000000 in
theorem rNew14_yes (r : Nat) (h1 : 1 ≤ r) (h2 : r ≤ 64) (w : World) : Calls Try.prog 10 #[.int .i64 (r : Nat)] w fun e w' => ∃ rp, e = .returned (.pointer (some ⟨rp, 0, none⟩)) ∧ RefAt w' rp r [] (fun k => w.heap.size ≤ k) ∧ Below w.heap.size w w' := by
  have g1 : ¬ ((r : Nat) : Int) < 1 := by omega
  have g2 : ¬ (64 : Int) < ((r : Nat) : Int) := by omega
  go_enter Try.func10, Try.ntmps10
  go_wp2
  go_ret
  exact ⟨w.heap.size, rfl, ⟨.slice none 0 0, .slice none 0 0, ⟨World.alloc_heap_new w _, World.ownsRow_nil _ _ _ _, World.ownsRow_nil _ _ _ _, fun g h => by simp [Value.ownBlock] at h⟩, Nat.le_refl _, fun g h => by simp [Value.ownBlock] at h, fun g h => by simp [Value.ownBlock] at h⟩, (Below.refl _ w).alloc (Nat.le_refl _) _⟩

set_option maxRecDepth 100000 in
set_option maxHeartbeats 2000000 in
theorem rat14_any {w : World} {rp room : Nat} {vk vp : Value} {l : L} (h : RefIn w rp room vk vp l) (hn : l.length ≤ 1000) (k : Int) :
    Calls Try.prog 29 #[.pointer (some ⟨rp, 0, none⟩), .int .i64 k] w fun r w' => r = .returned (.int .i64 (atI l k)) ∧ w' = w := by
  have c1 := h.c1
  obtain ⟨a, cap, rfl, hR, _⟩ := RowI.of_owns (k := .i64) h.k
  obtain ⟨n, hne⟩ : ∃ n, n = l.length := ⟨_, rfl⟩
  rw [← hne] at c1 hR hn
  have HR : Hid (RowI .i64 w a n (fun j => (keys l).getD j 0)) := hR
  have HN : Hid (n = l.length) := hne
  clear h hR hne
  go_enter Try.func29, Try.ntmps29
  go_wp2_with fail
  go_loopg [5] n (fun g i wr => ∃ t : Nat, t ≤ n ∧ g = n - t ∧ i = .int .i64 (t : Int) ∧ t ≤ idx l k ∧ wr = w)
  case atStart => exact ⟨0, Nat.zero_le _, rfl, rfl, Nat.zero_le _, rfl⟩
  case round =>
    obtain ⟨t, ht, rfl, rfl, hti, rfl⟩ := hrel
    have HT : Hid (t ≤ idx l k) := hti
    clear hti
    by_cases hlt : t < n
    · obtain ⟨b, off, rfl, hc⟩ := HR.out t hlt
      dsimp only at hc
      have hl : t < l.length := by rw [← HN.out]; exact hlt
      rw [keys_at l hl] at hc
      obtain ⟨x, hx⟩ : ∃ x, x = (l.getD t (0, 0)).1 := ⟨_, rfl⟩
      rw [← hx] at hc
      by_cases he : x = k
      · have E : Hid (atI l k = (t : Int)) := by
          have : idx l k = t := Nat.le_antisymm (Nat.le_of_not_lt fun h1 => idx_before h1 (by rw [← hx]; exact he)) HT.out
          show _ = _
          rw [atI, this, if_pos hl]
        have hb : (x == k) = true := by rw [he]; simp
        clear he hx hl
        go_wp2
        go_ret
        exact ⟨ret_int E.out.symm, rfl⟩
      · have E : Hid (t + 1 ≤ idx l k) := by
          refine Nat.lt_of_le_of_ne HT.out fun e => he ?_
          have := idx_key (l := l) (k := k) (by rw [← e]; exact hl)
          rw [← e] at this
          rw [hx]; exact this
        have hb : (x == k) = false := beq_false_of_ne he
        clear he hx hl
        go_wp2
        go_roundg (n - (t + 1))
        case measure => omega
        case rel => exact ⟨t + 1, by omega, rfl, by go_num, E.out, rfl⟩
    · have E : Hid (atI l k = -1) := by show _ = _; rw [atI, if_neg (by have h1 := HT.out; have h2 := HN.out; omega)]
      have hx : ¬ (t : Int) < (n : Int) := by omega
      go_wp2
      go_ret
      exact ⟨ret_int E.out.symm, rfl⟩
end Go.Proofs.Ytmmhfkohfijlaaa
