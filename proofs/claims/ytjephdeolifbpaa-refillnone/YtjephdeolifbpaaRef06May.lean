/- The walks of the document's own May, and of what it asks. -/
import Derived.Test.YtjephdeolifbpaaRfMath
import Derived.Test.YtjephdeolifbpaaSynAdd
import Derived.Test.YtjephdeolifbpaaKitDet
import Derived.Test.YtjephdeolifbpaaKitRow
import Derived.Deep.LoopGhost
namespace Go.Proofs.Ytjephdeolifbpaa
open Go.RowKit

set_option maxRecDepth 100000 in
set_option maxHeartbeats 1000000 in
theorem has_any (n : Nat) (L : Nat → Int) (hn : n ≤ 1000000) (a : Option Addr) (cap : Nat) (x : Int) (w : World) (hr : RowI .i64 w a n L) :
    Calls Try.prog 31 #[.slice a n cap, .int .i64 x] w fun e w' => e = .returned (.bool (Rf.hasF n L x)) ∧ w' = w := by
  go_enter Try.func31, Try.ntmps31
  go_wp2
  go_loopg [5] n (fun gg i wr => ∃ k : Nat, k ≤ n ∧ gg = n - k ∧ i = .int .i64 k ∧ wr = w ∧ Rf.hasF k L x = false)
  case atStart => exact ⟨0, Nat.zero_le _, rfl, rfl, rfl, rfl⟩
  case round =>
    obtain ⟨k, hk, rfl, rfl, rfl, hh⟩ := hrel
    have HH : Hid (Rf.hasF k L x = false) := hh
    clear hh
    by_cases hkn : k < n
    · obtain ⟨b, o, rfl, hc⟩ := hr k hkn
      obtain ⟨y, hy⟩ : ∃ y, L k = y := ⟨_, rfl⟩
      rw [hy] at hc
      have HY : Hid (L k = y) := hy
      clear hy
      by_cases he : y = x
      · have he' : (y == x) = true := by rw [beq_iff_eq]; exact he
        have E : Hid (Rf.hasF n L x = true) := Rf.hasF_yes hkn (by rw [HY.out]; exact he)
        clear he
        go_wp2
        go_ret
        exact ⟨ret_bool E.out.symm, rfl⟩
      · have he' : (y == x) = false := by rw [beq_eq_false_iff_ne]; exact he
        have E : Hid (Rf.hasF (k + 1) L x = false) := by show _ = _; rw [Rf.hasF_succ, HH.out, HY.out, he']; rfl
        clear he
        go_wp2
        go_roundg (n - (k + 1))
        case measure => omega
        case rel => exact ⟨k + 1, by omega, rfl, by go_num, rfl, E.out⟩
    · have hkk : k = n := by omega
      subst hkk
      go_wp2
      go_ret
      exact ⟨ret_bool HH.out.symm, rfl⟩

set_option maxRecDepth 100000 in
set_option maxHeartbeats 2000000 in
theorem size_any (n : Nat) (f : Nat → ByteArray) (hn : n ≤ 1000000) (hf : Fits 1048576 n f) (a : Option Addr) (cap : Nat) (ln : Nat) (L : Nat → Int) (hln : ln ≤ 1000000) (b : Option Addr) (capb : Nat) (w : World) (hr : RowS w a n f) (hl : RowI .i64 w b ln L) :
    Calls Try.prog 22 #[.slice a n cap, .slice b ln capb] w fun e w' => e = .returned (.int .i64 (Rf.szF f ln L n)) ∧ w' = w := by
  have hH := fun x => has_any ln L hln b capb x w hl
  go_enter Try.func22, Try.ntmps22
  go_wp2
  go_loopg [5, 6] n (fun gg u i wr => ∃ (k : Nat) (s : Int), k ≤ n ∧ gg = n - k ∧ u = .int .i64 s ∧ i = .int .i64 k ∧ wr = w ∧ Rf.szO f ln L k = some s)
  case atStart => exact ⟨0, -1, Nat.zero_le _, rfl, rfl, rfl, rfl, rfl⟩
  case round =>
    obtain ⟨k, s, hk, rfl, rfl, rfl, rfl, hs⟩ := hrel
    have HS : Hid (Rf.szO f ln L k = some s) := hs
    have hsg := Rf.szO_ge hs
    clear hs
    by_cases hkn : k < n
    · obtain ⟨b0, o0, rfl, hc⟩ := hr k hkn
      have hx := hf k hkn
      cases hh : Rf.hasF ln L (k : Int) with
      | true =>
        have E : Hid (Rf.szO f ln L (k + 1) = some s) := Rf.szO_lost HS.out hh
        have hHk := hH (k : Int)
        rw [hh] at hHk
        clear hh
        go_wp2_with fail
        refine hHk.mono ?_
        rintro e w' ⟨rfl, hw⟩
        subst w'
        go_wp2
        go_roundg (n - (k + 1))
        case measure => omega
        case rel => exact ⟨k + 1, s, by omega, rfl, rfl, by go_num, rfl, E.out⟩
      | false =>
        have hHk := hH (k : Int)
        rw [hh] at hHk
        have HN : Hid (Rf.hasF ln L (k : Int) = false) := hh
        clear hh
        obtain ⟨t, ht⟩ : ∃ t, f k = t := ⟨_, rfl⟩
        have HT : Hid (f k = t) := ht
        rw [ht] at hc hx
        clear ht
        by_cases h0 : 0 ≤ s
        · by_cases h1 : (t.size : Int) = s
          · have h1' : ((t.size : Int) != s) = false := by rw [bne_eq_false_iff_eq]; exact h1
            have E : Hid (Rf.szO f ln L (k + 1) = some ((t.size : Int))) := by
              show _ = _; rw [← HT.out]; exact Rf.szO_next HS.out HN.out (by rw [HT.out]; exact fun h => h.2 h1)
            clear h1
            go_wp2_with fail
            refine hHk.mono ?_
            rintro e w' ⟨rfl, hw⟩
            subst w'
            go_wp2
            go_roundg (n - (k + 1))
            case measure => omega
            case rel => exact ⟨k + 1, _, by omega, rfl, rfl, by go_num, rfl, E.out⟩
          · have h1' : ((t.size : Int) != s) = true := by rw [bne_iff_ne]; exact h1
            have E : Hid (Rf.szF f ln L n = -1) := by
              have e := Rf.szO_two HS.out HN.out h0 (by rw [HT.out]; exact h1)
              have e2 := Rf.szO_stays e (n - (k + 1))
              rw [show k + 1 + (n - (k + 1)) = n from by omega] at e2
              show _ = _; unfold Rf.szF; rw [e2]; rfl
            clear h1
            go_wp2_with fail
            refine hHk.mono ?_
            rintro e w' ⟨rfl, hw⟩
            subst w'
            go_wp2
            go_ret
            exact ⟨ret_int E.out.symm, rfl⟩
        · have E : Hid (Rf.szO f ln L (k + 1) = some ((t.size : Int))) := by
            show _ = _; rw [← HT.out]; exact Rf.szO_next HS.out HN.out (fun h => h0 h.1)
          go_wp2_with fail
          refine hHk.mono ?_
          rintro e w' ⟨rfl, hw⟩
          subst w'
          go_wp2
          go_roundg (n - (k + 1))
          case measure => omega
          case rel => exact ⟨k + 1, _, by omega, rfl, rfl, by go_num, rfl, E.out⟩
    · have hkk : k = n := by omega
      subst hkk
      have E : Hid (Rf.szF f ln L k = s) := by show _ = _; unfold Rf.szF; rw [HS.out]; rfl
      go_wp2
      go_ret
      exact ⟨ret_int E.out.symm, rfl⟩
end Go.Proofs.Ytjephdeolifbpaa
