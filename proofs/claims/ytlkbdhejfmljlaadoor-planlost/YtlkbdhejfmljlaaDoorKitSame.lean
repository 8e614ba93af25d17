/- The document's own question whether two lists of numbers are the same. -/
import Derived.Test.YtlkbdhejfmljlaaDoorKitRow
import Derived.BigQuiet
import Derived.BigRegion
namespace Go.Proofs.YtlkbdhejfmljlaaDoor
open Go.RowKit
attribute [local go_sem] Oper.semAt_some

set_option maxRecDepth 100000 in
set_option maxHeartbeats 1000000 in
/-- the same numbers are the same -/
theorem same_rows (a b : Option Addr) (n ca cb : Nat) (f : Nat → Int) (hn : n ≤ 1048576) (w : World) (hA : RowI .i64 w a n f) (hB : RowI .i64 w b n f) :
    Calls Tryd.prog 15 #[.slice a n ca, .slice b n cb] w fun e w' => e = .returned (.bool true) ∧ Below w.heap.size w w' := by
  go_enter Tryd.func15, Tryd.ntmps15
  go_wp2
  go_loopw [5] (fun i wr => ∃ k : Nat, k ≤ n ∧ i = .int .i64 k ∧ Below w.heap.size w wr) (fun i _ => n - (intOf i).toNat)
  case atStart => exact ⟨0, Nat.zero_le _, rfl, Below.refl _ w⟩
  case round =>
    obtain ⟨k, hk, rfl, hb⟩ := hrel
    have HB : Hid (Below w.heap.size w wr) := hb
    by_cases hlt : k < n
    · obtain ⟨b1, o1, rfl, d1⟩ := (hA.below hb) k hlt
      obtain ⟨b2, o2, rfl, d2⟩ := (hB.below hb) k hlt
      obtain ⟨x, hx⟩ : ∃ x, x = f k := ⟨_, rfl⟩
      rw [← hx] at d1 d2
      have Ha : Hid (RowI .i64 w (some ⟨b1, o1, none⟩) n f) := hA
      have Hb : Hid (RowI .i64 w (some ⟨b2, o2, none⟩) n f) := hB
      clear hx hA hB hb
      go_wp2
      go_quiet (fail)
      go_wp2
      go_roundw
      case rel => exact ⟨k + 1, by omega, by go_num, below_drewN HB.out _⟩
      case measure => simp [intOf]; omega
    · have hkk : k = n := by omega
      clear hb
      go_wp2
      go_ret
      exact ⟨rfl, HB.out⟩
end Go.Proofs.YtlkbdhejfmljlaaDoor
