/- A list of calls that came in; the walk of heavy over it. -/
import Derived.Test.YtpflfdbkndomfaaRefDoes
import Derived.Test.YtpflfdbkndomfaaKitAct
import Derived.Deep.LoopGhost
namespace Go.Proofs.Ytpflfdbkndomfaa
open Go.RowKit Go.Maps

def Light (n : Nat) (f : Nat → ActR) : Prop := n ≤ 150 ∧ ∀ j, j < n → (f j).s.size ≤ 100 ∧ (f j).n ≤ 50
set_option maxRecDepth 100000 in
set_option maxHeartbeats 1000000 in
theorem heavy_nil (w : World) (a : Option Addr) (cap : Nat) : Calls Try.prog 18 #[.slice a 0 cap] w fun e w' => w' = w ∧ e = .returned (.bool false) := by
  go_enter Try.func18, Try.ntmps18
  go_wp2
  go_loopg [3] 0 (fun gg i wr => gg = 0 ∧ i = .int .i64 0 ∧ wr = w)
  case atStart => exact ⟨rfl, rfl, rfl⟩
  case round =>
    obtain ⟨rfl, rfl, rfl⟩ := hrel
    go_wp2
    go_ret
    exact ⟨rfl, rfl⟩
set_option maxRecDepth 100000 in
set_option maxHeartbeats 1000000 in
theorem heavy_some (w : World) (b off : Nat) (n cap : Nat) (f : Nat → ActR) (hA : ∀ j, j < n → ActAt w b (off + j * 4) (f j)) (hn : n ≤ maxLen) :
    Calls Try.prog 18 #[.slice (some ⟨b, off, none⟩) n cap] w fun e w' => w' = w ∧ (e = .returned (.bool true) ∨ e = .returned (.bool false) ∧ Light n f) := by
  unfold maxLen at hn
  by_cases h150 : (150 : Int) < (n : Int)
  · go_enter Try.func18, Try.ntmps18
    go_wp2
    go_ret
    exact ⟨rfl, .inl rfl⟩
  · have hn2 : n ≤ 150 := by omega
    have HA : Hid (∀ j, j < n → ActAt w b (off + j * 4) (f j)) := hA
    clear hA
    go_enter Try.func18, Try.ntmps18
    go_wp2
    go_loopg [3] n (fun gg i wr => ∃ k : Nat, k ≤ n ∧ gg = n - k ∧ i = .int .i64 k ∧ wr = w ∧ ∀ j, j < k → (f j).s.size ≤ 100 ∧ (f j).n ≤ 50)
    case atStart => exact ⟨0, Nat.zero_le _, rfl, rfl, rfl, fun j hj => absurd hj (Nat.not_lt_zero _)⟩
    case round =>
      obtain ⟨k, hk, rfl, rfl, rfl, hl⟩ := hrel
      have HL : Hid (∀ j, j < k → (f j).s.size ≤ 100 ∧ (f j).n ≤ 50) := hl
      clear hl
      by_cases hlt : k < n
      · obtain ⟨_, _, c2, c3, _, _, hs, hm, _⟩ := HA.out k hlt
        obtain ⟨z, hz⟩ : ∃ z, z = f k := ⟨_, rfl⟩
        rw [← hz] at c2 c3 hs hm
        obtain ⟨kd, ii, st, aa, nn, cc⟩ := z
        have HZ : Hid (ActR.mk kd ii st aa nn cc = f k) := hz
        simp only at c2 c3 hs hm
        unfold maxLen at hs hm
        clear hz
        by_cases h1 : (100 : Int) < (st.size : Int)
        · go_wp2
          go_ret
          exact ⟨rfl, .inl rfl⟩
        · by_cases h2 : (50 : Int) < (nn : Int)
          · go_wp2
            go_ret
            exact ⟨rfl, .inl rfl⟩
          · go_wp2
            go_roundg (n - (k + 1))
            case measure => omega
            case rel => exact ⟨k + 1, by omega, rfl, by go_num, rfl, fun j hj => by
              by_cases e : j = k
              · subst e; rw [← HZ.out]; exact ⟨by show st.size ≤ 100; omega, by show nn ≤ 50; omega⟩
              · exact HL.out j (by omega)⟩
      · have hkn : k = n := by omega
        subst hkn
        go_wp2
        go_ret
        exact ⟨rfl, .inr ⟨rfl, hn2, HL.out⟩⟩
end Go.Proofs.Ytpflfdbkndomfaa
