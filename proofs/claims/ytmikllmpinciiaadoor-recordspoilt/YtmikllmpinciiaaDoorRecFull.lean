/- The walks of what the statements on records call: a text filled up, the bound, two rows of texts compared. -/
import Derived.Test.YtmikllmpinciiaaDoorRecMath
import Derived.Test.YtmikllmpinciiaaDoorKitTexts
import Derived.Deep.LoopGhost
import Derived.BigQuiet
import Derived.IntWalk
namespace Go.Proofs.YtmikllmpinciiaaDoor
open Go.RowKit

namespace Rc
/-- k bytes of nought -/
def zeros (k : Nat) : ByteArray := ⟨(List.replicate k 0).toArray⟩
theorem zeros_size (k : Nat) : (zeros k).size = k := by simp [zeros, ByteArray.size]
/-- a text filled up to a sector -/
def fillB (s : ByteArray) : ByteArray := (s ++ zeros 64).extract 0 64
theorem fillB_size (s : ByteArray) : (fillB s).size = 64 := by
  unfold fillB
  rw [ByteArray.size_extract, ByteArray.size_append, zeros_size]; omega
/-- two rows of texts are the same -/
def sameT (f g : Nat → ByteArray) : Nat → Bool
  | 0 => true
  | n + 1 => sameT f g n && decide (f n = g n)
theorem sameT_iff (f g : Nat → ByteArray) : ∀ n, sameT f g n = true ↔ ∀ i, i < n → f i = g i
  | 0 => ⟨fun _ _ h => absurd h (Nat.not_lt_zero _), fun _ => rfl⟩
  | n + 1 => by
    unfold sameT
    rw [Bool.and_eq_true, sameT_iff f g n, decide_eq_true_iff]
    constructor
    · rintro ⟨h1, h2⟩ i hi
      by_cases e : i = n
      · subst e; exact h2
      · exact h1 i (by omega)
    · intro h; exact ⟨fun i hi => h i (by omega), h n (by omega)⟩
theorem sameT_not {f g : Nat → ByteArray} {n i : Nat} (hi : i < n) (h : f i ≠ g i) : sameT f g n = false := by
  cases e : sameT f g n with
  | false => rfl
  | true => exact absurd ((sameT_iff f g n).1 e i hi) h
/-- within the statements' bound -/
def Light12 (n : Nat) (f : Nat → ByteArray) : Prop := n ≤ 50 ∧ ∀ j, j < n → (f j).size ≤ 100
end Rc

set_option maxRecDepth 100000 in
set_option maxHeartbeats 400000 in
theorem blank12_any (w : World) : Calls Tryd.prog 39 #[] w fun e w' => e = .returned (.string (Rc.zeros 64)) ∧ w' = w := by
  go_enter Tryd.func39, Tryd.ntmps39
  go_wp2
  go_loop [1, 2] (fun s i => ∃ k : Nat, k ≤ 64 ∧ i = .int .i64 k ∧ s = .string (Rc.zeros k)) (fun _ i => 64 - (intOf i).toNat)
  case atStart => exact ⟨0, by omega, rfl, rfl⟩
  case round =>
    obtain ⟨k, hk, rfl, rfl⟩ := hrel
    by_cases hlt : k < 64
    · have hsz := Rc.zeros_size k
      obtain ⟨t, ht⟩ : ∃ t, t = Rc.zeros k := ⟨_, rfl⟩
      rw [← ht] at hsz ⊢
      have HT : Hid (t = Rc.zeros k) := ht
      clear ht
      go_wp2
      go_round
      case rel => exact ⟨k + 1, by omega, by go_num, by
        rw [HT.out]
        unfold Rc.zeros
        rw [List.replicate_succ']
        first | rfl | (congr 1; apply ByteArray.ext; simp; rfl)⟩
      case measure => simp [intOf]; omega
    · have hkk : k = 64 := by omega
      subst hkk
      go_wp2
      go_ret
      exact ⟨rfl, rfl⟩

set_option maxRecDepth 100000 in
set_option maxHeartbeats 400000 in
theorem full12_any (s : ByteArray) (hs : s.size ≤ 100) (w : World) : Calls Tryd.prog 22 #[.string s] w fun e w' => e = .returned (.string (Rc.fillB s)) ∧ w' = w := by
  have hbl := blank12_any w
  have hb := Rc.zeros_size 64
  have E : Hid ((s ++ Rc.zeros 64).extract 0 64 = Rc.fillB s) := rfl
  obtain ⟨b, eb⟩ : ∃ b, b = Rc.zeros 64 := ⟨_, rfl⟩
  rw [← eb] at hb hbl E
  have h64 : (s ++ b).size = s.size + 64 := by rw [ByteArray.size_append, hb]
  have hm : (s ++ b).size ≤ maxLen := by rw [h64]; unfold maxLen; omega
  clear eb
  go_enter Tryd.func22, Tryd.ntmps22
  go_wp2_with fail
  refine hbl.mono ?_
  rintro e w' ⟨rfl, rfl⟩
  go_wp2
  go_ret
  exact ⟨by rw [E.out]; rfl, rfl⟩

set_option maxRecDepth 100000 in
set_option maxHeartbeats 1000000 in
theorem heavy12_none (w : World) (a : Option Addr) (cap : Nat) : Calls Tryd.prog 7 #[.slice a 0 cap] w fun e w' => w' = w ∧ e = .returned (.bool false) := by
  go_enter Tryd.func7, Tryd.ntmps7
  go_wp2
  go_loopg [3] 0 (fun gg i wr => gg = 0 ∧ i = .int .i64 0 ∧ wr = w)
  case atStart => exact ⟨rfl, rfl, rfl⟩
  case round =>
    obtain ⟨rfl, rfl, rfl⟩ := hrel
    go_wp2
    go_ret
    exact ⟨rfl, rfl⟩
set_option maxRecDepth 100000 in
set_option maxHeartbeats 1000000 in
theorem heavy12_some (w : World) (b off n cap : Nat) (f : Nat → ByteArray) (hr : RowS w (some ⟨b, off, none⟩) n f) (hm : ∀ j, j < n → (f j).size ≤ maxLen) (hn : n ≤ maxLen) :
    Calls Tryd.prog 7 #[.slice (some ⟨b, off, none⟩) n cap] w fun e w' => w' = w ∧ (e = .returned (.bool true) ∨ e = .returned (.bool false) ∧ Rc.Light12 n f) := by
  unfold maxLen at hn hm
  by_cases h40 : (50 : Int) < (n : Int)
  · go_enter Tryd.func7, Tryd.ntmps7
    go_wp2
    go_ret
    exact ⟨rfl, .inl rfl⟩
  · have hn2 : n ≤ 50 := by omega
    have HR : Hid (RowS w (some ⟨b, off, none⟩) n f) := hr
    clear hr
    go_enter Tryd.func7, Tryd.ntmps7
    go_wp2
    go_loopg [3] n (fun gg i wr => ∃ k : Nat, k ≤ n ∧ gg = n - k ∧ i = .int .i64 k ∧ wr = w ∧ ∀ j, j < k → (f j).size ≤ 100)
    case atStart => exact ⟨0, Nat.zero_le _, rfl, rfl, rfl, fun j hj => absurd hj (Nat.not_lt_zero _)⟩
    case round =>
      obtain ⟨k, hk, rfl, rfl, rfl, hl⟩ := hrel
      have HL : Hid (∀ j, j < k → (f j).size ≤ 100) := hl
      clear hl
      by_cases hlt : k < n
      · have hc := HR.out.at hlt
        have hs := hm k hlt
        obtain ⟨x, hx⟩ : ∃ x, f k = x := ⟨_, rfl⟩
        rw [hx] at hc hs
        have HX : Hid (f k = x) := hx
        clear hx
        by_cases h1 : (100 : Int) < (x.size : Int)
        · go_wp2
          go_ret
          exact ⟨rfl, .inl rfl⟩
        · go_wp2
          go_roundg (n - (k + 1))
          case measure => omega
          case rel => exact ⟨k + 1, by omega, rfl, by go_num, rfl, fun j hj => by
            by_cases e : j = k
            · subst e; rw [HX.out]; omega
            · exact HL.out j (by omega)⟩
      · have hkn : k = n := by omega
        subst hkn
        go_wp2
        go_ret
        exact ⟨rfl, .inr ⟨rfl, hn2, HL.out⟩⟩
theorem heavy12_any (w : World) (a : Option Addr) (n cap : Nat) (f : Nat → ByteArray) (hr : RowS w a n f) (hm : ∀ j, j < n → (f j).size ≤ maxLen) (hn : n ≤ maxLen) :
    Calls Tryd.prog 7 #[.slice a n cap] w fun e w' => w' = w ∧ (e = .returned (.bool true) ∨ e = .returned (.bool false) ∧ Rc.Light12 n f) := by
  rcases hr.place with rfl | ⟨b, o, rfl⟩
  · refine (heavy12_none w a cap).mono ?_
    rintro e w' ⟨rfl, rfl⟩
    exact ⟨rfl, .inr ⟨rfl, by omega, fun j hj => absurd hj (Nat.not_lt_zero _)⟩⟩
  · exact heavy12_some w b o n cap f hr hm hn

set_option maxRecDepth 100000 in
set_option maxHeartbeats 1000000 in
theorem texts12_no (a a' : Option Addr) (n m c c' : Nat) (w : World) (h : n ≠ m) :
    Calls Tryd.prog 17 #[.slice a n c, .slice a' m c'] w fun e w' => e = .returned (.bool false) ∧ w' = w := by
  have f3 : ((n : Int) != (m : Int)) = true := by rw [bne_iff_ne]; omega
  clear h
  go_enter Tryd.func17, Tryd.ntmps17
  go_wp2
  go_ret
  exact ⟨rfl, rfl⟩

set_option maxRecDepth 100000 in
set_option maxHeartbeats 2000000 in
theorem texts12_all (a a' : Option Addr) (n c c' : Nat) (f g : Nat → ByteArray) (w : World) (hn : n ≤ 9223372036854775807) (hp : RowS w a n f) (hq : RowS w a' n g) :
    Calls Tryd.prog 17 #[.slice a n c, .slice a' n c'] w fun e w' => e = .returned (.bool (Rc.sameT f g n)) ∧ Below w.heap.size w w' := by
  have HP : Hid (RowS w a n f ∧ RowS w a' n g) := ⟨hp, hq⟩
  have f3 : ((n : Int) != (n : Int)) = false := by simp
  have HN : Hid (n ≤ 9223372036854775807) := hn
  clear hp hq hn
  go_enter Tryd.func17, Tryd.ntmps17
  go_wp2
  go_loopg [5] n (fun gg i wr => ∃ k : Nat, k ≤ n ∧ gg = n - k ∧ i = .int .i64 (k : Int) ∧ Below w.heap.size w wr ∧ Rc.sameT f g k = true)
  case atStart => exact ⟨0, Nat.zero_le _, rfl, rfl, Below.refl _ _, rfl⟩
  case round =>
  obtain ⟨k, hk, rfl, rfl, hb, hok⟩ := hrel
  have HB : Hid (Below w.heap.size w wr) := hb
  have HOk : Hid (Rc.sameT f g k = true) := hok
  clear hb hok
  by_cases hlt : k < n
  case neg =>
    have hkn : k = n := by omega
    subst hkn
    clear hlt hk
    go_wp2
    go_ret
    exact ⟨by rw [HOk.out]; rfl, HB.out⟩
  case pos =>
  have hki : (k : Int) < (n : Int) := by omega
  obtain ⟨b, o, rfl, c0⟩ := HP.out.1 k hlt
  obtain ⟨b', o', rfl, d0⟩ := HP.out.2 k hlt
  replace c0 := (HB.out.cell (p := ⟨b, o + k, none⟩) (World.block_lt_of_cell? w _ c0)).trans c0
  replace d0 := (HB.out.cell (p := ⟨b', o' + k, none⟩) (World.block_lt_of_cell? w _ d0)).trans d0
  have htx := Pg.tx_eq (f k) (g k)
  obtain ⟨x, hx⟩ : ∃ x, x = f k := ⟨_, rfl⟩
  obtain ⟨y, hy⟩ : ∃ y, y = g k := ⟨_, rfl⟩
  rw [← hx, ← hy] at htx
  rw [← hx] at c0
  rw [← hy] at d0
  have HX : Hid (x = f k) := hx
  have HY : Hid (y = g k) := hy
  have HLT : Hid (k < n) := hlt
  clear hx hy
  by_cases he : x = y
  · have HOk2 : Hid (Rc.sameT f g (k + 1) = true) := by show _ = _; unfold Rc.sameT; rw [HOk.out, ← HX.out, ← HY.out, decide_eq_true he]; rfl
    rw [decide_eq_true he] at htx
    clear he HX HY
    go_wp2_with (go_quiet (fail))
    go_roundg (n - (k + 1))
    case measure => have := HLT.out; omega
    case rel => exact ⟨k + 1, HLT.out, rfl, by rw [IntWalk.wrap64_in _ (by have := HLT.out; have := HN.out; omega)]; rfl, below_drewN HB.out _, HOk2.out⟩
  · have HNo : Hid (Rc.sameT f g n = false) := Rc.sameT_not HLT.out (by rw [← HX.out, ← HY.out]; exact he)
    rw [decide_eq_false he] at htx
    clear he HX HY
    go_wp2_with (go_quiet (fail))
    go_ret
    exact ⟨by rw [HNo.out]; rfl, below_drewN HB.out _⟩

theorem texts12_any (a a' : Option Addr) (n m c c' : Nat) (f g : Nat → ByteArray) (w : World) (hn : n ≤ 9223372036854775807) (hp : RowS w a n f) (hq : RowS w a' m g) :
    Calls Tryd.prog 17 #[.slice a n c, .slice a' m c'] w fun e w' => e = .returned (.bool (decide (n = m) && Rc.sameT f g n)) ∧ Below w.heap.size w w' := by
  by_cases h : n = m
  · subst h
    rw [decide_eq_true rfl, Bool.true_and]
    exact texts12_all a a' n c c' f g w hn hp hq
  · rw [decide_eq_false h, Bool.false_and]
    refine (texts12_no a a' n m c c' w h).mono ?_
    rintro e w' ⟨rfl, rfl⟩
    exact ⟨rfl, Below.refl _ _⟩
end Go.Proofs.YtmikllmpinciiaaDoor
