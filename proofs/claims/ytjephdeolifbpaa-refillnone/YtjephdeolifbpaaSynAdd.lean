/- The walks of syndrome: columns added, bytes 0 alone, what a new column adds. -/
import Derived.Test.YtjephdeolifbpaaSynMath
import Derived.Test.YtjephdeolifbpaaKitTexts
import Derived.Test.YtjephdeolifbpaaGfXor
namespace Go.Proofs.Ytjephdeolifbpaa
open Go.RowKit

/-- none of n texts is longer than B bytes -/
def Fits (B n : Nat) (f : Nat → ByteArray) : Prop := ∀ i, i < n → (f i).size ≤ B
theorem Fits.add {B n : Nat} {f : Nat → ByteArray} (h : Fits B n f) : (Gfm.addF n f).size ≤ B := Gfm.addF_le h
theorem Fits.qT {B n : Nat} {f : Nat → ByteArray} (h : Fits B n f) : Fits B n (Gfm.qT f) := fun i hi => by rw [Gfm.qT_size]; exact h i hi
theorem Fits.mono {B n m : Nat} {f : Nat → ByteArray} (h : Fits B n f) (hm : m ≤ n) : Fits B m f := fun i hi => h i (by omega)

set_option maxHeartbeats 1000000 in
theorem added_some (n : Nat) (f : Nat → ByteArray) (hn : n ≤ 1048576) (hf : Fits 1048576 n f) (b o cap : Nat) (w : World) (hr : RowS w (some ⟨b, o, none⟩) n f) :
    Calls Try.prog 63 #[.slice (some ⟨b, o, none⟩) n cap] w fun e w' => e = .returned (.string (Gfm.addF n f)) ∧ Below w.heap.size w w' := by
  go_enter Try.func63, Try.ntmps63
  go_wp2
  go_loopw [3, 8] (fun s i wr => ∃ k : Nat, k ≤ n ∧ i = .int .i64 k ∧ s = .string (Gfm.addF k f) ∧ Below w.heap.size w wr) (fun _ i _ => n - (intOf i).toNat)
  case atStart => exact ⟨0, by omega, rfl, rfl, Below.refl _ _⟩
  case round =>
    obtain ⟨k, hk, rfl, rfl, hb⟩ := hrel
    by_cases hkn : k < n
    · have hc := hr.at hkn
      have hc := (hb.cell (p := ⟨b, o + k, none⟩) (World.block_lt_of_cell? w _ hc)).trans hc
      have h1 := hf k hkn
      have h2 := (hf.mono hk).add
      have Hs : Hid (Gfm.addF (k + 1) f = Gfm.xorB (Gfm.addF k f) (f k)) := rfl
      obtain ⟨x, hx⟩ : ∃ x, f k = x := ⟨_, rfl⟩
      obtain ⟨y, hy⟩ : ∃ y, Gfm.addF k f = y := ⟨_, rfl⟩
      rw [hx] at hc h1 Hs
      rw [hy] at h2 Hs
      rw [hy]
      have Hy : Hid (Gfm.addF k f = y) := hy
      clear hx hy
      go_wp2_with fail
      refine (Xor_any y x (by unfold maxLen; omega) (by unfold maxLen; omega) _).mono ?_
      rintro e w' ⟨rfl, hb'⟩
      have HB : Hid (Below w.heap.size w w') := hb.trans (hb'.mono hb.size)
      clear hb' hb hc
      go_wp2
      go_roundw
      case rel => exact ⟨k + 1, by omega, by go_num, by rw [Hs.out], HB.out⟩
      case measure => simp [intOf]; omega
    · have hkk : k = n := by omega
      subst hkk
      go_wp2
      go_ret
      exact ⟨rfl, hb⟩

set_option maxHeartbeats 1000000 in
theorem added_none (f : Nat → ByteArray) (a : Option Addr) (cap : Nat) (w : World) :
    Calls Try.prog 63 #[.slice a 0 cap] w fun e w' => e = .returned (.string (Gfm.addF 0 f)) ∧ Below w.heap.size w w' := by
  go_enter Try.func63, Try.ntmps63
  go_wp2
  go_loopw [3, 8] (fun s i wr => i = .int .i64 0 ∧ s = .string (Gfm.addF 0 f) ∧ Below w.heap.size w wr) (fun _ i _ => 0 - (intOf i).toNat)
  case atStart => exact ⟨rfl, rfl, Below.refl _ _⟩
  case round =>
    obtain ⟨rfl, rfl, hb⟩ := hrel
    go_wp2
    go_ret
    exact ⟨rfl, hb⟩

theorem added_any (n : Nat) (f : Nat → ByteArray) (hn : n ≤ 1048576) (hf : Fits 1048576 n f) (a : Option Addr) (cap : Nat) (w : World) (hr : RowS w a n f) :
    Calls Try.prog 63 #[.slice a n cap] w fun e w' => e = .returned (.string (Gfm.addF n f)) ∧ Below w.heap.size w w' := by
  rcases hr.place with rfl | ⟨b, o, rfl⟩
  · exact added_none f a cap w
  · exact added_some n f hn hf b o cap w hr

set_option maxHeartbeats 1000000 in
theorem P_any (n : Nat) (f : Nat → ByteArray) (hn : n ≤ 1048576) (hf : Fits 1048576 n f) (a : Option Addr) (cap : Nat) (w : World) (hr : RowS w a n f) :
    Calls Try.prog 64 #[.slice a n cap] w fun e w' => e = .returned (.string (Gfm.addF n f)) ∧ Below w.heap.size w w' := by
  go_enter Try.func64, Try.ntmps64
  go_wp2_with fail
  refine (added_any n f hn hf a cap _ hr).mono ?_
  rintro e w' ⟨rfl, hb⟩
  go_wp2
  go_ret
  exact ⟨rfl, hb⟩


/-- two texts, as columns -/
def two (s t : ByteArray) (i : Nat) : ByteArray := if i = 0 then s else t
theorem addF_two (s t : ByteArray) : Gfm.addF 2 (two s t) = Gfm.xorB s t := by
  show Gfm.xorB (Gfm.xorB ByteArray.empty s) t = _
  congr 1
theorem Fits.two {B : Nat} {s t : ByteArray} (hs : s.size ≤ B) (ht : t.size ≤ B) : Fits B 2 (two s t) := fun i _ => by
  unfold Go.Proofs.Ytjephdeolifbpaa.two; split <;> assumption
theorem RowS.two (w : World) (s t : ByteArray) (T : TypeId) : RowS (w.alloc (.cells #[.string s, .string t] T)) (some ⟨w.heap.size, 0, none⟩) 2 (two s t) :=
  RowS.new w 2 _ _ _ rfl
/-- the sum of two, as the program asks for it -/
theorem added_two (s t : ByteArray) (hs : s.size ≤ 1048576) (ht : t.size ≤ 1048576) (T : TypeId) (w : World) :
    Calls Try.prog 63 #[.slice (some ⟨w.heap.size, 0, none⟩) 2 2] (w.alloc (.cells #[.string s, .string t] T)) fun e w' => e = .returned (.string (Gfm.xorB s t)) ∧ Below w.heap.size w w' := by
  refine (added_any 2 _ (by omega) (Fits.two hs ht) _ _ _ (RowS.two w s t T)).mono ?_
  rintro e w' ⟨rfl, hb⟩
  exact ⟨by rw [addF_two], ((Below.refl _ w).alloc (Nat.le_refl _) _).trans (hb.mono (by simp))⟩

end Go.Proofs.Ytjephdeolifbpaa
