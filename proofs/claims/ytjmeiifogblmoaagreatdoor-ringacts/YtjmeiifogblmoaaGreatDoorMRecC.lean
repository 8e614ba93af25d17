/- Several texts in one. The walks of what the statements on records call: a text filled up, the bound, two rows of texts compared. The walks of the statements' own parts and theirs. The walk of the statements' own theirs: the document's record of the program's. The walk of the statements' own some: a record that may be, of some texts. -/
import Derived.Test.YtjmeiifogblmoaaGreatDoorMPlA
import Derived.Test.YtjmeiifogblmoaaGreatDoorKitTexts
import Derived.Deep.LoopGhost
import Derived.BigQuiet
import Derived.IntWalk
import Derived.Test.YtjmeiifogblmoaaGreatDoorMRecB
import Derived.OwnWalk
import Derived.Deep.Cut
namespace Go.Proofs.YtjmeiifogblmoaaGreatDoor
open Go.RowKit

namespace Rc
/-- k bytes of nought -/
def zeros (k : Nat) : ByteArray := ⟨(List.replicate k 0).toArray⟩
theorem zeros_size (k : Nat) : (zeros k).size = k := by simp [zeros, ByteArray.size]
/-- a text filled up to a sector -/
def fillB (s : ByteArray) : ByteArray := (s ++ zeros 64).extract 0 64
theorem fillB_size (s : ByteArray) : (fillB s).size = 64 := by
  unfold fillB
  rw [ByteArray.size_extract, ByteArray.size_append, zeros_size]; omega
/-- two rows of texts are the same -/
def sameT (f g : Nat → ByteArray) : Nat → Bool
  | 0 => true
  | n + 1 => sameT f g n && decide (f n = g n)
theorem sameT_iff (f g : Nat → ByteArray) : ∀ n, sameT f g n = true ↔ ∀ i, i < n → f i = g i
  | 0 => ⟨fun _ _ h => absurd h (Nat.not_lt_zero _), fun _ => rfl⟩
  | n + 1 => by
    unfold sameT
    rw [Bool.and_eq_true, sameT_iff f g n, decide_eq_true_iff]
    constructor
    · rintro ⟨h1, h2⟩ i hi
      by_cases e : i = n
      · subst e; exact h2
      · exact h1 i (by omega)
    · intro h; exact ⟨fun i hi => h i (by omega), h n (by omega)⟩
theorem sameT_not {f g : Nat → ByteArray} {n i : Nat} (hi : i < n) (h : f i ≠ g i) : sameT f g n = false := by
  cases e : sameT f g n with
  | false => rfl
  | true => exact absurd ((sameT_iff f g n).1 e i hi) h
/-- within the statements' bound -/
def Light12 (n : Nat) (f : Nat → ByteArray) : Prop := n ≤ 50 ∧ ∀ j, j < n → (f j).size ≤ 100
end Rc

set_option maxRecDepth 100000 in
set_option maxHeartbeats 400000 in
theorem blank12_any (w : World) : Calls Tryz.prog 40 #[] w fun e w' => e = .returned (.string (Rc.zeros 64)) ∧ w' = w := by
  go_enter Tryz.func40, Tryz.ntmps40
  go_wp2
  go_loop [1, 2] (fun s i => ∃ k : Nat, k ≤ 64 ∧ i = .int .i64 k ∧ s = .string (Rc.zeros k)) (fun _ i => 64 - (intOf i).toNat)
  case atStart => exact ⟨0, by omega, rfl, rfl⟩
  case round =>
    obtain ⟨k, hk, rfl, rfl⟩ := hrel
    by_cases hlt : k < 64
    · have hsz := Rc.zeros_size k
      obtain ⟨t, ht⟩ : ∃ t, t = Rc.zeros k := ⟨_, rfl⟩
      rw [← ht] at hsz ⊢
      have HT : Hid (t = Rc.zeros k) := ht
      clear ht
      go_wp2
      go_round
      case rel => exact ⟨k + 1, by omega, by go_num, by
        rw [HT.out]
        unfold Rc.zeros
        rw [List.replicate_succ']
        first | rfl | (congr 1; apply ByteArray.ext; simp; rfl)⟩
      case measure => simp [intOf]; omega
    · have hkk : k = 64 := by omega
      subst hkk
      go_wp2
      go_ret
      exact ⟨rfl, rfl⟩

end Go.Proofs.YtjmeiifogblmoaaGreatDoor

namespace Go.Proofs.YtjmeiifogblmoaaGreatDoor
open Go.RowKit

theorem info_part12b : (Tryz.prog.info? 119).map (fun i => (i.zero, i.size, i.bytes)) = some (some (.agg #[.int .i64 0, .int .i64 0, .string ByteArray.empty]), 3, 32) := by kernel_rfl

end Go.Proofs.YtjmeiifogblmoaaGreatDoor

namespace Go.Proofs.YtjmeiifogblmoaaGreatDoor
open Go.RowKit

theorem only_low13 {w w1 w2 : World} {F : Nat → Prop} (h : Only F w w1) (hb : Below w.heap.size w1 w2) : Only F w w2 := only_low h hb
theorem cell_same13 {w w' : World} {b : Nat} (h : w'.heap[b]? = w.heap[b]?) (j : Nat) : w'.cell? ⟨b, j, none⟩ = w.cell? ⟨b, j, none⟩ ∧ w'.frozen? ⟨b, j, none⟩ = w.frozen? ⟨b, j, none⟩ := by
  unfold World.cell? World.frozen?
  dsimp only
  rw [h]
  exact ⟨rfl, rfl⟩
/-- three records made one behind the other -/
theorem boxes3 (w : World) (x0 x1 x2 y0 y1 y2 z0 z1 z2 : Value) (s t u : TypeId) :
    let W := ((w.alloc (.cells #[x0, x1, x2] s)).alloc (.cells #[y0, y1, y2] t)).alloc (.cells #[z0, z1, z2] u)
    BoxAt W w.heap.size x0 x1 x2 ∧ BoxAt W (w.heap.size + 1) y0 y1 y2 ∧ BoxAt W (w.heap.size + 1 + 1) z0 z1 z2 ∧ Below w.heap.size w W := by
  intro W
  have b1 : Below (w.heap.size + 1) (w.alloc (.cells #[x0, x1, x2] s)) ((w.alloc (.cells #[x0, x1, x2] s)).alloc (.cells #[y0, y1, y2] t)) := by
    have := (Below.refl (w.alloc (.cells #[x0, x1, x2] s)).heap.size (w.alloc (.cells #[x0, x1, x2] s))).alloc (Nat.le_refl _) (.cells #[y0, y1, y2] t)
    simpa using this
  have b2 : Below (w.heap.size + 1 + 1) ((w.alloc (.cells #[x0, x1, x2] s)).alloc (.cells #[y0, y1, y2] t)) W := by
    have := (Below.refl ((w.alloc (.cells #[x0, x1, x2] s)).alloc (.cells #[y0, y1, y2] t)).heap.size ((w.alloc (.cells #[x0, x1, x2] s)).alloc (.cells #[y0, y1, y2] t))).alloc (Nat.le_refl _) (.cells #[z0, z1, z2] u)
    simpa using this
  refine ⟨((BoxAt.new w s x0 x1 x2).below b1 (by omega)).below b2 (by omega), ?_, ?_, ((Below.refl _ w).alloc (Nat.le_refl _) _).trans ((b1.mono (by omega)).trans (b2.mono (by omega)))⟩
  · have := BoxAt.new (w.alloc (.cells #[x0, x1, x2] s)) t y0 y1 y2
    simp only [World.size_alloc] at this
    exact this.below b2 (by omega)
  · have := BoxAt.new ((w.alloc (.cells #[x0, x1, x2] s)).alloc (.cells #[y0, y1, y2] t)) u z0 z1 z2
    simp only [World.size_alloc] at this
    exact this

end Go.Proofs.YtjmeiifogblmoaaGreatDoor

namespace Go.Proofs.YtjmeiifogblmoaaGreatDoor
open Go.RowKit

namespace Rc
/-- the place of the part j -/
def placeN (fr j : Nat) : Nat := (fr + j * 7) % 40
def someP (fr : Nat) (l : Nat → ByteArray) (j : Nat) : Prt := ⟨(placeN fr j / 4 : Nat), (placeN fr j % 4 : Nat), fillB (l j)⟩
def someN (n : Nat) : Nat := min n 40
end Rc
theorem info_part12c : (Tryz.prog.info? 83).map (fun i => (i.zero, i.size, i.bytes)) = some (some (.agg #[.int .i64 0, .int .i64 0, .string ByteArray.empty]), 3, 32) := by kernel_rfl
/-- two records made one behind the other -/
theorem boxes2 (w : World) (x0 x1 x2 y0 y1 y2 : Value) (s t : TypeId) :
    let W := (w.alloc (.cells #[x0, x1, x2] s)).alloc (.cells #[y0, y1, y2] t)
    BoxAt W w.heap.size x0 x1 x2 ∧ BoxAt W (w.heap.size + 1) y0 y1 y2 ∧ Below w.heap.size w W := by
  intro W
  have b1 : Below (w.heap.size + 1) (w.alloc (.cells #[x0, x1, x2] s)) W := by
    have := (Below.refl (w.alloc (.cells #[x0, x1, x2] s)).heap.size (w.alloc (.cells #[x0, x1, x2] s))).alloc (Nat.le_refl _) (.cells #[y0, y1, y2] t)
    simpa using this
  refine ⟨(BoxAt.new w s x0 x1 x2).below b1 (by omega), ?_, ((Below.refl _ w).alloc (Nat.le_refl _) _).trans (b1.mono (by omega))⟩
  have := BoxAt.new (w.alloc (.cells #[x0, x1, x2] s)) t y0 y1 y2
  simp only [World.size_alloc] at this
  exact this

end Go.Proofs.YtjmeiifogblmoaaGreatDoor
