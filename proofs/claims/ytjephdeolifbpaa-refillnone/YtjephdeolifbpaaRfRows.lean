/- Columns that are filled, as texts: what is kept, what is found again, when the row is good. -/
import Derived.Test.YtjephdeolifbpaaRfSays
namespace Go.Proofs.Ytjephdeolifbpaa
open Go.RowKit
namespace Rf
open Gfm
theorem szO_same {f : Nat → ByteArray} {ln n s : Nat} {L : Nat → Int} (h : ∀ i, i < n → hasF ln L (i : Int) = false → (f i).size = s) :
    (szO f ln L n = some (-1) ∧ ∀ i, i < n → hasF ln L (i : Int) = true) ∨ szO f ln L n = some (s : Int) := by
  induction n with
  | zero => exact .inl ⟨rfl, fun i hi => absurd hi (Nat.not_lt_zero _)⟩
  | succ n ih =>
    have ih := ih fun i hi => h i (by omega)
    cases hl : hasF ln L (n : Int) with
    | true =>
      rcases ih with ⟨e, ha⟩ | e
      · refine .inl ⟨szO_lost e hl, fun i hi => ?_⟩
        by_cases c : i = n
        · subst c; exact hl
        · exact ha i (by omega)
      · exact .inr (szO_lost e hl)
    | false =>
      have hs := h n (by omega) hl
      rcases ih with ⟨e, _⟩ | e
      · right; rw [← hs]; exact szO_next e hl (by omega)
      · right; rw [← hs]; exact szO_next e hl (by omega)
/-- one of three is kept -/
theorem kept_one {m ln : Nat} {L : Nat → Int} (h : Lost m ln L) (hm : 1 ≤ m) : ∃ i, i < m + 2 ∧ hasF ln L (i : Int) = false := by
  cases h0 : hasF ln L ((0 : Nat) : Int) with
  | false => exact ⟨0, by omega, h0⟩
  | true =>
    cases h1 : hasF ln L ((1 : Nat) : Int) with
    | false => exact ⟨1, by omega, h1⟩
    | true =>
      cases h2 : hasF ln L ((2 : Nat) : Int) with
      | false => exact ⟨2, by omega, h2⟩
      | true => exact absurd (h.three h0 h1 h2 (by omega) (by omega) (by omega)) id
theorem szF_same {m : Nat} {f : Nat → ByteArray} {ln s : Nat} {L : Nat → Int} (h : Lost m ln L) (hm : 1 ≤ m) (hs : ∀ i, i < m + 2 → hasF ln L (i : Int) = false → (f i).size = s) : szF f ln L (m + 2) = (s : Int) := by
  obtain ⟨i, hi, hk⟩ := kept_one h hm
  unfold szF
  rcases szO_same hs with ⟨_, ha⟩ | e
  · rw [ha i hi] at hk; cases hk
  · rw [e]; rfl
/-- nothing is wrong -/
theorem mayF_fine {m : Nat} {f : Nat → ByteArray} {ln s : Nat} {L : Nat → Int} (h : Lost m ln L) (hm : 2 ≤ m) (hm2 : m ≤ 8) (h4 : s ≤ 4096) (hs : ∀ i, i < m + 2 → hasF ln L (i : Int) = false → (f i).size = s) : mayF (m + 2) f ln L = 0 := by
  have e := szF_same h (by omega) hs
  refine mayF_ok (by omega) (okL_of fun i hi => h.ok i hi) ?_ (by have := h.two; omega)
  rw [e]; omega
theorem rowsR_eq {m : Nat} {f : Nat → ByteArray} {ln : Nat} {L : Nat → Int} (t : Nat) : rowsR (m + 2) f ln L t = fillB m (atB f ln L t) (lostD m ln L) (hasF ln L (m : Int)) (hasF ln L ((m : Int) + 1)) := rfl
/-- what is not lost stays -/
theorem fillF_keeps {m : Nat} {f : Nat → ByteArray} {ln s : Nat} {L : Nat → Int} (h : Lost m ln L) (hm : 1 ≤ m) (hs : ∀ i, i < m + 2 → hasF ln L (i : Int) = false → (f i).size = s) {i : Nat} (hi : i < m + 2) (hk : hasF ln L (i : Int) = false) : fillF (m + 2) f ln L i = f i := by
  have e := szF_same h hm hs
  refine byt_ext (by rw [fillF_size e, hs i hi hk]) fun t => ?_
  by_cases ht : t < s
  · rw [fillF_byt e ht, rowsR_eq, fill_keeps h hi hk, atB_kept hk]
  · rw [byt_past (by rw [fillF_size e]; omega), byt_past (by rw [hs i hi hk]; omega)]
/-- the bytes at place t of columns -/
def col (g : Nat → ByteArray) (t i : Nat) : UInt8 := byt (g i) t
/-- a good row of one length is found again -/
theorem fillF_good {m : Nat} {f : Nat → ByteArray} {ln s : Nat} {L : Nat → Int} {g : Nat → ByteArray} (h : Lost m ln L) (hm : 1 ≤ m) (hg : ∀ i, i < m + 2 → (g i).size = s) (hk : ∀ i, i < m + 2 → hasF ln L (i : Int) = false → f i = g i) (hgood : ∀ t, synP m (col g t) = 0 ∧ synQ m (col g t) = 0) :
    ∀ i, i < m + 2 → fillF (m + 2) f ln L i = g i := by
  have e := szF_same (f := f) (s := s) h hm fun i hi hh => by rw [hk i hi hh]; exact hg i hi
  intro i hi
  refine byt_ext (by rw [fillF_size e, hg i hi]) fun t => ?_
  by_cases ht : t < s
  · rw [fillF_byt e ht, rowsR_eq]
    exact fill_good h (g := col g t) (hgood t).1 (hgood t).2 (fun j hj hh => by rw [atB_kept hh, hk j hj hh]; rfl) (fun j hj hh => atB_lost hh) i hi
  · rw [byt_past (by rw [fillF_size e]; omega), byt_past (by rw [hg i hi]; omega)]
/-- where two are lost, what is filled is good -/
theorem fillF_two {m : Nat} {f : Nat → ByteArray} {ln s : Nat} {L : Nat → Int} (h : Lost m ln L) (h2 : ln = 2) (hm : 1 ≤ m) (hs : ∀ i, i < m + 2 → hasF ln L (i : Int) = false → (f i).size = s) (t : Nat) : synP m (col (fillF (m + 2) f ln L) t) = 0 ∧ synQ m (col (fillF (m + 2) f ln L) t) = 0 := by
  have e := szF_same h hm hs
  by_cases ht : t < s
  · have hc : ∀ i, col (fillF (m + 2) f ln L) t i = rowsR (m + 2) f ln L t i := fun i => fillF_byt e ht
    have : col (fillF (m + 2) f ln L) t = fillB m (atB f ln L t) (lostD m ln L) (hasF ln L (m : Int)) (hasF ln L ((m : Int) + 1)) := funext fun i => by rw [hc i, rowsR_eq]
    rw [this]
    exact fill_two h h2 fun i _ hh => atB_lost hh
  · have hc : col (fillF (m + 2) f ln L) t = fun _ => 0 := funext fun i => byt_past (by rw [fillF_size e]; omega)
    rw [hc]
    unfold synP synQ
    simp only [mulU_zero]
    rw [xorN_zero]; exact ⟨rfl, rfl⟩
/-- a row with its own P and Q is good -/
theorem own_bytes (m : Nat) (f : Nat → ByteArray) (t : Nat) : synP m (col (ownRow m f) t) = 0 ∧ synQ m (col (ownRow m f) t) = 0 := by
  have hd : ∀ i, i < m → col (ownRow m f) t i = byt (f i) t := fun i hi => by unfold col; rw [ownRow_data m f hi]
  constructor
  · unfold synP
    rw [xorN_congr hd]
    unfold col
    rw [ownRow_p, byt_addF, UInt8.xor_self]
  · unfold synQ
    rw [xorN_congr (g := fun i => mulU (byt (f i) t) (pE i)) fun i hi => by rw [hd i hi]]
    unfold col
    rw [ownRow_q, byt_addQ, UInt8.xor_self]
theorem own_size {m s : Nat} {f : Nat → ByteArray} (hm : 1 ≤ m) (hs : ∀ i, i < m → (f i).size = s) {i : Nat} (hi : i < m + 2) : (ownRow m f i).size = s := by
  have hmax : ∀ g : Nat → Nat, (∀ i, i < m → g i = s) → maxN m g = s := fun g hg => Nat.le_antisymm (maxN_le fun i hi => by rw [hg i hi]; exact Nat.le_refl _) (by have := le_maxN g (k := 0) (n := m) (by omega); rw [hg 0 (by omega)] at this; exact this)
  by_cases a : i < m
  · rw [ownRow_data m f a]; exact hs i a
  · by_cases c : i = m
    · subst c; rw [ownRow_p, addF_size]; exact hmax _ hs
    · obtain rfl : i = m + 1 := by omega
      rw [ownRow_q, addF_size]
      exact hmax _ fun i hi => by rw [qT_size]; exact hs i hi
/-- good, byte by byte -/
theorem good_bytes {m : Nat} {g : Nat → ByteArray} (h : ∀ t, synP m (col g t) = 0 ∧ synQ m (col g t) = 0) : goodF m g = true := by
  unfold goodF
  have e1 : zeroS (sumP m g) = true := zeroS_of fun t => by
    unfold sumP; rw [byt_xor, byt_addF, UInt8.xor_comm]; exact (h t).1
  have e2 : zeroS (sumQ m g) = true := zeroS_of fun t => by
    unfold sumQ; rw [byt_xor, byt_addQ, UInt8.xor_comm]; exact (h t).2
  rw [e1, e2]; rfl
/-- the places of none, of one, of two -/
theorem Lost.zero {m : Nat} (hm : m < 16) (L : Nat → Int) : Lost m 0 L := ⟨by omega, hm, fun i hi => absurd hi (Nat.not_lt_zero _)⟩
theorem Lost.one {m a : Nat} (hm : m < 16) (ha : a < m + 2) (L : Nat → Int) (h0 : L 0 = (a : Int)) : Lost m 1 L := ⟨by omega, hm, fun i hi => by
  obtain rfl : i = 0 := by omega
  rw [h0]; exact ⟨by omega, by omega, rfl⟩⟩
theorem Lost.pair {m a b : Nat} (hm : m < 16) (ha : a < m + 2) (hb : b < m + 2) (hab : a ≠ b) (L : Nat → Int) (h0 : L 0 = (a : Int)) (h1 : L 1 = (b : Int)) : Lost m 2 L := ⟨by omega, hm, fun i hi => by
  by_cases e : i = 0
  · subst e; rw [h0]; exact ⟨by omega, by omega, rfl⟩
  · obtain rfl : i = 1 := by omega
    rw [h1]
    refine ⟨by omega, by omega, hasF_no fun j hj => ?_⟩
    obtain rfl : j = 0 := by omega
    rw [h0]; omega⟩
theorem has_pair {a b : Nat} {L : Nat → Int} (h0 : L 0 = (a : Int)) (h1 : L 1 = (b : Int)) {i : Nat} : hasF 2 L (i : Int) = false ↔ i ≠ a ∧ i ≠ b := by
  rw [hasF_succ, hasF_succ, hasF_zero, h0, h1]
  simp
  omega
end Rf
end Go.Proofs.Ytjephdeolifbpaa
