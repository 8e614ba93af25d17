/- A row with its own P and Q is good; with one byte that is another one it is not. -/
import Derived.Test.YtjephdeolifbpaaSynSum
import Derived.Test.YtjephdeolifbpaaKitJoin
namespace Go.Proofs.Ytjephdeolifbpaa
open Go.RowKit
open Gfm

/-- n columns, and their P and Q behind them -/
def ownRow (n : Nat) (f : Nat → ByteArray) : Nat → ByteArray := joinF n f (two (addF n f) (addF n (qT f)))
theorem ownRow_data (n : Nat) (f : Nat → ByteArray) {i : Nat} (h : i < n) : ownRow n f i = f i := if_pos h
theorem ownRow_p (n : Nat) (f : Nat → ByteArray) : ownRow n f n = addF n f := by
  unfold ownRow joinF; rw [if_neg (by omega), Nat.sub_self]; rfl
theorem ownRow_q (n : Nat) (f : Nat → ByteArray) : ownRow n f (n + 1) = addF n (qT f) := by
  unfold ownRow joinF; rw [if_neg (by omega), show n + 1 - n = 1 from by omega]; rfl
theorem Fits.own {B n : Nat} {f : Nat → ByteArray} (h : Fits B n f) : Fits B (n + 2) (ownRow n f) := fun i hi => by
  by_cases h1 : i < n
  · rw [ownRow_data n f h1]; exact h i h1
  · by_cases h2 : i = n
    · subst h2; rw [ownRow_p]; exact h.add
    · have h3 : i = n + 1 := by omega
      subst h3; rw [ownRow_q]; exact h.qT.add
theorem addF_own (n : Nat) (f g : Nat → ByteArray) (h : ∀ i, i < n → g i = f i) : addF n g = addF n f ∧ addF n (qT g) = addF n (qT f) :=
  ⟨addF_congr h, addF_congr fun i hi => by unfold qT; rw [h i hi]⟩
theorem own_good (n : Nat) (f : Nat → ByteArray) : goodF n (ownRow n f) = true := by
  obtain ⟨h1, h2⟩ := addF_own n f (ownRow n f) fun i hi => ownRow_data n f hi
  unfold goodF sumP sumQ
  rw [h1, h2, ownRow_p, ownRow_q, xor_self_zero, xor_self_zero]; rfl
theorem ux_ne {a b : UInt8} (h : a ≠ b) : a ^^^ b ≠ 0 := fun e => h (by
  have e' : (a ^^^ b) ^^^ b = 0 ^^^ b := by rw [e]
  rw [UInt8.xor_assoc, UInt8.xor_self, UInt8.xor_zero, UInt8.zero_xor] at e'
  exact e')
theorem own_bad (n : Nat) (f : Nat → ByteArray) {r : Nat} (hr : r < n + 2) (t : ByteArray) (j : Nat) (h : byt (ownRow n f r) j ≠ byt t j) : goodF n (upd (ownRow n f) r t) = false := by
  obtain ⟨h1, h2⟩ := addF_own n f (ownRow n f) fun i hi => ownRow_data n f hi
  unfold goodF
  by_cases c1 : r < n
  · have e : zeroS (sumP n (upd (ownRow n f) r t)) = false := by
      refine zeroS_no j ?_
      unfold sumP
      rw [byt_xor, byt_addF, upd_other _ _ (by omega), ownRow_p]
      rw [xorN_set c1 (fun i => byt (ownRow n f i) j) (fun i => byt (upd (ownRow n f) r t i) j) (fun i _ hne => by show byt (upd _ r t i) j = _; rw [upd_other _ _ hne])]
      show (xorN n (fun i => byt (ownRow n f i) j) ^^^ (byt (ownRow n f r) j ^^^ byt (upd (ownRow n f) r t r) j)) ^^^ byt (addF n f) j ≠ 0
      rw [upd_same, ← byt_addF, h1]
      have : (byt (addF n f) j ^^^ (byt (ownRow n f r) j ^^^ byt t j)) ^^^ byt (addF n f) j = byt (ownRow n f r) j ^^^ byt t j := by
        rw [UInt8.xor_comm (byt (addF n f) j), UInt8.xor_assoc, UInt8.xor_self, UInt8.xor_zero]
      rw [this]
      exact ux_ne h
    rw [e]; rfl
  · obtain ⟨g1, g2⟩ := addF_own n f (upd (ownRow n f) r t) fun i hi => by rw [upd_other _ _ (by omega), ownRow_data n f hi]
    by_cases c2 : r = n
    · subst c2
      have e : zeroS (sumP r (upd (ownRow r f) r t)) = false := by
        refine zeroS_no j ?_
        unfold sumP
        rw [byt_xor, g1, upd_same]
        rw [ownRow_p] at h
        exact ux_ne h
      rw [e]; rfl
    · have c3 : r = n + 1 := by omega
      subst c3
      have e : zeroS (sumQ n (upd (ownRow n f) (n + 1) t)) = false := by
        refine zeroS_no j ?_
        unfold sumQ
        rw [byt_xor, g2, upd_same]
        rw [ownRow_q] at h
        exact ux_ne h
      rw [e, Bool.and_false]
/-- a text with another byte at place j -/
theorem put_byte (s : ByteArray) (j : Nat) (hj : j < s.size) (c : UInt8) : (s.extract 0 j ++ ⟨#[c]⟩ ++ s.extract (j + 1) s.size).size = s.size ∧ byt (s.extract 0 j ++ ⟨#[c]⟩ ++ s.extract (j + 1) s.size) j = c := by
  obtain ⟨t, ht⟩ : ∃ t, s.extract 0 j ++ ⟨#[c]⟩ ++ s.extract (j + 1) s.size = t := ⟨_, rfl⟩
  have hj' : j < s.data.toList.length := by simpa using hj
  have lt : t.data.toList = s.data.toList.take j ++ c :: s.data.toList.drop (j + 1) := by
    rw [← ht]
    simp [List.extract_eq_take_drop]
    exact List.take_of_length_le (by simp)
  rw [ht]
  constructor
  · have h1 : t.data.toList.length = t.size := by simp
    have h2 : s.data.toList.length = s.size := by simp
    rw [← h1, ← h2, lt]
    simp; omega
  · unfold byt
    rw [lt, List.getD_eq_getElem?_getD, List.getElem?_append_right (by rw [List.length_take]; omega)]
    have : j - (List.take j s.data.toList).length = 0 := by rw [List.length_take]; omega
    rw [this]; rfl
theorem textVals_set (n r : Nat) (f : Nat → ByteArray) (t : ByteArray) : (textVals n f).set r (.string t) = textVals n (upd f r t) := by
  refine List.ext_getElem? fun j => ?_
  rw [List.getElem?_set, textVals_length]
  by_cases h : r = j
  · subst h
    rw [if_pos rfl]
    by_cases hn : r < n
    · rw [if_pos hn, textVals_at _ hn, upd_same]
    · rw [if_neg hn, List.getElem?_eq_none (by rw [textVals_length]; omega)]
  · rw [if_neg h]
    by_cases hn : j < n
    · rw [textVals_at _ hn, textVals_at _ hn, upd_other _ _ (Ne.symm h)]
    · rw [List.getElem?_eq_none (by rw [textVals_length]; omega), List.getElem?_eq_none (by rw [textVals_length]; omega)]
theorem Fits.upd {B n : Nat} {f : Nat → ByteArray} (h : Fits B n f) {r : Nat} {t : ByteArray} (ht : t.size ≤ B) : Fits B n (upd f r t) := fun i hi => by
  by_cases e : i = r
  · subst e; rw [upd_same]; exact ht
  · rw [upd_other _ _ e]; exact h i hi
end Go.Proofs.Ytjephdeolifbpaa
