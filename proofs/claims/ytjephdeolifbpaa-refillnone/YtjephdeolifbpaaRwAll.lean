/- The walk of the program's filling of a blanked row, whichever columns are lost. -/
import Derived.Test.YtjephdeolifbpaaRwDone
namespace Go.Proofs.Ytjephdeolifbpaa
open Go.RowKit

theorem min_any (ln : Nat) (h0 : 0 < ln) (hln : ln ≤ 1000) (L : Nat → Int) (b : Option Addr) (capb : Nat) (w : World) (hl : RowI .i64 w b ln L) :
    Calls Try.prog 37 #[.slice b ln capb] w fun e w' => e = .returned (.int .i64 (Lib.minOf (Rf.uptoL L ln))) ∧ w' = w := by
  obtain ⟨b0, o0, rfl, _⟩ := hl 0 h0
  have hz := Rf.uptoL_length L ln
  have h := Try.slices_Min_int b0 o0 ln capb (Rf.uptoL L ln) w h0 (by omega) (by omega) fun j hj => by
    obtain ⟨b1, o1, e, hc⟩ := hl j (by omega)
    cases e
    rw [hc]
    rw [hz] at hj
    simp [Rf.uptoL, hj]
  rw [List.take_of_length_le (by omega)] at h
  exact h
theorem max_any (ln : Nat) (h0 : 0 < ln) (hln : ln ≤ 1000) (L : Nat → Int) (b : Option Addr) (capb : Nat) (w : World) (hl : RowI .i64 w b ln L) :
    Calls Try.prog 38 #[.slice b ln capb] w fun e w' => e = .returned (.int .i64 (Lib.maxOf (Rf.uptoL L ln))) ∧ w' = w := by
  obtain ⟨b0, o0, rfl, _⟩ := hl 0 h0
  have hz := Rf.uptoL_length L ln
  have h := Try.slices_Max_int b0 o0 ln capb (Rf.uptoL L ln) w h0 (by omega) (by omega) fun j hj => by
    obtain ⟨b1, o1, e, hc⟩ := hl j (by omega)
    cases e
    rw [hc]
    rw [hz] at hj
    simp [Rf.uptoL, hj]
  rw [List.take_of_length_le (by omega)] at h
  exact h
namespace Rf
/-- what is lost: one at lo, or two at lo and hi, told in either order -/
structure Ends (ln : Nat) (L : Nat → Int) (lo hi : Nat) : Prop where
  some : (ln = 1 ∧ lo = hi ∧ L 0 = (lo : Int)) ∨ (ln = 2 ∧ lo < hi ∧ ((L 0 = (lo : Int) ∧ L 1 = (hi : Int)) ∨ (L 0 = (hi : Int) ∧ L 1 = (lo : Int))))
theorem Ends.of {n ln : Nat} {L : Nat → Int} (h0 : 0 < ln) (h2 : ln ≤ 2) (hok : ∀ i, i < ln → 0 ≤ L i ∧ L i < (n : Int) ∧ hasF i L (L i) = false) : ∃ lo hi, lo < n ∧ hi < n ∧ Ends ln L lo hi := by
  obtain ⟨a0, b0, _⟩ := hok 0 h0
  obtain ⟨x, hx⟩ := Int.eq_ofNat_of_zero_le a0
  by_cases e : ln = 1
  · exact ⟨x, x, by omega, by omega, ⟨.inl ⟨e, rfl, hx⟩⟩⟩
  · obtain ⟨a1, b1, c1⟩ := hok 1 (by omega)
    obtain ⟨y, hy⟩ := Int.eq_ofNat_of_zero_le a1
    have hne : x ≠ y := fun e => by
      rw [hasF_yes (i := 0) (by omega) (by rw [hx, hy, e])] at c1; cases c1
    by_cases hlt : x < y
    · exact ⟨x, y, by omega, by omega, ⟨.inr ⟨by omega, hlt, .inl ⟨hx, hy⟩⟩⟩⟩
    · exact ⟨y, x, by omega, by omega, ⟨.inr ⟨by omega, by omega, .inr ⟨hx, hy⟩⟩⟩⟩
variable {ln lo hi : Nat} {L : Nat → Int}
theorem upto_one (L : Nat → Int) : uptoL L 1 = [L 0] := rfl
theorem upto_two (L : Nat → Int) : uptoL L 2 = [L 0, L 1] := rfl
theorem Ends.min (h : Ends ln L lo hi) : Lib.minOf (uptoL L ln) = (lo : Int) := by
  rcases h.some with ⟨rfl, _, e⟩ | ⟨rfl, hlt, ⟨e, e'⟩ | ⟨e, e'⟩⟩
  · rw [upto_one, e]; show Min.min (lo : Int) lo = lo; omega
  · rw [upto_two, e, e']; show Min.min (Min.min (lo : Int) lo) hi = lo; omega
  · rw [upto_two, e, e']; show Min.min (Min.min (hi : Int) hi) lo = lo; omega
theorem Ends.max (h : Ends ln L lo hi) : Lib.maxOf (uptoL L ln) = (hi : Int) := by
  rcases h.some with ⟨rfl, e0, e⟩ | ⟨rfl, hlt, ⟨e, e'⟩ | ⟨e, e'⟩⟩
  · rw [upto_one, e]; show Max.max (lo : Int) lo = hi; omega
  · rw [upto_two, e, e']; show Max.max (Max.max (lo : Int) lo) hi = hi; omega
  · rw [upto_two, e, e']; show Max.max (Max.max (hi : Int) hi) lo = hi; omega
def pick2 (lo hi j : Nat) : Nat := if j = 0 then lo else hi
theorem Ends.sorted (h : Ends ln L lo hi) : ((uptoL L ln).mergeSort fun x y => decide (x ≤ y)) = (List.range ln).map fun j => ((pick2 lo hi j : Nat) : Int) := by
  rcases h.some with ⟨rfl, _, e⟩ | ⟨rfl, hlt, ⟨e, e'⟩ | ⟨e, e'⟩⟩
  · rw [upto_one, e, sort_one]; rfl
  · rw [upto_two, e, e', sort_two _ _ (by omega)]; rfl
  · rw [upto_two, e, e', sort_turn _ _ (by omega)]; rfl
theorem Ends.has (h : Ends ln L lo hi) (x : Int) : hasF ln L x = true ↔ x = (lo : Int) ∨ x = (hi : Int) := by
  rcases h.some with ⟨rfl, e0, e⟩ | ⟨rfl, hlt, ⟨e, e'⟩ | ⟨e, e'⟩⟩
  · rw [hasF_succ, hasF_zero, e]; simp; omega
  · rw [hasF_succ, hasF_succ, hasF_zero, e, e']; simp; omega
  · rw [hasF_succ, hasF_succ, hasF_zero, e, e']; simp; omega
theorem Ends.not (h : Ends ln L lo hi) {x : Int} (h1 : x ≠ (lo : Int)) (h2 : x ≠ (hi : Int)) : hasF ln L x = false := by
  cases e : hasF ln L x with
  | false => rfl
  | true => rcases (h.has x).1 e with h3 | h3 <;> contradiction
theorem Ends.lo_in (h : Ends ln L lo hi) : hasF ln L (lo : Int) = true := (h.has _).2 (.inl rfl)
theorem Ends.hi_in (h : Ends ln L lo hi) : hasF ln L (hi : Int) = true := (h.has _).2 (.inr rfl)
theorem Ends.none (h : Ends ln L lo hi) {m : Nat} (h1 : m ≤ lo) (h2 : m ≤ hi) : lostD m ln L = [] := by
  rcases h.some with ⟨rfl, _, e⟩ | ⟨rfl, hlt, ⟨e, e'⟩ | ⟨e, e'⟩⟩
  · rw [lostD_no (by omega)]; rfl
  · rw [lostD_no (by omega), lostD_no (by omega)]; rfl
  · rw [lostD_no (by omega), lostD_no (by omega)]; rfl
theorem Ends.one (h : Ends ln L lo hi) {m : Nat} (h1 : lo < m) (h2 : m ≤ hi ∨ ln = 1) : lostD m ln L = [lo] := by
  rcases h.some with ⟨rfl, _, e⟩ | ⟨rfl, hlt, ⟨e, e'⟩ | ⟨e, e'⟩⟩
  · rw [lostD_yes (by omega), e]; rfl
  · rw [lostD_no (by omega), lostD_yes (by omega), e]; rfl
  · rw [lostD_yes (by omega), lostD_no (by omega), e']; rfl
theorem Ends.two (h : Ends ln L lo hi) {m : Nat} (h1 : hi < m) (h2 : ln = 2) : lostD m ln L = [lo, hi] ∨ lostD m ln L = [hi, lo] := by
  rcases h.some with ⟨rfl, _, e⟩ | ⟨rfl, hlt, ⟨e, e'⟩ | ⟨e, e'⟩⟩
  · omega
  · left; rw [lostD_yes (by omega), lostD_yes (by omega), e, e']; rfl
  · right; rw [lostD_yes (by omega), lostD_yes (by omega), e, e']; rfl
end Rf

theorem refill_all (m n : Nat) (hmn : m + 2 = n) (hm1 : 1 ≤ m) (hn : n ≤ 10) (w0 W : World) (g : Nat) (f : Nat → ByteArray) (ln : Nat) (L : Nat → Int) (s : Nat) (h0 : 0 < ln) (h2 : ln ≤ 2)
    (hok : ∀ i, i < ln → 0 ≤ L i ∧ L i < (n : Int) ∧ Rf.hasF i L (L i) = false) (hz : Rf.szF f ln L n = (s : Int)) (hs : ∀ i, i < n → Rf.hasF ln L (i : Int) = false → (f i).size = s)
    (hlow : Below w0.heap.size w0 W) (own : W.ownsRow w0.heap.size 9 1 (.slice (some ⟨g, 0, none⟩) n n) n (textVals n (Rf.blankF f ln L s))) (fits : Fits 1048576 n (Rf.blankF f ln L s))
    (b : Option Addr) (capb : Nat) (hl : RowI .i64 W b ln L) :
    Calls Try.prog 21 #[.slice (some ⟨g, 0, none⟩) n n, .slice b ln capb] W fun e W' => e = .returned (.tuple #[]) ∧ W'.ownsRow w0.heap.size 9 1 (.slice (some ⟨g, 0, none⟩) n n) n (textVals n (Rf.fillF n f ln L)) ∧ Below w0.heap.size w0 W' := by
  subst hmn
  obtain ⟨lo, hi, hlo, hhi, hE⟩ := Rf.Ends.of h0 h2 hok
  have hMin : ∀ W', Below W.heap.size W W' → Calls Try.prog 37 #[.slice b ln capb] W' fun e w' => e = .returned (.int .i64 (lo : Nat)) ∧ w' = W' := fun W' hb => by
    have := min_any ln h0 (by omega) L b capb W' (hl.below hb)
    rw [hE.min] at this; exact this
  have hMax : ∀ W', Below W.heap.size W W' → Calls Try.prog 38 #[.slice b ln capb] W' fun e w' => e = .returned (.int .i64 (hi : Nat)) ∧ w' = W' := fun W' hb => by
    have := max_any ln h0 (by omega) L b capb W' (hl.below hb)
    rw [hE.max] at this; exact this
  have hKi : ∀ W', Below W.heap.size W W' → Calls Try.prog 44 #[.slice b ln capb, .int .i64 (m : Nat)] W' fun e w' => e = .returned (.agg #[.int .i64 (Rf.kAt (Rf.pick2 lo hi) m ln 0), .int .i64 (Rf.kAt (Rf.pick2 lo hi) m ln 1)]) ∧ Below W'.heap.size W' w' := fun W' hb =>
    kinds_any m (by omega) ln h0 h2 L (Rf.pick2 lo hi) hE.sorted (fun j _ => by unfold Rf.pick2; split <;> omega) b capb W' (hl.below hb)
  have k0 : Rf.kAt (Rf.pick2 lo hi) m ln 0 = Rf.kindF lo m := by unfold Rf.kAt; rw [if_pos h0]; rfl
  rw [k0] at hKi
  have fin : ∀ F : Nat → ByteArray, (∀ i, i < m + 2 → F i = Rf.fillF (m + 2) f ln L i) → textVals (m + 2) F = textVals (m + 2) (Rf.fillF (m + 2) f ln L) := fun F h => textVals_congr h
  rcases hE.some with ⟨e1, rfl, _⟩ | ⟨e2, hlt, _⟩
  · have k1 : Rf.kAt (Rf.pick2 lo lo) m ln 1 = 3 := by unfold Rf.kAt; rw [if_neg (by omega)]
    rw [k1] at hKi
    by_cases c1 : lo < m
    · have k : Rf.kindF lo m = 0 := by unfold Rf.kindF; rw [if_neg (by omega), if_neg (by omega)]
      rw [k] at hKi
      refine (refill_p m _ rfl (by omega) w0 W g _ hlow own fits ln b capb lo lo hlo hhi hMin hMax hKi).mono ?_
      rintro e w' ⟨rfl, ho, hb⟩
      rw [fin _ (Rf.done_p hm1 hz hs (hE.one c1 (.inr e1)) (hE.not (by omega) (by omega)) (hE.not (by omega) (by omega)))] at ho
      exact ⟨rfl, ho, hb⟩
    · by_cases c2 : lo = m
      · subst c2
        have k : Rf.kindF lo lo = 1 := if_pos rfl
        rw [k] at hKi
        refine (refill_pp lo _ rfl (by omega) w0 W g _ hlow own fits ln b capb lo lo hlo hhi hMin hMax hKi).mono ?_
        rintro e w' ⟨rfl, ho, hb⟩
        rw [fin _ (Rf.done_pp hm1 hz hs (hE.none (Nat.le_refl _) (Nat.le_refl _)) hE.lo_in (hE.not (by omega) (by omega)))] at ho
        exact ⟨rfl, ho, hb⟩
      · obtain rfl : lo = m + 1 := by omega
        have k : Rf.kindF (m + 1) m = 2 := by unfold Rf.kindF; rw [if_neg (by omega), if_pos rfl]
        rw [k] at hKi
        refine (refill_q m _ rfl (by omega) w0 W g _ hlow own fits ln b capb (m + 1) (m + 1) hlo hhi hMin hMax hKi).mono ?_
        rintro e w' ⟨rfl, ho, hb⟩
        rw [fin _ (Rf.done_q hm1 hz hs (hE.none (by omega) (by omega)) (hE.not (by omega) (by omega)) ((hE.has _).2 (.inl (by omega))))] at ho
        exact ⟨rfl, ho, hb⟩
  · have k1 : Rf.kAt (Rf.pick2 lo hi) m ln 1 = Rf.kindF hi m := by unfold Rf.kAt; rw [if_pos (by omega)]; rfl
    rw [k1] at hKi
    by_cases c1 : hi < m
    · have k : Rf.kindF lo m = 0 := by unfold Rf.kindF; rw [if_neg (by omega), if_neg (by omega)]
      have k' : Rf.kindF hi m = 0 := by unfold Rf.kindF; rw [if_neg (by omega), if_neg (by omega)]
      rw [k, k'] at hKi
      refine (refill_dd m _ rfl (by omega) w0 W g _ hlow own fits ln b capb lo hi hlo hhi hMin hMax hKi).mono ?_
      rintro e w' ⟨rfl, ho, hb⟩
      rw [fin _ (Rf.done_dd hm1 hz hs (by omega) c1 (by omega) (by omega) hE.lo_in hE.hi_in (hE.two c1 e2) (hE.not (by omega) (by omega)) (hE.not (by omega) (by omega)))] at ho
      exact ⟨rfl, ho, hb⟩
    · by_cases c2 : lo < m
      · have k : Rf.kindF lo m = 0 := by unfold Rf.kindF; rw [if_neg (by omega), if_neg (by omega)]
        by_cases c3 : hi = m
        · subst c3
          have k' : Rf.kindF hi hi = 1 := if_pos rfl
          rw [k, k'] at hKi
          refine (refill_dp hi _ rfl (by omega) w0 W g _ hlow own fits ln b capb lo hi hlo hhi hMin hMax hKi).mono ?_
          rintro e w' ⟨rfl, ho, hb⟩
          rw [fin _ (Rf.done_dp hm1 hz hs c2 (hE.one c2 (.inl (Nat.le_refl _))) hE.hi_in (hE.not (by omega) (by omega)))] at ho
          exact ⟨rfl, ho, hb⟩
        · obtain rfl : hi = m + 1 := by omega
          have k' : Rf.kindF (m + 1) m = 2 := by unfold Rf.kindF; rw [if_neg (by omega), if_pos rfl]
          rw [k, k'] at hKi
          refine (refill_dq m _ rfl (by omega) w0 W g _ hlow own fits ln b capb lo (m + 1) hlo hhi hMin hMax hKi).mono ?_
          rintro e w' ⟨rfl, ho, hb⟩
          rw [fin _ (Rf.done_dq hm1 hz hs c2 (hE.one c2 (.inl (by omega))) (hE.not (by omega) (by omega)) ((hE.has _).2 (.inr (by omega))))] at ho
          exact ⟨rfl, ho, hb⟩
      · obtain rfl : lo = m := by omega
        obtain rfl : hi = lo + 1 := by omega
        have k : Rf.kindF lo lo = 1 := if_pos rfl
        have k' : Rf.kindF (lo + 1) lo = 2 := by unfold Rf.kindF; rw [if_neg (by omega), if_pos rfl]
        rw [k, k'] at hKi
        refine (refill_pq lo _ rfl (by omega) w0 W g _ hlow own fits ln b capb lo (lo + 1) hlo hhi hMin hMax hKi).mono ?_
        rintro e w' ⟨rfl, ho, hb⟩
        rw [fin _ (Rf.done_pq hm1 hz hs (hE.none (Nat.le_refl _) (by omega)) hE.lo_in ((hE.has _).2 (.inr (by omega))))] at ho
        exact ⟨rfl, ho, hb⟩
end Go.Proofs.Ytjephdeolifbpaa
