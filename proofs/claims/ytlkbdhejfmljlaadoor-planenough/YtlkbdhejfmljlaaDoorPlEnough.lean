/- Plans, plainly: what is read is enough. -/
import Derived.Test.YtlkbdhejfmljlaaDoorPlBest
namespace Go.Proofs.YtlkbdhejfmljlaaDoor
namespace Pl
section
variable (N : Nat) (B : Nat → Bool) (L R : List Int)
def othB (i : Nat) : Bool := (decide (N ≤ i) || B i) || hasB R (i : Int)
def ownB (i : Nat) : Bool := ((decide (N ≤ i) && gone L i) || (decide (i < N) && !B i)) || hasB R (i : Int)
def allB (i : Nat) : Bool := gone L i || hasB R (i : Int)
end
variable {N : Nat} {B : Nat → Bool} {L : List Int}
theorem all_succ {p : Nat → Bool} (t : Nat) : (List.range (t + 1)).all p = ((List.range t).all p && p t) := by rw [List.range_succ, List.all_append]; simp
theorem hasB_mem {l : List Int} {x : Int} (h : x ∈ l) : hasB l x = true := by
  unfold hasB
  rw [List.any_eq_true]
  exact ⟨x, h, by simp⟩
theorem ansL_has {way : Int} (hc : canB N B L way = true) {i : Nat} (hi : i < N + 2) (hp : inR N B L way i = true) : hasB (ansL N B L way) (i : Int) = true := by
  unfold ansL
  rw [hc, if_pos rfl]
  exact hasB_mem (List.mem_map.2 ⟨i, List.mem_filter.2 ⟨List.mem_range.2 hi, hp⟩, rfl⟩)
theorem canB_4 : canB N B L 4 = true := by
  unfold canB isT
  simp only [decide_eq_true (show (1 : Int) ≤ 4 by decide), decide_eq_true (show (4 : Int) ≤ 4 by decide), Bool.true_and, List.all_eq_true]
  exact fun i _ => stR_4 i
theorem bestT_gone : ∃ s : Nat, s < 4 ∧ canB N B L ((s : Int) + 1) = true ∧ bestT N B L 4 = ((s : Int) + 1, ansL N B L ((s : Int) + 1)) := by
  have h := (bestT_best (N := N) (B := B) (L := L) 4 3 (by decide) canB_4).1
  rcases bestT_is (N := N) (B := B) (L := L) 4 with e | e
  · rw [e] at h; exact absurd rfl h
  · exact e
/-- one of the four -/
theorem ans_enough {way : Int} (hc : canB N B L way = true) :
    ((((List.range (N + 2)).all (othB N B (ansL N B L way)) || (List.range (N + 2)).all (ownB N B L (ansL N B L way))) || (List.range (N + 2)).all (allB L (ansL N B L way))) || (gone L N && gone L (N + 1))) = true := by
  obtain ⟨hw, hst⟩ := canB_st hc
  have : way = 1 ∨ way = 2 ∨ way = 3 ∨ way = 4 := by omega
  rcases this with rfl | rfl | rfl | rfl
  · have h : (List.range (N + 2)).all (othB N B (ansL N B L 1)) = true := by
      rw [List.all_eq_true]
      intro i hi
      have hs := hst i (List.mem_range.1 hi)
      rw [stR_1 rfl] at hs
      unfold othB; rw [hs]; rfl
    rw [h]; rfl
  · cases hb : both N L with
    | true => unfold both at hb; rw [hb, Bool.or_true]
    | false =>
      have h : (List.range (N + 2)).all (ownB N B L (ansL N B L 2)) = true := by
        rw [List.all_eq_true]
        intro i hi
        have hi := List.mem_range.1 hi
        have hs := hst i hi
        rw [stR_2 rfl rfl rfl hb] at hs
        have hin := fun h => ansL_has (way := 2) hc hi h
        rw [inR_2 hb rfl rfl] at hin
        unfold ownB
        by_cases hd : i < N
        · rw [decide_eq_true hd] at hs ⊢
          rw [decide_eq_false (show ¬ N ≤ i by omega)] at hin ⊢
          cases hB : B i with
          | false => rfl
          | true =>
            rw [hB] at hs hin
            cases hg : gone L i with
            | true => rw [hg] at hs; exact absurd hs (by decide)
            | false => rw [hg] at hin; rw [hin rfl, Bool.or_true]
        · rw [decide_eq_true (show N ≤ i by omega)] at hin ⊢
          cases hg : gone L i with
          | true => rfl
          | false => rw [hg] at hin; rw [hin rfl, Bool.or_true]
      rw [h, Bool.or_true]; rfl
  · have h : (List.range (N + 2)).all (othB N B (ansL N B L 3)) = true := by
      rw [List.all_eq_true]
      intro i hi
      have hi := List.mem_range.1 hi
      have hin := fun h => ansL_has (way := 3) hc hi h
      rw [inR_3 rfl] at hin
      unfold othB
      by_cases hd : i < N
      · rw [decide_eq_true hd] at hin
        cases hB : B i with
        | true => rw [Bool.or_true]; rfl
        | false => rw [hB] at hin; rw [hin rfl, Bool.or_true]
      · rw [decide_eq_true (show N ≤ i by omega)]; rfl
    rw [h]; rfl
  · have h : (List.range (N + 2)).all (allB L (ansL N B L 4)) = true := by
      rw [List.all_eq_true]
      intro i hi
      have hi := List.mem_range.1 hi
      have hin := fun h => ansL_has (way := 4) hc hi h
      rw [inR_4 rfl] at hin
      unfold allB
      cases hg : gone L i with
      | true => rfl
      | false => rw [hg] at hin; rw [hin rfl, Bool.or_true]
    rw [h, Bool.or_true]; rfl
/-- what PlanEnough asks, where it may be asked -/
structure Enough (N : Nat) (B : Nat → Bool) (L : List Int) : Prop where
  err : chooseE (N : Int) N L = 0
  none : anyT N B N = false → chooseW (N : Int) N B L = 0 ∧ chooseR (N : Int) N B L = [] ∧ chooseP (N : Int) N B L = []
  some : anyT N B N = true → chooseW (N : Int) N B L ≠ 0
  enough : anyT N B N = true → ((((List.range (N + 2)).all (othB N B (chooseR (N : Int) N B L)) || (List.range (N + 2)).all (ownB N B L (chooseR (N : Int) N B L))) || (List.range (N + 2)).all (allB L (chooseR (N : Int) N B L))) || (gone L N && gone L (N + 1))) = true
  writes : anyT N B N = true → ∀ i, i < N + 2 → gone L i = false → (i < N → B i = true) → hasB (chooseP (N : Int) N B L) (i : Int) = true
theorem anyT_more : anyT N B (N + 2) = anyT N B N := by
  rw [anyT_succ, anyT_succ, decide_eq_false (show ¬ N + 1 < N by omega), decide_eq_false (show ¬ N < N by omega)]; simp
theorem enough (h : rolesB (N : Int) L = true) (hl : L.length ≤ 2) : Enough N B L := by
  have ha : argsOk (N : Int) N L = true := by unfold argsOk; rw [h]; simp
  have hc : costOk (N : Int) N L = true := by unfold costOk; rw [ha, decide_eq_true hl]; rfl
  have hg : goes (N : Int) N B L = anyT N B N := by unfold goes; rw [hc, Bool.true_and]; exact anyT_more
  have hW : chooseW (N : Int) N B L = if goes (N : Int) N B L then (bestT N B L 4).1 else 0 := rfl
  have hR : chooseR (N : Int) N B L = if goes (N : Int) N B L then (bestT N B L 4).2 else [] := rfl
  have hP : chooseP (N : Int) N B L = if goes (N : Int) N B L then writesT N B L (N + 2) else [] := rfl
  obtain ⟨s, hs, hcs, hbs⟩ := bestT_gone (N := N) (B := B) (L := L)
  refine ⟨by unfold chooseE; rw [if_pos ha, if_pos hl], fun e => ?_, fun e => ?_, fun e => ?_, fun e => ?_⟩
  · rw [hW, hR, hP, hg, e]; exact ⟨rfl, rfl, rfl⟩
  · rw [hW, hg, e, if_pos rfl, hbs]; dsimp only; omega
  · rw [hR, hg, e, if_pos rfl, hbs]; exact ans_enough hcs
  · intro i hi hgo hB
    rw [hP, hg, e, if_pos rfl]
    refine hasB_mem (List.mem_map.2 ⟨i, List.mem_filter.2 ⟨List.mem_range.2 hi, ?_⟩, rfl⟩)
    unfold inW
    rw [hgo]
    by_cases hd : i < N
    · rw [hB hd]; simp
    · rw [decide_eq_true (show N ≤ i by omega)]; rfl
end Pl
end Go.Proofs.YtlkbdhejfmljlaaDoor
