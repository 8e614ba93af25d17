/- Plans, plainly: roles that may be lost, how many are left. -/
import Derived.Test.YtlkbdhejfmljlaaDoorPlTwo
namespace Go.Proofs.YtlkbdhejfmljlaaDoor
namespace Pl
theorem hasB_cons (x : Int) (L : List Int) (y : Int) : hasB (x :: L) y = ((x == y) || hasB L y) := rfl
theorem hasB_nil (y : Int) : hasB [] y = false := rfl
theorem left0 : ∀ t, (leftT [] t).length = t
  | 0 => rfl
  | t + 1 => by rw [leftT_yes rfl, List.length_append, left0 t]; rfl
theorem left1 {x : Nat} : ∀ t, (leftT [(x : Int)] t).length + (if x < t then 1 else 0) = t
  | 0 => rfl
  | t + 1 => by
    have ih := left1 (x := x) t
    by_cases hx : x = t
    · have hg : gone [(x : Int)] t = true := by unfold gone; rw [hasB_cons, hx]; simp
      rw [leftT_no hg]
      split at ih <;> split <;> omega
    · have hg : gone [(x : Int)] t = false := by
        unfold gone; rw [hasB_cons, hasB_nil, Bool.or_false]
        exact beq_false_of_ne (by omega)
      rw [leftT_yes hg, List.length_append, List.length_singleton]
      split at ih <;> split <;> omega
theorem left2 {x y : Nat} (h : x ≠ y) : ∀ t, (leftT [(x : Int), (y : Int)] t).length + (if x < t then 1 else 0) + (if y < t then 1 else 0) = t
  | 0 => rfl
  | t + 1 => by
    have ih := left2 h t
    by_cases hx : x = t
    · have hg : gone [(x : Int), (y : Int)] t = true := by unfold gone; rw [hasB_cons, hx]; simp
      rw [leftT_no hg]
      split at ih <;> split at ih <;> split <;> split <;> omega
    · by_cases hy : y = t
      · have hg : gone [(x : Int), (y : Int)] t = true := by unfold gone; rw [hasB_cons, hasB_cons, hy]; simp
        rw [leftT_no hg]
        split at ih <;> split at ih <;> split <;> split <;> omega
      · have hg : gone [(x : Int), (y : Int)] t = false := by
          unfold gone; rw [hasB_cons, hasB_cons, hasB_nil, Bool.or_false, beq_false_of_ne (show (x : Int) ≠ (t : Int) by omega), beq_false_of_ne (show (y : Int) ≠ (t : Int) by omega)]; rfl
        rw [leftT_yes hg, List.length_append, List.length_singleton]
        split at ih <;> split at ih <;> split <;> split <;> omega
theorem roles0 {N : Nat} (h2 : 2 ≤ N) (h8 : N ≤ 8) : rolesB (N : Int) [] = true := by
  unfold rolesB
  rw [decide_eq_true (show (2 : Int) ≤ N by omega), decide_eq_true (show (N : Int) ≤ 8 by omega)]; rfl
theorem roles1 {N x : Nat} (h2 : 2 ≤ N) (h8 : N ≤ 8) (hx : x < N + 2) : rolesB (N : Int) [(x : Int)] = true := by
  unfold rolesB oneOk
  rw [decide_eq_true (show (2 : Int) ≤ N by omega), decide_eq_true (show (N : Int) ≤ 8 by omega)]
  simp [List.range_succ, hasB]; omega
theorem roles2 {N x y : Nat} (h2 : 2 ≤ N) (h8 : N ≤ 8) (hx : x < N + 2) (hy : y < N + 2) (h : x ≠ y) : rolesB (N : Int) [(x : Int), (y : Int)] = true := by
  unfold rolesB oneOk
  rw [decide_eq_true (show (2 : Int) ≤ N by omega), decide_eq_true (show (N : Int) ≤ 8 by omega)]
  simp [List.range_succ, hasB]; omega
theorem roles3 {N x y z : Nat} (h2 : 2 ≤ N) (h8 : N ≤ 8) (hx : x < N + 2) (hy : y < N + 2) (hz : z < N + 2) (h : x ≠ y) (hxz : x ≠ z) (hyz : y ≠ z) : rolesB (N : Int) [(x : Int), (y : Int), (z : Int)] = true := by
  unfold rolesB oneOk
  rw [decide_eq_true (show (2 : Int) ≤ N by omega), decide_eq_true (show (N : Int) ≤ 8 by omega)]
  simp [List.range_succ, hasB]; omega
/-- at most three roles, none twice -/
structure Good (N : Nat) (L : List Int) : Prop where
  roles : rolesB (N : Int) L = true
  len : L.length ≤ 3
  left : L.length ≤ 2 → (leftT L (N + 2)).length + L.length = N + 2
theorem good_two {N i k : Nat} (h2 : 2 ≤ N) (h8 : N ≤ 8) : Good N (twoT N i k) ∧ (twoT N i k).length ≤ 2 := by
  rcases twoT_cases N i k with e | ⟨x, hx, e⟩ | ⟨x, y, hx, hy, hne, e⟩ <;> rw [e]
  · exact ⟨⟨roles0 h2 h8, by simp, fun _ => left0 _⟩, by simp⟩
  · refine ⟨⟨roles1 h2 h8 hx, by simp, fun _ => ?_⟩, by simp⟩
    have := left1 (x := x) (N + 2)
    rw [if_pos hx] at this; exact this
  · refine ⟨⟨roles2 h2 h8 hx hy hne, by simp, fun _ => ?_⟩, by simp⟩
    have := left2 hne (N + 2)
    rw [if_pos hx, if_pos hy] at this; exact this
theorem good_three {N : Nat} {i k z : Nat} (h2 : 2 ≤ N) (h8 : N ≤ 8) (hl : (twoT N i k).length = 2) (hz : z < N + 2) (hg : hasB (twoT N i k) (z : Int) = false) : Good N (twoT N i k ++ [(z : Int)]) := by
  rcases twoT_cases N i k with e | ⟨x, hx, e⟩ | ⟨x, y, hx, hy, hne, e⟩ <;> rw [e] at hl hg ⊢
  · cases hl
  · cases hl
  · rw [hasB_cons, hasB_cons, hasB_nil, Bool.or_false, Bool.or_eq_false_iff] at hg
    have h1 : (x : Int) ≠ z := by intro e; rw [e] at hg; simp at hg
    have h3 : (y : Int) ≠ z := by intro e; rw [e] at hg; simp at hg
    exact ⟨roles3 h2 h8 hx hy hz hne (by omega) (by omega), by simp, fun h => absurd h (by simp)⟩
/-- what is left is not lost -/
theorem left_not {L : List Int} {t j : Nat} (hj : j < (leftT L t).length) : hasB L ((leftT L t).getD j 0) = false := by
  have hm : (leftT L t)[j] ∈ leftT L t := List.getElem_mem hj
  rw [List.getD_eq_getElem?_getD, List.getElem?_eq_getElem hj]
  obtain ⟨i, hi, e⟩ := List.mem_map.1 hm
  have h2 := (List.mem_filter.1 hi).2
  show hasB L ((leftT L t)[j]) = false
  rw [← e]
  unfold gone at h2
  simpa using h2
/-- what Read answers of roles that may be -/
theorem read_one {N k : Nat} {L : List Int} (h : rolesB (N : Int) L = true) (hk : k < N + 2) (hg : hasB L (k : Int) = false) : readE N k L = 0 ∧ readL N k L = [(k : Int)] := by
  unfold readE readL
  rw [h, decide_eq_true (show (0 : Int) ≤ k by omega), decide_eq_true (show (k : Int) ≤ (N : Int) + 1 by omega), hg]
  exact ⟨rfl, rfl⟩
theorem read_left {N k : Nat} {L : List Int} (h : rolesB (N : Int) L = true) (hk : k < N + 2) (hg : hasB L (k : Int) = true) (hl : L.length ≤ 2) : readE N k L = 0 ∧ readL N k L = leftT L (N + 2) := by
  unfold readE readL
  rw [h, decide_eq_true (show (0 : Int) ≤ k by omega), decide_eq_true (show (k : Int) ≤ (N : Int) + 1 by omega), hg]
  simp only [Bool.and_self, if_true, if_pos hl]
  exact ⟨trivial, rfl⟩
theorem read_lost {N k : Nat} {L : List Int} (h : rolesB (N : Int) L = true) (hk : k < N + 2) (hg : hasB L (k : Int) = true) (hl : ¬ L.length ≤ 2) : readE N k L = 60 ∧ readL N k L = [] := by
  unfold readE readL
  rw [h, decide_eq_true (show (0 : Int) ≤ k by omega), decide_eq_true (show (k : Int) ≤ (N : Int) + 1 by omega), hg]
  simp only [Bool.and_self, if_true, if_neg hl]
  exact ⟨trivial, trivial⟩
end Pl
end Go.Proofs.YtlkbdhejfmljlaaDoor
