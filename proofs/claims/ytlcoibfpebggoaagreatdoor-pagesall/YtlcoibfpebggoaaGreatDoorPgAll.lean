/- PagesAll's drives: one a place, dead or alive, and a none behind each: what All makes of them. Plain, and the table of things. -/
import Derived.Test.YtlcoibfpebggoaaGreatDoorMPgC
namespace Go.Proofs.YtlcoibfpebggoaaGreatDoor
open Go.RowKit

/-- how many live -/
def cntA (B : Nat → Bool) : Nat → Nat
  | 0 => 0
  | k + 1 => if B k = true then cntA B k else cntA B k + 1
theorem cntA_le (B : Nat → Bool) : ∀ k, cntA B k ≤ k
  | 0 => Nat.le_refl _
  | k + 1 => by
    have := cntA_le B k
    unfold cntA
    split <;> omega
def drA (B : Nat → Bool) (i : Nat) : Dr := if B i = true then (Dr.fresh 3).die else Dr.fresh 3
def whoA : Who := fun j => if j % 2 = 0 then some (j / 2) else .none
def lstA (k : Nat) (f : Nat → Nat) : List Value := match k with
  | 0 => []
  | k + 1 => lstA k f ++ [.pointer (some ⟨f k, 0, .none⟩), .pointer .none]
theorem lstA_length (f : Nat → Nat) : ∀ k, (lstA k f).length = 2 * k
  | 0 => rfl
  | k + 1 => by rw [lstA, List.length_append, lstA_length f k]; rfl
theorem lstA_same {f g : Nat → Nat} : ∀ k, (∀ i, i < k → f i = g i) → lstA k f = lstA k g
  | 0, _ => rfl
  | k + 1, h => by rw [lstA, lstA, lstA_same k (fun i hi => h i (by omega)), h k (Nat.lt_succ_self k)]
theorem lstA_grow (k : Nat) (f : Nat → Nat) (p : Nat) : lstA (k + 1) (swap1 f k p) = lstA k f ++ [.pointer (some ⟨p, 0, .none⟩), .pointer .none] := by
  rw [lstA, swap1_same, lstA_same k (fun i hi => swap1_other f p (by omega))]
theorem lstA_at (f : Nat → Nat) : ∀ (k i : Nat), i < k → (lstA k f)[2 * i]? = some (.pointer (some ⟨f i, 0, .none⟩)) ∧ (lstA k f)[2 * i + 1]? = some (.pointer .none)
  | 0, i, h => absurd h (Nat.not_lt_zero _)
  | k + 1, i, h => by
    unfold lstA
    by_cases e : i < k
    · obtain ⟨h1, h2⟩ := lstA_at f k i e
      rw [List.getElem?_append_left (by rw [lstA_length]; omega), List.getElem?_append_left (by rw [lstA_length]; omega)]
      exact ⟨h1, h2⟩
    · have : i = k := by omega
      subst this
      rw [List.getElem?_append_right (by rw [lstA_length]; omega), List.getElem?_append_right (by rw [lstA_length]; omega), lstA_length]
      rw [show 2 * i - 2 * i = 0 by omega, show 2 * i + 1 - 2 * i = 1 by omega]
      exact ⟨rfl, rfl⟩
theorem listedA (k : Nat) (f : Nat → Nat) : Listed (lstA k f) whoA k f := by
  intro j hj
  rw [lstA_length] at hj
  by_cases e : j % 2 = 0
  · obtain ⟨i, rfl⟩ : ∃ i, j = 2 * i := ⟨j / 2, by omega⟩
    exact .inr ⟨i, by omega, by unfold whoA; rw [if_pos e, show 2 * i / 2 = i by omega], (lstA_at f k i (by omega)).1⟩
  · obtain ⟨i, rfl⟩ : ∃ i, j = 2 * i + 1 := ⟨j / 2, by omega⟩
    exact .inl ⟨if_neg e, (lstA_at f k i (by omega)).2⟩
theorem drA_fit (B : Nat → Bool) (i : Nat) : (drA B i).Fit11 := by
  unfold drA
  split
  · exact ⟨rfl, by show 2 < 3; decide, fun _ => by show (0 : Nat) < 1000000; decide⟩
  · exact ⟨rfl, by show 2 < 3; decide, fun _ => by show (0 : Nat) < 1000000; decide⟩
section
variable {B : Nat → Bool} {p : Pge} (hev : p.ev < 18446744073709551616) (hb : p.bits.size = 8)
include hev hb
theorem drA_live {i : Nat} (h : B i = false) : (drA B i).pgSaveE p = 0 ∧ ((drA B i).pgSaveD p).pgE = 0 ∧ ((drA B i).pgSaveD p).pgS = p := by
  have e : drA B i = Dr.fresh 3 := by unfold drA; rw [h]; rfl
  obtain ⟨h1, _, h3, h4⟩ := (Dr.Still.fresh 3).saved (by decide) hev hb
  rw [e]
  exact ⟨h1, h3, h4⟩
omit hev in
theorem drA_dead {i : Nat} (h : B i = true) : (drA B i).pgSaveE p = 40 ∧ ((drA B i).pgSaveD p).pgE = 40 ∧ ((drA B i).pgSaveD p).pgS = Pg.none := by
  have e : drA B i = (Dr.fresh 3).die := by unfold drA; rw [h]; rfl
  obtain ⟨h1, h2, h3, h4⟩ := Dr.Still.die (D := (Dr.fresh 3).die) rfl hb
  rw [e]
  exact ⟨h1, by rw [h2]; exact h3, by rw [h2]; exact h4⟩
/-- behind All: each that lives has the page, and so many are counted -/
theorem all_drA : ∀ k, Pg.allN whoA (drA B) p (2 * k) = cntA B k ∧ ∀ i, Pg.allD whoA (drA B) p (2 * k) i = if i < k then (drA B i).pgSaveD p else drA B i
  | 0 => ⟨rfl, fun i => by rw [if_neg (Nat.not_lt_zero _)]; rfl⟩
  | k + 1 => by
    obtain ⟨h1, h2⟩ := all_drA k
    have q0 : whoA (2 * k) = some k := by unfold whoA; rw [if_pos (by omega), show 2 * k / 2 = k by omega]
    have q1 : whoA (2 * k + 1) = .none := by unfold whoA; rw [if_neg (by omega)]
    have e : 2 * (k + 1) = 2 * k + 1 + 1 := by omega
    have hk : Pg.allD whoA (drA B) p (2 * k) k = drA B k := by rw [h2, if_neg (Nat.lt_irrefl _)]
    rw [e]
    refine ⟨?_, fun i => ?_⟩
    · rw [Pg.allN_none q1]
      cases hB : B k with
      | true =>
        rw [Pg.allN_no q0 (by rw [hk, (drA_dead hb hB).1]; decide), h1]
        simp only [cntA, hB, if_true]
      | false =>
        rw [Pg.allN_yes q0 (by rw [hk]; exact (drA_live hev hb hB).1), h1]
        simp [cntA, hB]
    · rw [Pg.allD_none q1, Pg.allD_some q0, hk]
      by_cases ei : i = k
      · subst ei; rw [swap1_same, if_pos (Nat.lt_succ_self _)]
      · rw [swap1_other _ _ ei, h2]
        by_cases hi : i < k
        · rw [if_pos hi, if_pos (by omega)]
        · rw [if_neg hi, if_neg (by omega)]
end
/-- the row, and k drives -/
def tbA (v : Value) (pp : Nat → Nat) (R : Nat → Dr) (k : Nat) : Nat → Thing := fun x => if x = 0 then rowT 39 v (lstA k pp) else drvT (pp (x - 1)) (R (x - 1))
theorem tbA_grow {v v' : Value} {pp : Nat → Nat} {R : Nat → Dr} {k p : Nat} {D : Dr} (hD : D = R k) (x : Nat) (hx : x < k + 2) :
    swap1 (swap1 (tbA v pp R k) (k + 1) (drvT p D)) 0 (rowT 39 v' (lstA k pp ++ [.pointer (some ⟨p, 0, none⟩), .pointer none])) x = tbA v' (swap1 pp k p) R (k + 1) x := by
  subst hD
  by_cases h0 : x = 0
  · subst h0; rw [swap1_same, ← lstA_grow]; rfl
  rw [swap1_other _ _ h0]
  by_cases hk : x = k + 1
  · subst hk
    rw [swap1_same]
    unfold tbA
    rw [if_neg h0, Nat.add_sub_cancel, swap1_same]
  · rw [swap1_other _ _ hk]
    unfold tbA
    rw [if_neg h0, if_neg h0, swap1_other _ _ (by omega)]
theorem tbA_drv {v : Value} {pp : Nat → Nat} {R : Nat → Dr} {k i : Nat} : tbA v pp R k (1 + i) = drvT (pp i) (R i) := by
  unfold tbA
  rw [if_neg (by omega), Nat.add_sub_cancel_left]
theorem tbA_all {v : Value} {pp : Nat → Nat} {R R' : Nat → Dr} {k : Nat} (x : Nat) (hx : x < k + 1) : spread (tbA v pp R k) 1 k (fun i => drvT (pp i) (R' i)) x = tbA v pp R' k x := by
  unfold spread
  by_cases h0 : x = 0
  · subst h0; rw [if_neg (by omega)]; rfl
  · rw [if_pos (by omega)]
    unfold tbA
    rw [if_neg h0]
end Go.Proofs.YtlcoibfpebggoaaGreatDoor
