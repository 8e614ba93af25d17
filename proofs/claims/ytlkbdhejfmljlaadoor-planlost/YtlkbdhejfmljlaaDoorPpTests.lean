/- Plans, plainly: what the four tests say of a row's columns. -/
import Derived.Test.YtlkbdhejfmljlaaDoorPpOf
namespace Go.Proofs.YtlkbdhejfmljlaaDoor
open Go.RowKit

namespace Rs
variable {x y : Nat} {p q : Nat → Bool}
theorem Is.zero_iff (hx : Is x p) : x = 0 ↔ ∀ i, i < 10 → p i = false := hx.eq_iff Is.zero
theorem Is.reads (hx : Is x p) {M : Nat} (hM : M ≤ 10) (h : ∀ i, i < 10 → p i = (decide (i < M) && q i)) : Rs.ints x = ((List.range M).filter q).map fun i => ((i : Nat) : Int) := by
  rw [hx.ints (q := fun i => decide (i < M) && q i) hM h fun i hi => by rw [decide_eq_false (show ¬ i < M by omega)]; rfl]
  congr 1
  exact List.filter_congr fun i hi => by rw [decide_eq_true (List.mem_range.1 hi)]; rfl
end Rs
theorem Pl.canB_iff {N : Nat} {B : Nat → Bool} {L : List Int} {way : Int} (h : 1 ≤ way ∧ way ≤ 4) : Pl.canB N B L way = true ↔ ∀ i, i < N + 2 → Pl.stR N B L way i = true := by
  unfold Pl.canB Pl.isT
  rw [decide_eq_true h.1, decide_eq_true h.2, Bool.true_and, Bool.true_and, List.all_eq_true]
  exact ⟨fun h i hi => h i (List.mem_range.2 hi), fun h i hi => h i (List.mem_range.1 hi)⟩
theorem Pl.ansL_of {N : Nat} {B : Nat → Bool} {L : List Int} {way : Int} (h : Pl.canB N B L way = true) : Pl.ansL N B L way = ((List.range (N + 2)).filter (Pl.inR N B L way)).map fun i => ((i : Nat) : Int) := by
  unfold Pl.ansL; rw [if_pos h]; rfl
namespace Job
variable {N : Nat} {B : Nat → Bool} {L : List Int} {d p r l : Nat}
/-- the parities that are left -/
theorem left_par (J : Job N B L d p r l) : Rs.Is (Rs.diff p l) (fun i => (decide (N ≤ i) && decide (i < N + 2)) && !Pl.gone L i) := J.hp.diff J.hl
theorem both_iff (J : Job N B L d p r l) : Rs.diff p l = 0 ↔ Pl.both N L = true := by
  have hn := J.n8
  rw [J.left_par.zero_iff]
  unfold Pl.both
  rw [Bool.and_eq_true]
  constructor
  · intro h
    have h1 := h N (by omega)
    have h2 := h (N + 1) (by omega)
    rw [decide_eq_true (Nat.le_refl N), decide_eq_true (show N < N + 2 by omega)] at h1
    rw [decide_eq_true (show N ≤ N + 1 by omega), decide_eq_true (show N + 1 < N + 2 by omega)] at h2
    exact ⟨by simpa using h1, by simpa using h2⟩
  · rintro ⟨h1, h2⟩ i _
    by_cases e1 : i = N
    · rw [e1, h1]; simp
    · by_cases e2 : i = N + 1
      · rw [e2, h2]; simp
      · by_cases e3 : N ≤ i
        · rw [decide_eq_false (show ¬ i < N + 2 by omega)]; simp
        · rw [decide_eq_false e3]; rfl
theorem full_can (J : Job N B L d p r l) : decide (r = d) = Pl.canB N B L 1 := by
  have hn := J.n8
  rw [Bool.eq_iff_iff, decide_eq_true_eq, Pl.canB_iff (by decide), J.hr.eq_iff J.hd]
  constructor
  · intro h i hi
    rw [Pl.stR_1 rfl]
    by_cases e : i < N
    · have := h i (by omega)
      rw [decide_eq_true e] at this
      simp at this
      simp [this]
    · rw [decide_eq_true (show N ≤ i by omega)]; rfl
  · intro h i hi
    by_cases e : i < N
    · have := h i (by omega)
      rw [Pl.stR_1 rfl, decide_eq_false (show ¬ N ≤ i by omega)] at this
      rw [decide_eq_true e]; simpa using this
    · rw [decide_eq_false e]; rfl
theorem full_reads (h : Pl.canB N B L 1 = true) : Rs.ints 0 = Pl.ansL N B L 1 := by
  rw [Rs.ints_zero, Pl.ansL_of h]
  symm
  rw [List.map_eq_nil_iff, List.filter_eq_nil_iff]
  intro i _
  rw [Pl.inR_1]; decide
theorem modify_can (J : Job N B L d p r l) : (if Rs.diff p l = 0 then true else decide (r &&& l = 0)) = Pl.canB N B L 2 := by
  have hn := J.n8
  rw [Bool.eq_iff_iff, Pl.canB_iff (by decide)]
  by_cases h0 : Rs.diff p l = 0
  · rw [if_pos h0]
    have hb := J.both_iff.1 h0
    refine ⟨fun _ i _ => ?_, fun _ => rfl⟩
    rw [Pl.stR_2 rfl rfl rfl hb]; simp
  · rw [if_neg h0]
    have hb : Pl.both N L = false := by
      cases hb : Pl.both N L with
      | false => rfl
      | true => exact absurd (J.both_iff.2 hb) h0
    rw [decide_eq_true_eq, (J.hr.and J.hl).zero_iff]
    constructor
    · intro h i hi
      rw [Pl.stR_2 rfl rfl rfl hb]
      have := h i (by omega)
      cases h1 : decide (i < N) <;> cases h2 : B i <;> cases h3 : Pl.gone L i <;> rw [h1, h2, h3] at this <;> first | rfl | exact absurd this (by decide)
    · intro h i hi
      by_cases e : i < N
      · have := h i (by omega)
        rw [Pl.stR_2 rfl rfl rfl hb, decide_eq_true e] at this
        rw [decide_eq_true e]
        cases h2 : B i <;> cases h3 : Pl.gone L i <;> rw [h2, h3] at this <;> first | rfl | exact absurd this (by decide)
      · rw [decide_eq_false e]; rfl
theorem modify_reads (J : Job N B L d p r l) (h : Pl.canB N B L 2 = true) : Rs.ints (if Rs.diff p l = 0 then 0 else r ||| Rs.diff p l) = Pl.ansL N B L 2 := by
  have hn := J.n8
  have hst := (Pl.canB_iff (by decide)).1 h
  rw [Pl.ansL_of h]
  by_cases h0 : Rs.diff p l = 0
  · rw [if_pos h0, Rs.ints_zero]
    symm
    rw [List.map_eq_nil_iff, List.filter_eq_nil_iff]
    intro i _
    rw [Pl.inR_2 (J.both_iff.1 h0) rfl rfl]; simp
  · rw [if_neg h0]
    have hb : Pl.both N L = false := by
      cases hb : Pl.both N L with
      | false => rfl
      | true => exact absurd (J.both_iff.2 hb) h0
    refine (J.hr.or J.left_par).reads (by omega) fun i hi => ?_
    rw [Pl.inR_2 hb rfl rfl]
    by_cases e : i < N
    · have := hst i (by omega)
      rw [Pl.stR_2 rfl rfl rfl hb, decide_eq_true e] at this
      rw [decide_eq_true e, decide_eq_true (show i < N + 2 by omega), decide_eq_false (show ¬ N ≤ i by omega)]
      cases h2 : B i <;> cases h3 : Pl.gone L i <;> rw [h2, h3] at this <;> first | rfl | exact absurd this (by decide)
    · rw [decide_eq_false e, decide_eq_true (show N ≤ i by omega)]
      cases h2 : B i <;> cases h3 : Pl.gone L i <;> cases h4 : decide (i < N + 2) <;> rfl
theorem rebuild_can (J : Job N B L d p r l) : decide (Rs.diff d r &&& l = 0) = Pl.canB N B L 3 := by
  have hn := J.n8
  rw [Bool.eq_iff_iff, Pl.canB_iff (by decide), decide_eq_true_eq, ((J.hd.diff J.hr).and J.hl).zero_iff]
  constructor
  · intro h i hi
    rw [Pl.stR_3 rfl rfl rfl]
    have := h i (by omega)
    cases h1 : decide (i < N) <;> cases h2 : B i <;> cases h3 : Pl.gone L i <;> rw [h1, h2, h3] at this <;> first | rfl | exact absurd this (by decide)
  · intro h i hi
    by_cases e : i < N
    · have := h i (by omega)
      rw [Pl.stR_3 rfl rfl rfl, decide_eq_true e] at this
      rw [decide_eq_true e]
      cases h2 : B i <;> cases h3 : Pl.gone L i <;> rw [h2, h3] at this <;> first | rfl | exact absurd this (by decide)
    · rw [decide_eq_false e]; rfl
theorem rebuild_reads (J : Job N B L d p r l) (h : Pl.canB N B L 3 = true) : Rs.ints (Rs.diff d r) = Pl.ansL N B L 3 := by
  have hn := J.n8
  rw [Pl.ansL_of h]
  refine (J.hd.diff J.hr).reads (by omega) fun i hi => ?_
  rw [Pl.inR_3 rfl]
  by_cases e : i < N
  · rw [decide_eq_true e, decide_eq_true (show i < N + 2 by omega)]
    cases h2 : B i <;> rfl
  · rw [decide_eq_false e]; simp
theorem left_is (J : Job N B L d p r l) : Rs.Is (Rs.diff (d ||| p) l) (fun i => decide (i < N + 2) && !Pl.gone L i) := by
  refine ((J.hd.or J.hp).diff J.hl).as fun i _ => ?_
  by_cases e : i < N
  · rw [decide_eq_true e, decide_eq_true (show i < N + 2 by omega)]; simp
  · rw [decide_eq_false e, decide_eq_true (show N ≤ i by omega)]; simp
theorem left_reads (J : Job N B L d p r l) : Rs.ints (Rs.diff (d ||| p) l) = Pl.leftT L (N + 2) := by
  have hn := J.n8
  exact J.left_is.reads (by omega) fun i _ => rfl
theorem whole_can : true = Pl.canB N B L 4 := by
  symm
  rw [Pl.canB_iff (by decide)]
  exact fun i _ => Pl.stR_4 i
theorem whole_reads (J : Job N B L d p r l) : Rs.ints (Rs.diff (d ||| p) l) = Pl.ansL N B L 4 := by
  rw [J.left_reads, Pl.ansL_of whole_can.symm]
  unfold Pl.leftT
  congr 1
theorem writes_is (J : Job N B L d p r l) : Rs.ints (Rs.diff (r ||| p) l) = Pl.writesT N B L (N + 2) := by
  have hn := J.n8
  refine ((J.hr.or J.hp).diff J.hl).reads (q := Pl.inW N B L) (by omega) fun i _ => ?_
  unfold Pl.inW
  by_cases e : i < N
  · rw [decide_eq_true e, decide_eq_true (show i < N + 2 by omega), decide_eq_false (show ¬ N ≤ i by omega)]
    cases h2 : B i <;> cases h3 : Pl.gone L i <;> rfl
  · rw [decide_eq_false e, decide_eq_true (show N ≤ i by omega)]
    cases h3 : Pl.gone L i <;> cases h4 : decide (i < N + 2) <;> rfl
theorem any_iff (J : Job N B L d p r l) : (r = 0) ↔ Pl.anyT N B (N + 2) = false := by
  have hn := J.n8
  rw [J.hr.zero_iff]
  unfold Pl.anyT
  rw [List.any_eq_false]
  constructor
  · intro h i hi
    rw [h i (by have := List.mem_range.1 hi; omega)]; decide
  · intro h i hi
    by_cases e : i < N
    · have := h i (List.mem_range.2 (by omega))
      simpa using this
    · rw [decide_eq_false e]; rfl
end Job

/-- what a test says by a way -/
def TestOf (N : Nat) (B : Nat → Bool) (L : List Int) (d p r l : Nat) (way : Int) (f : FuncId) (x : Nat) : Prop :=
  x < 1024 ∧ (Pl.canB N B L way = true → Rs.ints x = Pl.ansL N B L way) ∧ ∀ W, Calls Tryd.prog f #[(.agg #[.int .u64 (d : Int), .int .u64 (p : Int), .int .u64 (r : Int), .int .u64 (l : Int)])] W (Same15 W (.tuple #[.int .u64 (x : Int), .bool (Pl.canB N B L way)]))
section
variable {N : Nat} {B : Nat → Bool} {L : List Int} {d p r l : Nat}
theorem test_full (J : Job N B L d p r l) : TestOf N B L d p r l 1 32 0 :=
  ⟨by decide, Job.full_reads, fun W => by have h := full_any d p r l W; rwa [J.full_can] at h⟩
theorem test_modify (J : Job N B L d p r l) : TestOf N B L d p r l 2 33 (if Rs.diff p l = 0 then 0 else r ||| Rs.diff p l) := by
  refine ⟨?_, J.modify_reads, fun W => by have h := modify_any d p r l J.hp.lt J.hr.lt J.hl.lt W; rwa [J.modify_can] at h⟩
  split
  · decide
  · exact (J.hr.or J.left_par).lt
theorem test_rebuild (J : Job N B L d p r l) : TestOf N B L d p r l 3 34 (Rs.diff d r) :=
  ⟨(J.hd.diff J.hr).lt, J.rebuild_reads, fun W => by have h := rebuild_any d p r l J.hd.lt J.hr.lt J.hl.lt W; rwa [J.rebuild_can] at h⟩
theorem test_whole (J : Job N B L d p r l) : TestOf N B L d p r l 4 35 (Rs.diff (d ||| p) l) :=
  ⟨J.left_is.lt, fun _ => J.whole_reads, fun W => by have h := whole_any d p r l J.hd.lt J.hp.lt J.hl.lt W; rwa [Job.whole_can (N := N) (B := B) (L := L)] at h⟩
end
end Go.Proofs.YtlkbdhejfmljlaaDoor
