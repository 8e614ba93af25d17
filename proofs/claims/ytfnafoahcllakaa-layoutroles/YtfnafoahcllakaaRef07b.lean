/- The walks of the document's own layout: Parity, Column, Role, Find, Back, Sector. -/
import Derived.Test.YtfnafoahcllakaaRef07
namespace Go.Proofs.Ytfnafoahcllakaa
open Go.RowKit

set_option maxRecDepth 100000 in
set_option maxHeartbeats 2000000 in
theorem rParity_any (c k r row : Int) (w : World) :
    Calls Try.prog 12 #[geoV c k r, .int .i64 row] w fun e w' => e = .returned (.tuple #[.int .i64 (Lay.parP c k r row), .int .i64 (Lay.parQ c k r row)]) ∧ Below w.heap.size w w' := by
  have HT : Hid _ := one_start w c k r 23
  by_cases h : Lay.hasRow c k r row
  · have hM := fun W => right_yes c k r row 0 1 h (by omega) (by omega) W
    have E : Hid (c - 1 - row % c = Lay.parP c k r row ∧ (c - 1 - row % c + 1) % c = Lay.parQ c k r row) := ⟨(if_pos h).symm, (if_pos h).symm⟩
    obtain ⟨c1, c2⟩ := h.1.1
    have n1 := h.2.1
    have n2 : row ≤ 1000 := by have := h.1.2.2; have := h.2.2; omega
    obtain ⟨m, hm⟩ : ∃ m, row % c = m := ⟨_, rfl⟩
    have e2 : row.tmod c = m := by rw [Int.tmod_eq_emod_of_nonneg n1]; exact hm
    have m1 : 0 ≤ m := by rw [← hm]; exact Int.emod_nonneg row (by omega)
    have m2 : m < c := by rw [← hm]; exact Int.emod_lt_of_pos row (by omega)
    rw [hm] at E
    obtain ⟨q, hq⟩ : ∃ q, (c - 1 - m + 1) % c = q := ⟨_, rfl⟩
    have e3 : (c - 1 - m + 1).tmod c = q := by rw [Int.tmod_eq_emod_of_nonneg (by omega)]; exact hq
    have q1 : 0 ≤ q := by rw [← hq]; exact Int.emod_nonneg _ (by omega)
    have q2 : q < c := by rw [← hq]; exact Int.emod_lt_of_pos _ (by omega)
    rw [hq] at E
    have cz : ¬ c = 0 := by omega
    clear hm hq h
    unfold geoV at *
    go_enter Try.func12, Try.ntmps12
    go_wp2_with fail
    refine (hM _).mono ?_
    rintro e w1 ⟨rfl, b1⟩
    have HK : Hid _ := Shp.kept HT.out b1
    obtain ⟨p0, p1, p2⟩ := HK.out.1
    clear b1
    go_wp2
    go_quiet (fail)
    go_wp2
    go_quiet (fail)
    go_wp2
    go_ret2
    exact ⟨ret_ii E.out.1 E.out.2, below_drewN (below_drewN HK.out.2 _) _⟩
  · have hM := fun W => right_no c k r row 0 1 (fun x => h x.1) W
    have E : Hid (0 = Lay.parP c k r row ∧ 0 = Lay.parQ c k r row) := ⟨(if_neg h).symm, (if_neg h).symm⟩
    clear h
    unfold geoV at *
    go_enter Try.func12, Try.ntmps12
    go_wp2_with fail
    refine (hM _).mono ?_
    rintro e w1 ⟨rfl, b1⟩
    have HK : Hid _ := Shp.kept HT.out b1
    clear b1
    go_wp2
    go_ret2
    exact ⟨ret_ii E.out.1 E.out.2, HK.out.2⟩

set_option maxRecDepth 100000 in
set_option maxHeartbeats 2000000 in
theorem rColumn_any (c k r row i : Int) (hc : -9223372036854775806 ≤ c) (hc2 : c ≤ 9223372036854775807) (w : World) :
    Calls Try.prog 24 #[geoV c k r, .int .i64 row, .int .i64 i] w fun e w' => e = .returned (.int .i64 (Lay.colI c k r row i)) ∧ Below w.heap.size w w' := by
  have HT : Hid _ := one_start w c k r 23
  by_cases h : Lay.hasRow c k r row ∧ 0 ≤ i ∧ i < c - 2
  · have hM := fun W => right_yes c k r row i (c - 2) h.1 h.2.1 h.2.2 W
    have hP := fun W => rParity_any c k r row W
    have E : Hid (((c - 1 - row % c + 1) % c + 1 + i) % c = Lay.colI c k r row i) := (if_pos h).symm
    have e1 : Lay.parQ c k r row = (c - 1 - row % c + 1) % c := if_pos h.1
    obtain ⟨c1, c2⟩ := h.1.1.1
    obtain ⟨i1, i2⟩ := h.2
    obtain ⟨p, hp⟩ : ∃ p, Lay.parP c k r row = p := ⟨_, rfl⟩
    obtain ⟨q, hq⟩ : ∃ q, Lay.parQ c k r row = q := ⟨_, rfl⟩
    rw [← e1, hq] at E
    have q1 : 0 ≤ q := by rw [← hq, e1]; exact Int.emod_nonneg _ (by omega)
    have q2 : q < c := by rw [← hq, e1]; exact Int.emod_lt_of_pos _ (by omega)
    obtain ⟨m, hm⟩ : ∃ m, (q + 1 + i) % c = m := ⟨_, rfl⟩
    have e3 : (q + 1 + i).tmod c = m := by rw [Int.tmod_eq_emod_of_nonneg (by omega)]; exact hm
    rw [hm] at E
    have m1 : 0 ≤ m := by rw [← hm]; exact Int.emod_nonneg _ (by omega)
    have m2 : m < c := by rw [← hm]; exact Int.emod_lt_of_pos _ (by omega)
    have cz : ¬ c = 0 := by omega
    rw [hp, hq] at hP
    clear hm hp hq e1 h
    unfold geoV at *
    go_enter Try.func24, Try.ntmps24
    go_wp2_with fail
    refine (hM _).mono ?_
    rintro e w1 ⟨rfl, b1⟩
    have HK : Hid _ := Shp.kept HT.out b1
    obtain ⟨p0, p1, p2⟩ := HK.out.1
    clear b1
    go_wp2_with fail
    refine (hP _).mono ?_
    rintro e w2 ⟨rfl, b2⟩
    have HK2 : Hid _ := Shp.kept HK.out b2
    clear p0 p1 p2 b2 HK
    obtain ⟨p0, p1, p2⟩ := HK2.out.1
    go_wp2
    try go_quiet (fail)
    try go_wp2
    go_ret
    exact ⟨ret_int E.out, HK2.out.2⟩
  · have hM := fun W => right_no c k r row i (c - 2) h W
    have E : Hid (0 = Lay.colI c k r row i) := (if_neg h).symm
    clear h
    unfold geoV at *
    go_enter Try.func24, Try.ntmps24
    go_wp2_with fail
    refine (hM _).mono ?_
    rintro e w1 ⟨rfl, b1⟩
    have HK : Hid _ := Shp.kept HT.out b1
    clear b1
    go_wp2
    go_ret
    exact ⟨ret_int E.out, HK.out.2⟩

set_option maxRecDepth 100000 in
set_option maxHeartbeats 2000000 in
/-- the least columns that an int can be: two less wrap round -/
theorem rColumn_least (c k r row i : Int) (hc : ¬ Lay.ok c k r) (w : World) :
    Calls Try.prog 24 #[geoV c k r, .int .i64 row, .int .i64 i] w fun e w' => e = .returned (.int .i64 0) ∧ Below w.heap.size w w' := by
  have HT : Hid _ := one_start w c k r 23
  have hM := fun W => right_no c k r row i (wrap64 (c - 2)) (fun x => hc x.1.1) W
  clear hc
  unfold geoV at *
  go_enter Try.func24, Try.ntmps24
  go_wp2_with fail
  refine (hM _).mono ?_
  rintro e w1 ⟨rfl, b1⟩
  have HK : Hid _ := Shp.kept HT.out b1
  clear b1
  go_wp2
  go_ret
  exact ⟨rfl, HK.out.2⟩
theorem rColumn_all (c k r row i : Int) (hc : -9223372036854775808 ≤ c) (hc2 : c ≤ 9223372036854775807) (w : World) :
    Calls Try.prog 24 #[geoV c k r, .int .i64 row, .int .i64 i] w fun e w' => e = .returned (.int .i64 (Lay.colI c k r row i)) ∧ Below w.heap.size w w' := by
  by_cases h : -9223372036854775806 ≤ c
  · exact rColumn_any c k r row i h hc2 w
  · have e0 : Lay.colI c k r row i = 0 := if_neg fun x => by have := x.1.1.1.1; omega
    rw [e0]
    exact rColumn_least c k r row i (fun x => by have := x.1.1; omega) w

set_option maxRecDepth 100000 in
set_option maxHeartbeats 2000000 in
theorem rSector_any (c k r row off : Int) (w : World) :
    Calls Try.prog 28 #[geoV c k r, .int .i64 row, .int .i64 off] w fun e w' => e = .returned (.int .i64 (Lay.sectI c k r row off)) ∧ Below w.heap.size w w' := by
  have HT : Hid _ := one_start w c k r 23
  by_cases h : Lay.hasRow c k r row ∧ 0 ≤ off ∧ off < k
  · have hM := fun W => right_yes c k r row off k h.1 h.2.1 h.2.2 W
    obtain ⟨x, hx⟩ : ∃ x, row * k = x := ⟨_, rfl⟩
    have E : Hid (4 + x + off = Lay.sectI c k r row off) := by show _ = _; rw [← hx]; exact (if_pos h).symm
    obtain ⟨⟨hg, hr1, hr2⟩, hi⟩ := h
    have hk := hg.2.1
    have x1 : 0 ≤ x := by rw [← hx]; exact Int.mul_nonneg hr1 (by omega)
    have x2 : x ≤ 256 * 4 := by rw [← hx]; exact Int.mul_le_mul (by have := hg.2.2; omega) (by omega) (by omega) (by omega)
    clear hg
    unfold geoV at *
    go_enter Try.func28, Try.ntmps28
    go_wp2_with fail
    refine (hM _).mono ?_
    rintro e w1 ⟨rfl, b1⟩
    have HK : Hid _ := Shp.kept HT.out b1
    obtain ⟨p0, p1, p2⟩ := HK.out.1
    clear b1
    go_wp2
    go_ret
    exact ⟨ret_int E.out, HK.out.2⟩
  · have hM := fun W => right_no c k r row off k h W
    have E : Hid (0 = Lay.sectI c k r row off) := (if_neg h).symm
    clear h
    unfold geoV at *
    go_enter Try.func28, Try.ntmps28
    go_wp2_with fail
    refine (hM _).mono ?_
    rintro e w1 ⟨rfl, b1⟩
    have HK : Hid _ := Shp.kept HT.out b1
    clear b1
    go_wp2
    go_ret
    exact ⟨ret_int E.out, HK.out.2⟩

set_option maxRecDepth 100000 in
set_option maxHeartbeats 2000000 in
theorem rFind_any (c k r s : Int) (w : World) :
    Calls Try.prog 10 #[geoV c k r, .int .i64 s] w fun e w' => e = .returned (.tuple #[.int .i64 (Lay.findA c k r s), .int .i64 (Lay.findI c k r s), .int .i64 (Lay.findO c k r s), .int .i64 (Lay.findE c k r s)]) ∧ Below w.heap.size w w' := by
  have HT : Hid _ := one_start w c k r 23
  by_cases h : Lay.ok c k r
  · have hM := fun W => rCheck_yes c k r h W
    have hS := fun W => rSize_any c k r W
    have es : Lay.sizeI c k r = r * (c - 2) * k := if_pos h
    have hz := Lay.size_le h
    obtain ⟨z, ez⟩ : ∃ z, r * (c - 2) * k = z := ⟨_, rfl⟩
    rw [es, ez] at hS
    rw [ez] at hz
    by_cases hs : 0 ≤ s ∧ s < r * (c - 2) * k
    · have E : Hid (s / k / (c - 2) = Lay.findA c k r s ∧ s / k % (c - 2) = Lay.findI c k r s ∧ s % k = Lay.findO c k r s ∧ 0 = Lay.findE c k r s) :=
        ⟨(if_pos ⟨h, hs⟩).symm, (if_pos ⟨h, hs⟩).symm, (if_pos ⟨h, hs⟩).symm, by unfold Lay.findE; rw [if_pos h, if_pos hs]⟩
      rw [ez] at hs
      obtain ⟨n1, n2⟩ := hs
      obtain ⟨⟨c1, c2⟩, ⟨k1, k2⟩, r1, r2⟩ := h
      obtain ⟨d, hd⟩ : ∃ d, c - 2 = d := ⟨_, rfl⟩
      obtain ⟨u, hu⟩ : ∃ u, s / k = u := ⟨_, rfl⟩
      obtain ⟨o, ho⟩ : ∃ o, s % k = o := ⟨_, rfl⟩
      obtain ⟨a, ha⟩ : ∃ a, u / d = a := ⟨_, rfl⟩
      obtain ⟨i, hi⟩ : ∃ i, u % d = i := ⟨_, rfl⟩
      have d1 : 2 ≤ d := by omega
      have d2 : d ≤ 8 := by omega
      have u1 : 0 ≤ u := by rw [← hu]; exact Int.ediv_nonneg n1 (by omega)
      have u2 : u ≤ 100000 := by rw [← hu]; exact Int.le_trans (Int.ediv_le_self k n1) (by omega)
      have o1 : 0 ≤ o := by rw [← ho]; exact Int.emod_nonneg s (by omega)
      have o2 : o < k := by rw [← ho]; exact Int.emod_lt_of_pos s (by omega)
      have a1 : 0 ≤ a := by rw [← ha]; exact Int.ediv_nonneg u1 (by omega)
      have a2 : a ≤ 100000 := by rw [← ha]; exact Int.le_trans (Int.ediv_le_self d u1) u2
      have i1 : 0 ≤ i := by rw [← hi]; exact Int.emod_nonneg u (by omega)
      have i2 : i < d := by rw [← hi]; exact Int.emod_lt_of_pos u (by omega)
      have e1 : s.tdiv k = u := by rw [Int.tdiv_eq_ediv_of_nonneg n1]; exact hu
      have e2 : s.tmod k = o := by rw [Int.tmod_eq_emod_of_nonneg n1]; exact ho
      have e3 : u.tdiv (c - 2) = a := by rw [hd, Int.tdiv_eq_ediv_of_nonneg u1]; exact ha
      have e4 : u.tmod (c - 2) = i := by rw [hd, Int.tmod_eq_emod_of_nonneg u1]; exact hi
      have kz : ¬ k = 0 := by omega
      have dz : ¬ c - 2 = 0 := by omega
      have hlt : ¬ s < 0 := by omega
      rw [hu, ho, hd, ha, hi] at E
      clear hd hu ho ha hi ez es
      unfold geoV at *
      go_enter Try.func10, Try.ntmps10
      go_wp2_with fail
      refine (hM _).mono ?_
      rintro e w1 ⟨rfl, b1⟩
      have HK : Hid _ := Shp.kept HT.out b1
      obtain ⟨p0, p1, p2⟩ := HK.out.1
      clear b1
      go_wp2_with fail
      refine (hS _).mono ?_
      rintro e w2 ⟨rfl, b2⟩
      have HK2 : Hid _ := Shp.kept HK.out b2
      clear p0 p1 p2 b2 HK
      obtain ⟨p0, p1, p2⟩ := HK2.out.1
      go_wp2
      go_quiet (fail)
      go_wp2
      refine bodyPost_ret (results_tmp4 rfl _ _ _) rfl ?_
      exact ⟨ret_iiii E.out.1 E.out.2.1 E.out.2.2.1 E.out.2.2.2, below_drewN HK2.out.2 _⟩
    · have E : Hid (0 = Lay.findA c k r s ∧ 0 = Lay.findI c k r s ∧ 0 = Lay.findO c k r s ∧ 70 = Lay.findE c k r s) :=
        ⟨(if_neg fun x => hs x.2).symm, (if_neg fun x => hs x.2).symm, (if_neg fun x => hs x.2).symm, by unfold Lay.findE; rw [if_pos h, if_neg hs]⟩
      rw [ez] at hs
      by_cases n1 : s < 0
      · clear ez es h hs
        unfold geoV at *
        go_enter Try.func10, Try.ntmps10
        go_wp2_with fail
        refine (hM _).mono ?_
        rintro e w1 ⟨rfl, b1⟩
        have HK : Hid _ := Shp.kept HT.out b1
        clear b1
        go_wp2
        refine bodyPost_ret (results_tmp4 rfl _ _ _) rfl ?_
        exact ⟨ret_iiii E.out.1 E.out.2.1 E.out.2.2.1 E.out.2.2.2, HK.out.2⟩
      · have n2 : z ≤ s := by omega
        clear ez es h hs
        unfold geoV at *
        go_enter Try.func10, Try.ntmps10
        go_wp2_with fail
        refine (hM _).mono ?_
        rintro e w1 ⟨rfl, b1⟩
        have HK : Hid _ := Shp.kept HT.out b1
        obtain ⟨p0, p1, p2⟩ := HK.out.1
        clear b1
        go_wp2_with fail
        refine (hS _).mono ?_
        rintro e w2 ⟨rfl, b2⟩
        have HK2 : Hid _ := Shp.kept HK.out b2
        clear p0 p1 p2 b2 HK
        go_wp2
        refine bodyPost_ret (results_tmp4 rfl _ _ _) rfl ?_
        exact ⟨ret_iiii E.out.1 E.out.2.1 E.out.2.2.1 E.out.2.2.2, HK2.out.2⟩
  · have hM := fun W => rCheck_no c k r h W
    have E : Hid (0 = Lay.findA c k r s ∧ 0 = Lay.findI c k r s ∧ 0 = Lay.findO c k r s ∧ 1 = Lay.findE c k r s) :=
      ⟨(if_neg fun x => h x.1).symm, (if_neg fun x => h x.1).symm, (if_neg fun x => h x.1).symm, (if_neg h).symm⟩
    clear h
    unfold geoV at *
    go_enter Try.func10, Try.ntmps10
    go_wp2_with fail
    refine (hM _).mono ?_
    rintro e w1 ⟨rfl, b1⟩
    have HK : Hid _ := Shp.kept HT.out b1
    clear b1
    go_wp2
    refine bodyPost_ret (results_tmp4 rfl _ _ _) rfl ?_
    exact ⟨ret_iiii E.out.1 E.out.2.1 E.out.2.2.1 E.out.2.2.2, HK.out.2⟩
end Go.Proofs.Ytfnafoahcllakaa
