import Derived.Test.YtdgkhjgnjfgnlaaGreatMLayC
namespace Go.Proofs.YtdgkhjgnjfgnlaaGreat
open Go.RowKit
set_option maxRecDepth 100000 in
set_option maxHeartbeats 2000000 in
theorem rParity_any (c k r row : Int) (w : World) :
  Calls Tryz.prog 88 #[geoV c k r, .int .i64 row] w fun e w' => e = .returned (.tuple #[.int .i64 (Lay.parP c k r row), .int .i64 (Lay.parQ c k r row)]) ∧ Below w.heap.size w w' := by
 have HT : Hid _ := one_start w c k r 26
 by_cases h : Lay.hasRow c k r row
 ·have hM := fun W => right_yes c k r row 0 1 h (by omega) (by omega) W
  have E : Hid (c - 1 - row % c = Lay.parP c k r row ∧ (c - 1 - row % c + 1) % c = Lay.parQ c k r row) := ⟨(if_pos h).symm, (if_pos h).symm⟩
  obtain ⟨c1, c2⟩ := h.1.1
  have n1 := h.2.1
  have n2 : row ≤ 1000 := by have := h.1.2.2; have := h.2.2; omega
  obtain ⟨m, hm⟩ : ∃ m, row % c = m := ⟨_, rfl⟩
  have e2 : row.tmod c = m := by rw [Int.tmod_eq_emod_of_nonneg n1]; exact hm
  have m1 : 0 ≤ m := by rw [← hm]; exact Int.emod_nonneg row (by omega)
  have m2 : m < c := by rw [← hm]; exact Int.emod_lt_of_pos row (by omega)
  rw [hm] at E
  obtain ⟨q, hq⟩ : ∃ q, (c - 1 - m + 1) % c = q := ⟨_, rfl⟩
  have e3 : (c - 1 - m + 1).tmod c = q := by rw [Int.tmod_eq_emod_of_nonneg (by omega)]; exact hq
  have q1 : 0 ≤ q := by rw [← hq]; exact Int.emod_nonneg _ (by omega)
  have q2 : q < c := by rw [← hq]; exact Int.emod_lt_of_pos _ (by omega)
  rw [hq] at E
  have cz : ¬ c = 0 := by omega
  clear hm hq h
  unfold geoV at *
  go_enter Tryz.func88, Tryz.ntmps88
  go_wp2_with fail
  refine (hM _).mono ?_
  rintro e w1 ⟨rfl, b1⟩
  have HK : Hid _ := Shp.kept HT.out b1
  obtain ⟨p0, p1, p2⟩ := HK.out.1
  clear b1
  go_wp2
  go_quiet (fail)
  go_wp2
  go_quiet (fail)
  go_wp2
  go_ret2
  exact ⟨ret_ii E.out.1 E.out.2, below_drewN (below_drewN HK.out.2 _) _⟩
 ·have hM := fun W => right_no c k r row 0 1 (fun x => h x.1) W
  have E : Hid (0 = Lay.parP c k r row ∧ 0 = Lay.parQ c k r row) := ⟨(if_neg h).symm, (if_neg h).symm⟩
  clear h
  unfold geoV at *
  go_enter Tryz.func88, Tryz.ntmps88
  go_wp2_with fail
  refine (hM _).mono ?_
  rintro e w1 ⟨rfl, b1⟩
  have HK : Hid _ := Shp.kept HT.out b1
  clear b1
  go_wp2
  go_ret2
  exact ⟨ret_ii E.out.1 E.out.2, HK.out.2⟩
set_option maxRecDepth 100000 in
set_option maxHeartbeats 2000000 in
theorem rColumn_any (c k r row i : Int) (hc : -9223372036854775806 ≤ c) (hc2 : c ≤ 9223372036854775807) (w : World) :
  Calls Tryz.prog 52 #[geoV c k r, .int .i64 row, .int .i64 i] w fun e w' => e = .returned (.int .i64 (Lay.colI c k r row i)) ∧ Below w.heap.size w w' := by
 have HT : Hid _ := one_start w c k r 26
 by_cases h : Lay.hasRow c k r row ∧ 0 ≤ i ∧ i < c - 2
 ·have hM := fun W => right_yes c k r row i (c - 2) h.1 h.2.1 h.2.2 W
  have hP := fun W => rParity_any c k r row W
  have E : Hid (((c - 1 - row % c + 1) % c + 1 + i) % c = Lay.colI c k r row i) := (if_pos h).symm
  have e1 : Lay.parQ c k r row = (c - 1 - row % c + 1) % c := if_pos h.1
  obtain ⟨c1, c2⟩ := h.1.1.1
  obtain ⟨i1, i2⟩ := h.2
  obtain ⟨p, hp⟩ : ∃ p, Lay.parP c k r row = p := ⟨_, rfl⟩
  obtain ⟨q, hq⟩ : ∃ q, Lay.parQ c k r row = q := ⟨_, rfl⟩
  rw [← e1, hq] at E
  have q1 : 0 ≤ q := by rw [← hq, e1]; exact Int.emod_nonneg _ (by omega)
  have q2 : q < c := by rw [← hq, e1]; exact Int.emod_lt_of_pos _ (by omega)
  obtain ⟨m, hm⟩ : ∃ m, (q + 1 + i) % c = m := ⟨_, rfl⟩
  have e3 : (q + 1 + i).tmod c = m := by rw [Int.tmod_eq_emod_of_nonneg (by omega)]; exact hm
  rw [hm] at E
  have m1 : 0 ≤ m := by rw [← hm]; exact Int.emod_nonneg _ (by omega)
  have m2 : m < c := by rw [← hm]; exact Int.emod_lt_of_pos _ (by omega)
  have cz : ¬ c = 0 := by omega
  rw [hp, hq] at hP
  clear hm hp hq e1 h
  unfold geoV at *
  go_enter Tryz.func52, Tryz.ntmps52
  go_wp2_with fail
  refine (hM _).mono ?_
  rintro e w1 ⟨rfl, b1⟩
  have HK : Hid _ := Shp.kept HT.out b1
  obtain ⟨p0, p1, p2⟩ := HK.out.1
  clear b1
  go_wp2_with fail
  refine (hP _).mono ?_
  rintro e w2 ⟨rfl, b2⟩
  have HK2 : Hid _ := Shp.kept HK.out b2
  clear p0 p1 p2 b2 HK
  obtain ⟨p0, p1, p2⟩ := HK2.out.1
  go_wp2
  try go_quiet (fail)
  try go_wp2
  go_ret
  exact ⟨ret_int E.out, HK2.out.2⟩
 ·have hM := fun W => right_no c k r row i (c - 2) h W
  have E : Hid (0 = Lay.colI c k r row i) := (if_neg h).symm
  clear h
  unfold geoV at *
  go_enter Tryz.func52, Tryz.ntmps52
  go_wp2_with fail
  refine (hM _).mono ?_
  rintro e w1 ⟨rfl, b1⟩
  have HK : Hid _ := Shp.kept HT.out b1
  clear b1
  go_wp2
  go_ret
  exact ⟨ret_int E.out, HK.out.2⟩
set_option maxRecDepth 100000 in
set_option maxHeartbeats 2000000 in
theorem rColumn_least (c k r row i : Int) (hc : ¬ Lay.ok c k r) (w : World) :
  Calls Tryz.prog 52 #[geoV c k r, .int .i64 row, .int .i64 i] w fun e w' => e = .returned (.int .i64 0) ∧ Below w.heap.size w w' := by
 have HT : Hid _ := one_start w c k r 26
 have hM := fun W => right_no c k r row i (wrap64 (c - 2)) (fun x => hc x.1.1) W
 clear hc
 unfold geoV at *
 go_enter Tryz.func52, Tryz.ntmps52
 go_wp2_with fail
 refine (hM _).mono ?_
 rintro e w1 ⟨rfl, b1⟩
 have HK : Hid _ := Shp.kept HT.out b1
 clear b1
 go_wp2
 go_ret
 exact ⟨rfl, HK.out.2⟩
theorem rColumn_all (c k r row i : Int) (hc : -9223372036854775808 ≤ c) (hc2 : c ≤ 9223372036854775807) (w : World) :
  Calls Tryz.prog 52 #[geoV c k r, .int .i64 row, .int .i64 i] w fun e w' => e = .returned (.int .i64 (Lay.colI c k r row i)) ∧ Below w.heap.size w w' := by
 by_cases h : -9223372036854775806 ≤ c
 ·exact rColumn_any c k r row i h hc2 w
 ·have e0 : Lay.colI c k r row i = 0 := if_neg fun x => by have := x.1.1.1.1; omega
  rw [e0]
  exact rColumn_least c k r row i (fun x => by have := x.1.1; omega) w
set_option maxRecDepth 100000 in
set_option maxHeartbeats 2000000 in
theorem rSector_any (c k r row off : Int) (w : World) :
  Calls Tryz.prog 46 #[geoV c k r, .int .i64 row, .int .i64 off] w fun e w' => e = .returned (.int .i64 (Lay.sectI c k r row off)) ∧ Below w.heap.size w w' := by
 have HT : Hid _ := one_start w c k r 26
 by_cases h : Lay.hasRow c k r row ∧ 0 ≤ off ∧ off < k
 ·have hM := fun W => right_yes c k r row off k h.1 h.2.1 h.2.2 W
  obtain ⟨x, hx⟩ : ∃ x, row * k = x := ⟨_, rfl⟩
  have E : Hid (4 + x + off = Lay.sectI c k r row off) := by show _ = _; rw [← hx]; exact (if_pos h).symm
  obtain ⟨⟨hg, hr1, hr2⟩, hi⟩ := h
  have hk := hg.2.1
  have x1 : 0 ≤ x := by rw [← hx]; exact Int.mul_nonneg hr1 (by omega)
  have x2 : x ≤ 256 * 4 := by rw [← hx]; exact Int.mul_le_mul (by have := hg.2.2; omega) (by omega) (by omega) (by omega)
  clear hg
  unfold geoV at *
  go_enter Tryz.func46, Tryz.ntmps46
  go_wp2_with fail
  refine (hM _).mono ?_
  rintro e w1 ⟨rfl, b1⟩
  have HK : Hid _ := Shp.kept HT.out b1
  obtain ⟨p0, p1, p2⟩ := HK.out.1
  clear b1
  go_wp2
  go_ret
  exact ⟨ret_int E.out, HK.out.2⟩
 ·have hM := fun W => right_no c k r row off k h W
  have E : Hid (0 = Lay.sectI c k r row off) := (if_neg h).symm
  clear h
  unfold geoV at *
  go_enter Tryz.func46, Tryz.ntmps46
  go_wp2_with fail
  refine (hM _).mono ?_
  rintro e w1 ⟨rfl, b1⟩
  have HK : Hid _ := Shp.kept HT.out b1
  clear b1
  go_wp2
  go_ret
  exact ⟨ret_int E.out, HK.out.2⟩
end Go.Proofs.YtdgkhjgnjfgnlaaGreat
namespace Go.Proofs.YtdgkhjgnjfgnlaaGreat
open Go.RowKit
theorem Lay.role_cases {c k r row col : Int} (h : Lay.hasRow c k r row) (h1 : 0 ≤ col) (h2 : col < c) :
  Lay.roleI c k r row col = (col - (c - 1 - row % c + 1) % c - 1) % c ∧
  (col = Lay.parP c k r row → Lay.roleI c k r row col = c - 2) ∧ (col = Lay.parQ c k r row → Lay.roleI c k r row col = c - 1) ∧
  (col ≠ Lay.parP c k r row → col ≠ Lay.parQ c k r row → 0 ≤ Lay.roleI c k r row col ∧ Lay.roleI c k r row col < c - 2 ∧ Lay.colI c k r row (Lay.roleI c k r row col) = col) ∧
  (∀ i, 0 ≤ i → i < c - 2 → Lay.colI c k r row i = col → Lay.roleI c k r row col = i) := by
 have hp : Lay.parP c k r row = c - 1 - row % c := if_pos h
 have hq : Lay.parQ c k r row = (c - 1 - row % c + 1) % c := if_pos h
 have hr : Lay.roleI c k r row col = (col - (c - 1 - row % c + 1) % c - 1) % c := if_pos ⟨h, h1, h2⟩
 have hc : ∀ i, 0 ≤ i → i < c - 2 → Lay.colI c k r row i = ((c - 1 - row % c + 1) % c + 1 + i) % c := fun i a b => if_pos ⟨h, a, b⟩
 rw [hp, hq]
 obtain ⟨⟨⟨c1, c2⟩, _⟩, r1, _⟩ := h
 obtain ⟨m, hm⟩ : ∃ m, row % c = m := ⟨_, rfl⟩
 have m1 : 0 ≤ m := by rw [← hm]; exact Int.emod_nonneg row (by omega)
 have m2 : m < c := by rw [← hm]; exact Int.emod_lt_of_pos row (by omega)
 rw [hm] at hr hc ⊢
 clear hp hq hm
 have hcc : c = 4 ∨ c = 5 ∨ c = 6 ∨ c = 7 ∨ c = 8 ∨ c = 9 ∨ c = 10 := by omega
 refine ⟨hr, ?_, ?_, ?_, ?_⟩
 ·intro e; rw [hr]; clear hr hc
  rcases hcc with rfl | rfl | rfl | rfl | rfl | rfl | rfl <;> omega
 ·intro e; rw [hr]; clear hr hc
  rcases hcc with rfl | rfl | rfl | rfl | rfl | rfl | rfl <;> omega
 ·intro e1 e2
  have g : 0 ≤ Lay.roleI c k r row col ∧ Lay.roleI c k r row col < c - 2 := by
   rw [hr]; clear hr hc
   rcases hcc with rfl | rfl | rfl | rfl | rfl | rfl | rfl <;> omega
  refine ⟨g.1, g.2, ?_⟩
  rw [hc _ g.1 g.2, hr]
  clear hr hc g
  rcases hcc with rfl | rfl | rfl | rfl | rfl | rfl | rfl <;> omega
 ·intro i i1 i2 e
  rw [hc i i1 i2] at e
  rw [hr]
  clear hr hc
  rcases hcc with rfl | rfl | rfl | rfl | rfl | rfl | rfl <;> omega
set_option maxRecDepth 100000 in
set_option maxHeartbeats 2000000 in
theorem rRole_any (c k r row col : Int) (w : World) :
  Calls Tryz.prog 77 #[geoV c k r, .int .i64 row, .int .i64 col] w fun e w' => e = .returned (.int .i64 (Lay.roleI c k r row col)) ∧ Below w.heap.size w w' := by
 have HT : Hid _ := one_start w c k r 26
 by_cases h : Lay.hasRow c k r row ∧ 0 ≤ col ∧ col < c
 ·have hM := fun W => right_yes c k r row col c h.1 h.2.1 h.2.2 W
  have hP := fun W => rParity_any c k r row W
  obtain ⟨_, g1, g2, g3, g4⟩ := Lay.role_cases h.1 h.2.1 h.2.2
  obtain ⟨c1, c2⟩ := h.1.1.1
  obtain ⟨p, hp⟩ : ∃ p, Lay.parP c k r row = p := ⟨_, rfl⟩
  obtain ⟨q, hq⟩ : ∃ q, Lay.parQ c k r row = q := ⟨_, rfl⟩
  rw [hp] at g1 g3 hP
  rw [hq] at g2 g3 hP
  clear hp hq h
  by_cases e1 : col = p
  ·have E : Hid (c - 2 = Lay.roleI c k r row col) := (g1 e1).symm
   subst e1
   clear g1 g2 g3 g4
   unfold geoV at *
   go_enter Tryz.func77, Tryz.ntmps77
   go_wp2_with fail
   refine (hM _).mono ?_
   rintro e w1 ⟨rfl, b1⟩
   have HK : Hid _ := Shp.kept HT.out b1
   obtain ⟨p0, p1, p2⟩ := HK.out.1
   clear b1
   go_wp2_with fail
   refine (hP _).mono ?_
   rintro e w2 ⟨rfl, b2⟩
   have HK2 : Hid _ := Shp.kept HK.out b2
   clear p0 p1 p2 b2 HK
   obtain ⟨p0, p1, p2⟩ := HK2.out.1
   go_wp2
   go_ret
   exact ⟨ret_int E.out, HK2.out.2⟩
  ·have b1 : (col == p) = false := by rw [beq_eq_false_iff_ne]; exact e1
   by_cases e2 : col = q
   ·have E : Hid (c - 1 = Lay.roleI c k r row col) := (g2 e2).symm
    subst e2
    clear g1 g2 g3 g4
    unfold geoV at *
    go_enter Tryz.func77, Tryz.ntmps77
    go_wp2_with fail
    refine (hM _).mono ?_
    rintro e w1 ⟨rfl, b1⟩
    have HK : Hid _ := Shp.kept HT.out b1
    obtain ⟨p0, p1, p2⟩ := HK.out.1
    clear b1
    go_wp2_with fail
    refine (hP _).mono ?_
    rintro e w2 ⟨rfl, b2⟩
    have HK2 : Hid _ := Shp.kept HK.out b2
    clear p0 p1 p2 b2 HK
    obtain ⟨p0, p1, p2⟩ := HK2.out.1
    go_wp2
    go_ret
    exact ⟨ret_int E.out, HK2.out.2⟩
   ·have b2 : (col == q) = false := by rw [beq_eq_false_iff_ne]; exact e2
    obtain ⟨t1, t2, t3⟩ := g3 e1 e2
    obtain ⟨t, ht⟩ : ∃ t, Lay.roleI c k r row col = t := ⟨_, rfl⟩
    have E : Hid (t = Lay.roleI c k r row col) := ht.symm
    rw [ht] at t1 t2 t3
    have hC := fun (i : Int) W => rColumn_any c k r row i (by omega) (by omega) W
    have HX : Hid (∀ i : Int, 0 ≤ i → i < t → ¬ Lay.colI c k r row i = col) := fun i i1 i2 e => by
     have := g4 i i1 (by omega) e
     omega
    have HT3 : Hid (Lay.colI c k r row t = col) := t3
    clear g1 g2 g3 g4 ht t3
    unfold geoV at *
    go_enter Tryz.func77, Tryz.ntmps77
    go_wp2_with fail
    refine (hM _).mono ?_
    rintro e w1 ⟨rfl, b1⟩
    have HK : Hid _ := Shp.kept HT.out b1
    obtain ⟨p0, p1, p2⟩ := HK.out.1
    clear b1
    go_wp2_with fail
    refine (hP _).mono ?_
    rintro e w2 ⟨rfl, b2⟩
    have HK2 : Hid (Shp w w2 w.heap.size c k r) := Shp.kept HK.out b2
    clear p0 p1 p2 b2 HK
    go_wp2
    go_loopw [9] (fun n wr => ∃ m : Int, 0 ≤ m ∧ m ≤ t ∧ n = .int .i64 m ∧ Shp w wr w.heap.size c k r) (fun n _ => (t - intOf n).toNat)
    case atStart => exact ⟨0, by omega, by omega, rfl, HK2.out⟩
    case round =>
     obtain ⟨m, m1, m2, rfl, hs⟩ := hrel
     have HS : Hid (Shp w wr w.heap.size c k r) := hs
     obtain ⟨p0, p1, p2⟩ := hs.1
     clear hs
     have hCm := fun W => hC m W
     clear hC
     by_cases hmt : m = t
     ·rw [show Lay.colI c k r row m = col by rw [hmt]; exact HT3.out] at hCm
      have HMT : Hid (m = t) := hmt
      clear hmt
      go_wp2_with fail
      refine (hCm _).mono ?_
      rintro e w3 ⟨rfl, b3⟩
      have HS3 : Hid (Shp w w3 w.heap.size c k r) := Shp.kept HS.out b3
      clear p0 p1 p2 b3
      go_wp2
      go_ret
      exact ⟨ret_int (HMT.out.trans E.out), HS3.out.2⟩
     ·have hne := HX.out m m1 (by omega)
      obtain ⟨y, hy⟩ : ∃ y, Lay.colI c k r row m = y := ⟨_, rfl⟩
      rw [hy] at hne hCm
      have hyb : (y != col) = true := by rw [bne_iff_ne]; exact hne
      clear hy hne
      go_wp2_with fail
      refine (hCm _).mono ?_
      rintro e w3 ⟨rfl, b3⟩
      have HS3 : Hid (Shp w w3 w.heap.size c k r) := Shp.kept HS.out b3
      clear p0 p1 p2 b3
      go_wp2
      go_roundw
      case rel => exact ⟨m + 1, by omega, by omega, by go_num, HS3.out⟩
      case measure => simp [intOf]; omega
 ·have hM := fun W => right_no c k r row col c h W
  have E : Hid (0 = Lay.roleI c k r row col) := (if_neg h).symm
  clear h
  unfold geoV at *
  go_enter Tryz.func77, Tryz.ntmps77
  go_wp2_with fail
  refine (hM _).mono ?_
  rintro e w1 ⟨rfl, b1⟩
  have HK : Hid _ := Shp.kept HT.out b1
  clear b1
  go_wp2
  go_ret
  exact ⟨ret_int E.out, HK.out.2⟩
end Go.Proofs.YtdgkhjgnjfgnlaaGreat
