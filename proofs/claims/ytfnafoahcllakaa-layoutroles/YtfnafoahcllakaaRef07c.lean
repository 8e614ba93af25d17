/- The walks of the document's own layout: Back, Role. -/
import Derived.Test.YtfnafoahcllakaaRef07b
namespace Go.Proofs.Ytfnafoahcllakaa
open Go.RowKit

theorem Lay.backE_yes {c k r row i off : Int} (h : Lay.ok c k r) (hp : (0 ≤ row ∧ row < r) ∧ (0 ≤ i ∧ i < c - 2) ∧ 0 ≤ off ∧ off < k) : 0 = Lay.backE c k r row i off := by
  unfold Lay.backE; rw [if_pos h, if_pos hp]
theorem Lay.backE_no {c k r row i off : Int} (h : Lay.ok c k r) (hp : ¬ ((0 ≤ row ∧ row < r) ∧ (0 ≤ i ∧ i < c - 2) ∧ 0 ≤ off ∧ off < k)) : 70 = Lay.backE c k r row i off := by
  unfold Lay.backE; rw [if_pos h, if_neg hp]

set_option maxRecDepth 100000 in
set_option maxHeartbeats 2000000 in
theorem rBack_any (c k r row i off : Int) (w : World) :
    Calls Try.prog 14 #[geoV c k r, .int .i64 row, .int .i64 i, .int .i64 off] w fun e w' => e = .returned (.tuple #[.int .i64 (Lay.backN c k r row i off), .int .i64 (Lay.backE c k r row i off)]) ∧ Below w.heap.size w w' := by
  have HT : Hid _ := one_start w c k r 23
  by_cases h : Lay.ok c k r
  · have hM := fun W => rCheck_yes c k r h W
    obtain ⟨c1, c2⟩ := h.1
    by_cases hr : Lay.hasRow c k r row ∧ 0 ≤ i ∧ i < c - 2
    · have hR := fun W => right_yes c k r row i (c - 2) hr.1 hr.2.1 hr.2.2 W
      by_cases o1 : off < 0
      · have E : Hid (0 = Lay.backN c k r row i off ∧ 70 = Lay.backE c k r row i off) := ⟨(if_neg (by omega)).symm, Lay.backE_no h (by omega)⟩
        clear h hr
        unfold geoV at *
        go_enter Try.func14, Try.ntmps14
        go_wp2_with fail
        refine (hM _).mono ?_
        rintro e w1 ⟨rfl, b1⟩
        have HK : Hid _ := Shp.kept HT.out b1
        obtain ⟨p0, p1, p2⟩ := HK.out.1
        clear b1
        go_wp2_with fail
        refine (hR _).mono ?_
        rintro e w2 ⟨rfl, b2⟩
        have HK2 : Hid _ := Shp.kept HK.out b2
        clear p0 p1 p2 b2 HK
        obtain ⟨p0, p1, p2⟩ := HK2.out.1
        go_wp2
        go_ret2
        exact ⟨ret_ii E.out.1 E.out.2, HK2.out.2⟩
      · by_cases o2 : k ≤ off
        · have E : Hid (0 = Lay.backN c k r row i off ∧ 70 = Lay.backE c k r row i off) := ⟨(if_neg (by omega)).symm, Lay.backE_no h (by omega)⟩
          clear h hr
          unfold geoV at *
          go_enter Try.func14, Try.ntmps14
          go_wp2_with fail
          refine (hM _).mono ?_
          rintro e w1 ⟨rfl, b1⟩
          have HK : Hid _ := Shp.kept HT.out b1
          obtain ⟨p0, p1, p2⟩ := HK.out.1
          clear b1
          go_wp2_with fail
          refine (hR _).mono ?_
          rintro e w2 ⟨rfl, b2⟩
          have HK2 : Hid _ := Shp.kept HK.out b2
          clear p0 p1 p2 b2 HK
          obtain ⟨p0, p1, p2⟩ := HK2.out.1
          go_wp2
          go_ret2
          exact ⟨ret_ii E.out.1 E.out.2, HK2.out.2⟩
        · have hp : (0 ≤ row ∧ row < r) ∧ (0 ≤ i ∧ i < c - 2) ∧ 0 ≤ off ∧ off < k := ⟨hr.1.2, hr.2, by omega, by omega⟩
          have E : Hid ((row * (c - 2) + i) * k + off = Lay.backN c k r row i off ∧ 0 = Lay.backE c k r row i off) := ⟨(if_pos ⟨h, hp⟩).symm, Lay.backE_yes h hp⟩
          obtain ⟨⟨a1, a2⟩, ⟨i1, i2⟩, _⟩ := hp
          obtain ⟨_, ⟨k1, k2⟩, r1, r2⟩ := h
          have x1 : 0 ≤ row * (c - 2) := Int.mul_nonneg (by omega) (by omega)
          have x2 : row * (c - 2) ≤ 256 * 8 := Int.mul_le_mul (by omega) (by omega) (by omega) (by omega)
          have x3 : 0 ≤ (row * (c - 2) + i) * k := Int.mul_nonneg (by omega) (by omega)
          have x4 : (row * (c - 2) + i) * k ≤ 3000 * 4 := Int.mul_le_mul (by omega) (by omega) (by omega) (by omega)
          clear hr
          unfold geoV at *
          go_enter Try.func14, Try.ntmps14
          go_wp2_with fail
          refine (hM _).mono ?_
          rintro e w1 ⟨rfl, b1⟩
          have HK : Hid _ := Shp.kept HT.out b1
          obtain ⟨p0, p1, p2⟩ := HK.out.1
          clear b1
          go_wp2_with fail
          refine (hR _).mono ?_
          rintro e w2 ⟨rfl, b2⟩
          have HK2 : Hid _ := Shp.kept HK.out b2
          clear p0 p1 p2 b2 HK
          obtain ⟨p0, p1, p2⟩ := HK2.out.1
          go_wp2
          go_ret2
          exact ⟨ret_ii E.out.1 E.out.2, HK2.out.2⟩
    · have hR := fun W => right_no c k r row i (c - 2) hr W
      have hp : ¬ ((0 ≤ row ∧ row < r) ∧ (0 ≤ i ∧ i < c - 2) ∧ 0 ≤ off ∧ off < k) := fun x => hr ⟨⟨h, x.1⟩, x.2.1⟩
      have E : Hid (0 = Lay.backN c k r row i off ∧ 70 = Lay.backE c k r row i off) := ⟨(if_neg fun x => hp x.2).symm, Lay.backE_no h hp⟩
      clear h hr hp
      unfold geoV at *
      go_enter Try.func14, Try.ntmps14
      go_wp2_with fail
      refine (hM _).mono ?_
      rintro e w1 ⟨rfl, b1⟩
      have HK : Hid _ := Shp.kept HT.out b1
      obtain ⟨p0, p1, p2⟩ := HK.out.1
      clear b1
      go_wp2_with fail
      refine (hR _).mono ?_
      rintro e w2 ⟨rfl, b2⟩
      have HK2 : Hid _ := Shp.kept HK.out b2
      clear p0 p1 p2 b2 HK
      go_wp2
      go_ret2
      exact ⟨ret_ii E.out.1 E.out.2, HK2.out.2⟩
  · have hM := fun W => rCheck_no c k r h W
    have E : Hid (0 = Lay.backN c k r row i off ∧ 1 = Lay.backE c k r row i off) := ⟨(if_neg fun x => h x.1).symm, (if_neg h).symm⟩
    clear h
    unfold geoV at *
    go_enter Try.func14, Try.ntmps14
    go_wp2_with fail
    refine (hM _).mono ?_
    rintro e w1 ⟨rfl, b1⟩
    have HK : Hid _ := Shp.kept HT.out b1
    clear b1
    go_wp2
    go_ret2
    exact ⟨ret_ii E.out.1 E.out.2, HK.out.2⟩

/-- which role each column has, and back -/
theorem Lay.role_cases {c k r row col : Int} (h : Lay.hasRow c k r row) (h1 : 0 ≤ col) (h2 : col < c) :
    Lay.roleI c k r row col = (col - (c - 1 - row % c + 1) % c - 1) % c ∧
    (col = Lay.parP c k r row → Lay.roleI c k r row col = c - 2) ∧ (col = Lay.parQ c k r row → Lay.roleI c k r row col = c - 1) ∧
    (col ≠ Lay.parP c k r row → col ≠ Lay.parQ c k r row → 0 ≤ Lay.roleI c k r row col ∧ Lay.roleI c k r row col < c - 2 ∧ Lay.colI c k r row (Lay.roleI c k r row col) = col) ∧
    (∀ i, 0 ≤ i → i < c - 2 → Lay.colI c k r row i = col → Lay.roleI c k r row col = i) := by
  have hp : Lay.parP c k r row = c - 1 - row % c := if_pos h
  have hq : Lay.parQ c k r row = (c - 1 - row % c + 1) % c := if_pos h
  have hr : Lay.roleI c k r row col = (col - (c - 1 - row % c + 1) % c - 1) % c := if_pos ⟨h, h1, h2⟩
  have hc : ∀ i, 0 ≤ i → i < c - 2 → Lay.colI c k r row i = ((c - 1 - row % c + 1) % c + 1 + i) % c := fun i a b => if_pos ⟨h, a, b⟩
  rw [hp, hq]
  obtain ⟨⟨⟨c1, c2⟩, _⟩, r1, _⟩ := h
  obtain ⟨m, hm⟩ : ∃ m, row % c = m := ⟨_, rfl⟩
  have m1 : 0 ≤ m := by rw [← hm]; exact Int.emod_nonneg row (by omega)
  have m2 : m < c := by rw [← hm]; exact Int.emod_lt_of_pos row (by omega)
  rw [hm] at hr hc ⊢
  clear hp hq hm
  have hcc : c = 4 ∨ c = 5 ∨ c = 6 ∨ c = 7 ∨ c = 8 ∨ c = 9 ∨ c = 10 := by omega
  refine ⟨hr, ?_, ?_, ?_, ?_⟩
  · intro e; rw [hr]; clear hr hc
    rcases hcc with rfl | rfl | rfl | rfl | rfl | rfl | rfl <;> omega
  · intro e; rw [hr]; clear hr hc
    rcases hcc with rfl | rfl | rfl | rfl | rfl | rfl | rfl <;> omega
  · intro e1 e2
    have g : 0 ≤ Lay.roleI c k r row col ∧ Lay.roleI c k r row col < c - 2 := by
      rw [hr]; clear hr hc
      rcases hcc with rfl | rfl | rfl | rfl | rfl | rfl | rfl <;> omega
    refine ⟨g.1, g.2, ?_⟩
    rw [hc _ g.1 g.2, hr]
    clear hr hc g
    rcases hcc with rfl | rfl | rfl | rfl | rfl | rfl | rfl <;> omega
  · intro i i1 i2 e
    rw [hc i i1 i2] at e
    rw [hr]
    clear hr hc
    rcases hcc with rfl | rfl | rfl | rfl | rfl | rfl | rfl <;> omega

set_option maxRecDepth 100000 in
set_option maxHeartbeats 2000000 in
theorem rRole_any (c k r row col : Int) (w : World) :
    Calls Try.prog 26 #[geoV c k r, .int .i64 row, .int .i64 col] w fun e w' => e = .returned (.int .i64 (Lay.roleI c k r row col)) ∧ Below w.heap.size w w' := by
  have HT : Hid _ := one_start w c k r 23
  by_cases h : Lay.hasRow c k r row ∧ 0 ≤ col ∧ col < c
  · have hM := fun W => right_yes c k r row col c h.1 h.2.1 h.2.2 W
    have hP := fun W => rParity_any c k r row W
    obtain ⟨_, g1, g2, g3, g4⟩ := Lay.role_cases h.1 h.2.1 h.2.2
    obtain ⟨c1, c2⟩ := h.1.1.1
    obtain ⟨p, hp⟩ : ∃ p, Lay.parP c k r row = p := ⟨_, rfl⟩
    obtain ⟨q, hq⟩ : ∃ q, Lay.parQ c k r row = q := ⟨_, rfl⟩
    rw [hp] at g1 g3 hP
    rw [hq] at g2 g3 hP
    clear hp hq h
    by_cases e1 : col = p
    · have E : Hid (c - 2 = Lay.roleI c k r row col) := (g1 e1).symm
      subst e1
      clear g1 g2 g3 g4
      unfold geoV at *
      go_enter Try.func26, Try.ntmps26
      go_wp2_with fail
      refine (hM _).mono ?_
      rintro e w1 ⟨rfl, b1⟩
      have HK : Hid _ := Shp.kept HT.out b1
      obtain ⟨p0, p1, p2⟩ := HK.out.1
      clear b1
      go_wp2_with fail
      refine (hP _).mono ?_
      rintro e w2 ⟨rfl, b2⟩
      have HK2 : Hid _ := Shp.kept HK.out b2
      clear p0 p1 p2 b2 HK
      obtain ⟨p0, p1, p2⟩ := HK2.out.1
      go_wp2
      go_ret
      exact ⟨ret_int E.out, HK2.out.2⟩
    · have b1 : (col == p) = false := by rw [beq_eq_false_iff_ne]; exact e1
      by_cases e2 : col = q
      · have E : Hid (c - 1 = Lay.roleI c k r row col) := (g2 e2).symm
        subst e2
        clear g1 g2 g3 g4
        unfold geoV at *
        go_enter Try.func26, Try.ntmps26
        go_wp2_with fail
        refine (hM _).mono ?_
        rintro e w1 ⟨rfl, b1⟩
        have HK : Hid _ := Shp.kept HT.out b1
        obtain ⟨p0, p1, p2⟩ := HK.out.1
        clear b1
        go_wp2_with fail
        refine (hP _).mono ?_
        rintro e w2 ⟨rfl, b2⟩
        have HK2 : Hid _ := Shp.kept HK.out b2
        clear p0 p1 p2 b2 HK
        obtain ⟨p0, p1, p2⟩ := HK2.out.1
        go_wp2
        go_ret
        exact ⟨ret_int E.out, HK2.out.2⟩
      · have b2 : (col == q) = false := by rw [beq_eq_false_iff_ne]; exact e2
        obtain ⟨t1, t2, t3⟩ := g3 e1 e2
        obtain ⟨t, ht⟩ : ∃ t, Lay.roleI c k r row col = t := ⟨_, rfl⟩
        have E : Hid (t = Lay.roleI c k r row col) := ht.symm
        rw [ht] at t1 t2 t3
        have hC := fun (i : Int) W => rColumn_any c k r row i (by omega) (by omega) W
        have HX : Hid (∀ i : Int, 0 ≤ i → i < t → ¬ Lay.colI c k r row i = col) := fun i i1 i2 e => by
          have := g4 i i1 (by omega) e
          omega
        have HT3 : Hid (Lay.colI c k r row t = col) := t3
        clear g1 g2 g3 g4 ht t3
        unfold geoV at *
        go_enter Try.func26, Try.ntmps26
        go_wp2_with fail
        refine (hM _).mono ?_
        rintro e w1 ⟨rfl, b1⟩
        have HK : Hid _ := Shp.kept HT.out b1
        obtain ⟨p0, p1, p2⟩ := HK.out.1
        clear b1
        go_wp2_with fail
        refine (hP _).mono ?_
        rintro e w2 ⟨rfl, b2⟩
        have HK2 : Hid (Shp w w2 w.heap.size c k r) := Shp.kept HK.out b2
        clear p0 p1 p2 b2 HK
        go_wp2
        go_loopw [9] (fun n wr => ∃ m : Int, 0 ≤ m ∧ m ≤ t ∧ n = .int .i64 m ∧ Shp w wr w.heap.size c k r) (fun n _ => (t - intOf n).toNat)
        case atStart => exact ⟨0, by omega, by omega, rfl, HK2.out⟩
        case round =>
          obtain ⟨m, m1, m2, rfl, hs⟩ := hrel
          have HS : Hid (Shp w wr w.heap.size c k r) := hs
          obtain ⟨p0, p1, p2⟩ := hs.1
          clear hs
          have hCm := fun W => hC m W
          clear hC
          by_cases hmt : m = t
          · rw [show Lay.colI c k r row m = col by rw [hmt]; exact HT3.out] at hCm
            have HMT : Hid (m = t) := hmt
            clear hmt
            go_wp2_with fail
            refine (hCm _).mono ?_
            rintro e w3 ⟨rfl, b3⟩
            have HS3 : Hid (Shp w w3 w.heap.size c k r) := Shp.kept HS.out b3
            clear p0 p1 p2 b3
            go_wp2
            go_ret
            exact ⟨ret_int (HMT.out.trans E.out), HS3.out.2⟩
          · have hne := HX.out m m1 (by omega)
            obtain ⟨y, hy⟩ : ∃ y, Lay.colI c k r row m = y := ⟨_, rfl⟩
            rw [hy] at hne hCm
            have hyb : (y != col) = true := by rw [bne_iff_ne]; exact hne
            clear hy hne
            go_wp2_with fail
            refine (hCm _).mono ?_
            rintro e w3 ⟨rfl, b3⟩
            have HS3 : Hid (Shp w w3 w.heap.size c k r) := Shp.kept HS.out b3
            clear p0 p1 p2 b3
            go_wp2
            go_roundw
            case rel => exact ⟨m + 1, by omega, by omega, by go_num, HS3.out⟩
            case measure => simp [intOf]; omega
  · have hM := fun W => right_no c k r row col c h W
    have E : Hid (0 = Lay.roleI c k r row col) := (if_neg h).symm
    clear h
    unfold geoV at *
    go_enter Try.func26, Try.ntmps26
    go_wp2_with fail
    refine (hM _).mono ?_
    rintro e w1 ⟨rfl, b1⟩
    have HK : Hid _ := Shp.kept HT.out b1
    clear b1
    go_wp2
    go_ret
    exact ⟨ret_int E.out, HK.out.2⟩
end Go.Proofs.Ytfnafoahcllakaa
