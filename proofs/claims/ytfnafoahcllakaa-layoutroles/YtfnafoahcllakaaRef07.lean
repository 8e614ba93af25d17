/- The walks of the document's own layout: Check, Size, Need, Rows, right, Parity, Column, Find, Back, Sector. -/
import Derived.Test.YtfnafoahcllakaaLayTop2
namespace Go.Proofs.Ytfnafoahcllakaa
open Go.RowKit

theorem one_start (w : World) (c k r : Int) (t : TypeId) : Shp w (w.alloc (.cells #[.int .i64 c, .int .i64 k, .int .i64 r] t)) w.heap.size c k r :=
  ⟨ShpAt.new w c k r t, (Below.refl _ _).alloc (Nat.le_refl _) _⟩

set_option maxRecDepth 100000 in
set_option maxHeartbeats 2000000 in
theorem rCheck_yes (c k r : Int) (h : Lay.ok c k r) (w : World) :
    Calls Try.prog 16 #[geoV c k r] w fun e w' => e = .returned (.int .i64 0) ∧ Below w.heap.size w w' := by
  obtain ⟨⟨c1, c2⟩, ⟨k1, k2⟩, r1, r2⟩ := h
  unfold geoV at *
  go_enter Try.func16, Try.ntmps16
  go_wp2
  go_ret
  exact ⟨rfl, (Below.refl _ _).alloc (Nat.le_refl _) _⟩
set_option maxRecDepth 100000 in
set_option maxHeartbeats 2000000 in
theorem rCheck_no (c k r : Int) (h : ¬ Lay.ok c k r) (w : World) :
    Calls Try.prog 16 #[geoV c k r] w fun e w' => e = .returned (.int .i64 1) ∧ Below w.heap.size w w' := by
  unfold geoV at *
  by_cases c1 : c < 4
  · clear h
    go_enter Try.func16, Try.ntmps16
    go_wp2
    go_ret
    exact ⟨rfl, (Below.refl _ _).alloc (Nat.le_refl _) _⟩
  · by_cases c2 : 10 < c
    · clear h
      go_enter Try.func16, Try.ntmps16
      go_wp2
      go_ret
      exact ⟨rfl, (Below.refl _ _).alloc (Nat.le_refl _) _⟩
    · by_cases k1 : k < 1
      · clear h
        go_enter Try.func16, Try.ntmps16
        go_wp2
        go_ret
        exact ⟨rfl, (Below.refl _ _).alloc (Nat.le_refl _) _⟩
      · by_cases k2 : 4 < k
        · clear h
          go_enter Try.func16, Try.ntmps16
          go_wp2
          go_ret
          exact ⟨rfl, (Below.refl _ _).alloc (Nat.le_refl _) _⟩
        · by_cases r1 : r < 1
          · clear h
            go_enter Try.func16, Try.ntmps16
            go_wp2
            go_ret
            exact ⟨rfl, (Below.refl _ _).alloc (Nat.le_refl _) _⟩
          · have r2 : 256 < r := by
              apply Int.lt_of_not_ge
              intro x
              exact h ⟨⟨by omega, by omega⟩, ⟨by omega, by omega⟩, by omega, by omega⟩
            clear h
            go_enter Try.func16, Try.ntmps16
            go_wp2
            go_ret
            exact ⟨rfl, (Below.refl _ _).alloc (Nat.le_refl _) _⟩
theorem rCheck_any (c k r : Int) (w : World) :
    Calls Try.prog 16 #[geoV c k r] w fun e w' => e = .returned (.int .i64 (Lay.checkI c k r)) ∧ Below w.heap.size w w' := by
  by_cases h : Lay.ok c k r
  · rw [show Lay.checkI c k r = 0 from if_pos h]; exact rCheck_yes c k r h w
  · rw [show Lay.checkI c k r = 1 from if_neg h]; exact rCheck_no c k r h w

set_option maxRecDepth 100000 in
set_option maxHeartbeats 2000000 in
theorem rSize_any (c k r : Int) (w : World) :
    Calls Try.prog 18 #[geoV c k r] w fun e w' => e = .returned (.int .i64 (Lay.sizeI c k r)) ∧ Below w.heap.size w w' := by
  have HT : Hid _ := one_start w c k r 23
  by_cases h : Lay.ok c k r
  · have hM := fun W => rCheck_yes c k r h W
    have hz := Lay.size_le h
    have E : Hid (r * (c - 2) * k = Lay.sizeI c k r) := (if_pos h).symm
    obtain ⟨⟨c1, c2⟩, ⟨k1, k2⟩, r1, r2⟩ := h
    have x1 : 0 ≤ r * (c - 2) := Int.mul_nonneg (by omega) (by omega)
    have x2 : r * (c - 2) ≤ 256 * 8 := Int.mul_le_mul (by omega) (by omega) (by omega) (by omega)
    unfold geoV at *
    go_enter Try.func18, Try.ntmps18
    go_wp2_with fail
    refine (hM _).mono ?_
    rintro e w1 ⟨rfl, b1⟩
    have HK : Hid _ := Shp.kept HT.out b1
    obtain ⟨p0, p1, p2⟩ := HK.out.1
    clear b1
    go_wp2
    go_ret
    exact ⟨ret_int E.out, HK.out.2⟩
  · have hM := fun W => rCheck_no c k r h W
    have E : Hid (0 = Lay.sizeI c k r) := (if_neg h).symm
    clear h
    unfold geoV at *
    go_enter Try.func18, Try.ntmps18
    go_wp2_with fail
    refine (hM _).mono ?_
    rintro e w1 ⟨rfl, b1⟩
    have HK : Hid _ := Shp.kept HT.out b1
    clear b1
    go_wp2
    go_ret
    exact ⟨ret_int E.out, HK.out.2⟩

set_option maxRecDepth 100000 in
set_option maxHeartbeats 2000000 in
theorem rNeed_any (c k r : Int) (w : World) :
    Calls Try.prog 20 #[geoV c k r] w fun e w' => e = .returned (.int .i64 (Lay.needI c k r)) ∧ Below w.heap.size w w' := by
  have HT : Hid _ := one_start w c k r 23
  by_cases h : Lay.ok c k r
  · have hM := fun W => rCheck_yes c k r h W
    obtain ⟨x, hx⟩ : ∃ x, r * k = x := ⟨_, rfl⟩
    have E : Hid (4 + x = Lay.needI c k r) := by show _ = _; rw [← hx]; exact (if_pos h).symm
    have x1 : 0 ≤ x := by rw [← hx]; exact Int.mul_nonneg (by have := h.2.2; omega) (by have := h.2.1; omega)
    have x2 : x ≤ 256 * 4 := by rw [← hx]; exact Int.mul_le_mul (by have := h.2.2; omega) (by have := h.2.1; omega) (by have := h.2.1; omega) (by omega)
    clear h
    unfold geoV at *
    go_enter Try.func20, Try.ntmps20
    go_wp2_with fail
    refine (hM _).mono ?_
    rintro e w1 ⟨rfl, b1⟩
    have HK : Hid _ := Shp.kept HT.out b1
    obtain ⟨p0, p1, p2⟩ := HK.out.1
    clear b1
    go_wp2
    go_ret
    exact ⟨ret_int E.out, HK.out.2⟩
  · have hM := fun W => rCheck_no c k r h W
    have E : Hid (0 = Lay.needI c k r) := (if_neg h).symm
    clear h
    unfold geoV at *
    go_enter Try.func20, Try.ntmps20
    go_wp2_with fail
    refine (hM _).mono ?_
    rintro e w1 ⟨rfl, b1⟩
    have HK : Hid _ := Shp.kept HT.out b1
    clear b1
    go_wp2
    go_ret
    exact ⟨ret_int E.out, HK.out.2⟩

set_option maxRecDepth 100000 in
set_option maxHeartbeats 2000000 in
theorem rRows_any (s k : Int) (s1 : -9223372036854775808 ≤ s) (s2 : s ≤ 9223372036854775807) (w : World) :
    Calls Try.prog 22 #[.int .i64 s, .int .i64 k] w fun e w' => e = .returned (.int .i64 (Lay.rowsI s k)) ∧ Below w.heap.size w w' := by
  by_cases k1 : k < 1
  · have E : Hid (0 = Lay.rowsI s k) := (if_neg (by omega)).symm
    clear s1 s2
    go_enter Try.func22, Try.ntmps22
    go_wp2
    go_ret
    exact ⟨ret_int E.out, Below.refl _ _⟩
  · by_cases k2 : 4 < k
    · have E : Hid (0 = Lay.rowsI s k) := (if_neg (by omega)).symm
      clear s1 s2
      go_enter Try.func22, Try.ntmps22
      go_wp2
      go_ret
      exact ⟨ret_int E.out, Below.refl _ _⟩
    · by_cases s4 : s < 4
      · have E : Hid (0 = Lay.rowsI s k) := (if_neg (by omega)).symm
        clear s1 s2
        go_enter Try.func22, Try.ntmps22
        go_wp2
        go_ret
        exact ⟨ret_int E.out, Below.refl _ _⟩
      · obtain ⟨q, hq⟩ : ∃ q, (s - 4) / k = q := ⟨_, rfl⟩
        have q1 : 0 ≤ q := by rw [← hq]; exact Int.ediv_nonneg (by omega) (by omega)
        have q2 : q ≤ 9223372036854775807 := by rw [← hq]; exact Int.le_trans (Int.ediv_le_self k (by omega)) (by omega)
        have eq : (s - 4).tdiv k = q := by rw [Int.tdiv_eq_ediv_of_nonneg (by omega)]; exact hq
        obtain ⟨Z, hZ⟩ : ∃ Z, Z = min q 256 := ⟨_, rfl⟩
        have hmin : ∀ (ts : Array TypeId) (ty : TypeId) (W : World), (Builtin.min_ ts ty #[.int .i64 q, .int .i64 256]).run Try.prog W = .ok (.int .i64 Z) W := by
          intro ts ty W
          simp [Builtin.min_, Builtin.min2]
          omega
        have E : Hid (Z = Lay.rowsI s k) := by
          show _ = _
          unfold Lay.rowsI
          rw [if_pos (by omega), hq]; split <;> omega
        have kz : ¬ k = 0 := by omega
        clear hq hZ
        go_enter Try.func22, Try.ntmps22
        go_wp2
        go_ret
        exact ⟨ret_int E.out, Below.refl _ _⟩

set_option maxRecDepth 100000 in
set_option maxHeartbeats 2000000 in
theorem right_yes (c k r row n m : Int) (h : Lay.hasRow c k r row) (n1 : 0 ≤ n) (n2 : n < m) (w : World) :
    Calls Try.prog 37 #[geoV c k r, .int .i64 row, .int .i64 n, .int .i64 m] w fun e w' => e = .returned (.bool true) ∧ Below w.heap.size w w' := by
  have HT : Hid _ := one_start w c k r 23
  have hM := fun W => rCheck_yes c k r h.1 W
  obtain ⟨_, h1, h2⟩ := h
  unfold geoV at *
  go_enter Try.func37, Try.ntmps37
  go_wp2_with fail
  refine (hM _).mono ?_
  rintro e w1 ⟨rfl, b1⟩
  have HK : Hid _ := Shp.kept HT.out b1
  obtain ⟨p0, p1, p2⟩ := HK.out.1
  clear b1
  go_wp2
  go_ret
  exact ⟨rfl, HK.out.2⟩
set_option maxRecDepth 100000 in
set_option maxHeartbeats 2000000 in
theorem right_no (c k r row n m : Int) (h : ¬ (Lay.hasRow c k r row ∧ 0 ≤ n ∧ n < m)) (w : World) :
    Calls Try.prog 37 #[geoV c k r, .int .i64 row, .int .i64 n, .int .i64 m] w fun e w' => e = .returned (.bool false) ∧ Below w.heap.size w w' := by
  have HT : Hid _ := one_start w c k r 23
  by_cases ho : Lay.ok c k r
  · have hM := fun W => rCheck_yes c k r ho W
    by_cases a1 : 0 ≤ row
    · by_cases a2 : row < r
      · by_cases a3 : 0 ≤ n
        · have a4 : ¬ n < m := fun x => h ⟨⟨ho, a1, a2⟩, a3, x⟩
          clear h ho
          unfold geoV at *
          go_enter Try.func37, Try.ntmps37
          go_wp2_with fail
          refine (hM _).mono ?_
          rintro e w1 ⟨rfl, b1⟩
          have HK : Hid _ := Shp.kept HT.out b1
          obtain ⟨p0, p1, p2⟩ := HK.out.1
          clear b1
          go_wp2
          go_ret
          exact ⟨ret_bool (decide_eq_false (by omega)), HK.out.2⟩
        · clear h ho
          unfold geoV at *
          go_enter Try.func37, Try.ntmps37
          go_wp2_with fail
          refine (hM _).mono ?_
          rintro e w1 ⟨rfl, b1⟩
          have HK : Hid _ := Shp.kept HT.out b1
          obtain ⟨p0, p1, p2⟩ := HK.out.1
          clear b1
          go_wp2
          go_ret
          exact ⟨rfl, HK.out.2⟩
      · clear h ho
        unfold geoV at *
        go_enter Try.func37, Try.ntmps37
        go_wp2_with fail
        refine (hM _).mono ?_
        rintro e w1 ⟨rfl, b1⟩
        have HK : Hid _ := Shp.kept HT.out b1
        obtain ⟨p0, p1, p2⟩ := HK.out.1
        clear b1
        go_wp2
        go_ret
        exact ⟨rfl, HK.out.2⟩
    · clear h ho
      unfold geoV at *
      go_enter Try.func37, Try.ntmps37
      go_wp2_with fail
      refine (hM _).mono ?_
      rintro e w1 ⟨rfl, b1⟩
      have HK : Hid _ := Shp.kept HT.out b1
      obtain ⟨p0, p1, p2⟩ := HK.out.1
      clear b1
      go_wp2
      go_ret
      exact ⟨rfl, HK.out.2⟩
  · have hM := fun W => rCheck_no c k r ho W
    clear h ho
    unfold geoV at *
    go_enter Try.func37, Try.ntmps37
    go_wp2_with fail
    refine (hM _).mono ?_
    rintro e w1 ⟨rfl, b1⟩
    have HK : Hid _ := Shp.kept HT.out b1
    clear b1
    go_wp2
    go_ret
    exact ⟨rfl, HK.out.2⟩
end Go.Proofs.Ytfnafoahcllakaa
