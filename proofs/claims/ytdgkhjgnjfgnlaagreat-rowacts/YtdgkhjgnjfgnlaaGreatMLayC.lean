import Derived.Test.YtdgkhjgnjfgnlaaGreatMLayB
namespace Go.Proofs.YtdgkhjgnjfgnlaaGreat
open Go.RowKit
theorem Lay.size_le {c k r : Int} (h : Lay.ok c k r) : 0 ≤ r * (c - 2) * k ∧ r * (c - 2) * k ≤ 8192 := by
 obtain ⟨⟨c1, c2⟩, ⟨k1, k2⟩, r1, r2⟩ := h
 have q1 : 0 ≤ r * (c - 2) := Int.mul_nonneg (by omega) (by omega)
 have q2 : r * (c - 2) ≤ 256 * 8 := Int.mul_le_mul (by omega) (by omega) (by omega) (by omega)
 have q3 : 0 ≤ r * (c - 2) * k := Int.mul_nonneg q1 (by omega)
 have q4 : r * (c - 2) * k ≤ 256 * 8 * 4 := Int.mul_le_mul q2 (by omega) (by omega) (by omega)
 omega
end Go.Proofs.YtdgkhjgnjfgnlaaGreat
namespace Go.Proofs.YtdgkhjgnjfgnlaaGreat
open Go.RowKit
theorem one_start (w : World) (c k r : Int) (t : TypeId) : Shp w (w.alloc (.cells #[.int .i64 c, .int .i64 k, .int .i64 r] t)) w.heap.size c k r :=
 ⟨ShpAt.new w c k r t, (Below.refl _ _).alloc (Nat.le_refl _) _⟩
set_option maxRecDepth 100000 in
set_option maxHeartbeats 2000000 in
theorem rCheck_yes (c k r : Int) (h : Lay.ok c k r) (w : World) :
  Calls Tryz.prog 59 #[geoV c k r] w fun e w' => e = .returned (.int .i64 0) ∧ Below w.heap.size w w' := by
 obtain ⟨⟨c1, c2⟩, ⟨k1, k2⟩, r1, r2⟩ := h
 unfold geoV at *
 go_enter Tryz.func59, Tryz.ntmps59
 go_wp2
 go_ret
 exact ⟨rfl, (Below.refl _ _).alloc (Nat.le_refl _) _⟩
set_option maxRecDepth 100000 in
set_option maxHeartbeats 2000000 in
theorem rCheck_no (c k r : Int) (h : ¬ Lay.ok c k r) (w : World) :
    Calls Tryz.prog 59 #[geoV c k r] w fun e w' => e = .returned (.int .i64 1) ∧ Below w.heap.size w w' := by
  unfold geoV at *
  by_cases c1 : c < 4
  · clear h
    go_enter Tryz.func59, Tryz.ntmps59
    go_wp2
    go_ret
    exact ⟨rfl, (Below.refl _ _).alloc (Nat.le_refl _) _⟩
  · by_cases c2 : 10 < c
    · clear h
      go_enter Tryz.func59, Tryz.ntmps59
      go_wp2
      go_ret
      exact ⟨rfl, (Below.refl _ _).alloc (Nat.le_refl _) _⟩
    · by_cases k1 : k < 1
      · clear h
        go_enter Tryz.func59, Tryz.ntmps59
        go_wp2
        go_ret
        exact ⟨rfl, (Below.refl _ _).alloc (Nat.le_refl _) _⟩
      · by_cases k2 : 4 < k
        · clear h
          go_enter Tryz.func59, Tryz.ntmps59
          go_wp2
          go_ret
          exact ⟨rfl, (Below.refl _ _).alloc (Nat.le_refl _) _⟩
        · by_cases r1 : r < 1
          · clear h
            go_enter Tryz.func59, Tryz.ntmps59
            go_wp2
            go_ret
            exact ⟨rfl, (Below.refl _ _).alloc (Nat.le_refl _) _⟩
          · have r2 : 256 < r := by
              apply Int.lt_of_not_ge
              intro x
              exact h ⟨⟨by omega, by omega⟩, ⟨by omega, by omega⟩, by omega, by omega⟩
            clear h
            go_enter Tryz.func59, Tryz.ntmps59
            go_wp2
            go_ret
            exact ⟨rfl, (Below.refl _ _).alloc (Nat.le_refl _) _⟩
theorem rCheck_any (c k r : Int) (w : World) :
  Calls Tryz.prog 59 #[geoV c k r] w fun e w' => e = .returned (.int .i64 (Lay.checkI c k r)) ∧ Below w.heap.size w w' := by
 by_cases h : Lay.ok c k r
 ·rw [show Lay.checkI c k r = 0 from if_pos h]; exact rCheck_yes c k r h w
 ·rw [show Lay.checkI c k r = 1 from if_neg h]; exact rCheck_no c k r h w
set_option maxRecDepth 100000 in
set_option maxHeartbeats 2000000 in
theorem rNeed_any (c k r : Int) (w : World) :
  Calls Tryz.prog 60 #[geoV c k r] w fun e w' => e = .returned (.int .i64 (Lay.needI c k r)) ∧ Below w.heap.size w w' := by
 have HT : Hid _ := one_start w c k r 26
 by_cases h : Lay.ok c k r
 ·have hM := fun W => rCheck_yes c k r h W
  obtain ⟨x, hx⟩ : ∃ x, r * k = x := ⟨_, rfl⟩
  have E : Hid (4 + x = Lay.needI c k r) := by show _ = _; rw [← hx]; exact (if_pos h).symm
  have x1 : 0 ≤ x := by rw [← hx]; exact Int.mul_nonneg (by have := h.2.2; omega) (by have := h.2.1; omega)
  have x2 : x ≤ 256 * 4 := by rw [← hx]; exact Int.mul_le_mul (by have := h.2.2; omega) (by have := h.2.1; omega) (by have := h.2.1; omega) (by omega)
  clear h
  unfold geoV at *
  go_enter Tryz.func60, Tryz.ntmps60
  go_wp2_with fail
  refine (hM _).mono ?_
  rintro e w1 ⟨rfl, b1⟩
  have HK : Hid _ := Shp.kept HT.out b1
  obtain ⟨p0, p1, p2⟩ := HK.out.1
  clear b1
  go_wp2
  go_ret
  exact ⟨ret_int E.out, HK.out.2⟩
 ·have hM := fun W => rCheck_no c k r h W
  have E : Hid (0 = Lay.needI c k r) := (if_neg h).symm
  clear h
  unfold geoV at *
  go_enter Tryz.func60, Tryz.ntmps60
  go_wp2_with fail
  refine (hM _).mono ?_
  rintro e w1 ⟨rfl, b1⟩
  have HK : Hid _ := Shp.kept HT.out b1
  clear b1
  go_wp2
  go_ret
  exact ⟨ret_int E.out, HK.out.2⟩
set_option maxRecDepth 100000 in
set_option maxHeartbeats 2000000 in
theorem right_yes (c k r row n m : Int) (h : Lay.hasRow c k r row) (n1 : 0 ≤ n) (n2 : n < m) (w : World) :
  Calls Tryz.prog 78 #[geoV c k r, .int .i64 row, .int .i64 n, .int .i64 m] w fun e w' => e = .returned (.bool true) ∧ Below w.heap.size w w' := by
 have HT : Hid _ := one_start w c k r 26
 have hM := fun W => rCheck_yes c k r h.1 W
 obtain ⟨_, h1, h2⟩ := h
 unfold geoV at *
 go_enter Tryz.func78, Tryz.ntmps78
 go_wp2_with fail
 refine (hM _).mono ?_
 rintro e w1 ⟨rfl, b1⟩
 have HK : Hid _ := Shp.kept HT.out b1
 obtain ⟨p0, p1, p2⟩ := HK.out.1
 clear b1
 go_wp2
 go_ret
 exact ⟨rfl, HK.out.2⟩
set_option maxRecDepth 100000 in
set_option maxHeartbeats 2000000 in
theorem right_no (c k r row n m : Int) (h : ¬ (Lay.hasRow c k r row ∧ 0 ≤ n ∧ n < m)) (w : World) :
  Calls Tryz.prog 78 #[geoV c k r, .int .i64 row, .int .i64 n, .int .i64 m] w fun e w' => e = .returned (.bool false) ∧ Below w.heap.size w w' := by
 have HT : Hid _ := one_start w c k r 26
 by_cases ho : Lay.ok c k r
 ·have hM := fun W => rCheck_yes c k r ho W
  by_cases a1 : 0 ≤ row
  ·by_cases a2 : row < r
   ·by_cases a3 : 0 ≤ n
    ·have a4 : ¬ n < m := fun x => h ⟨⟨ho, a1, a2⟩, a3, x⟩
     clear h ho
     unfold geoV at *
     go_enter Tryz.func78, Tryz.ntmps78
     go_wp2_with fail
     refine (hM _).mono ?_
     rintro e w1 ⟨rfl, b1⟩
     have HK : Hid _ := Shp.kept HT.out b1
     obtain ⟨p0, p1, p2⟩ := HK.out.1
     clear b1
     go_wp2
     go_ret
     exact ⟨ret_bool (decide_eq_false (by omega)), HK.out.2⟩
    ·clear h ho
     unfold geoV at *
     go_enter Tryz.func78, Tryz.ntmps78
     go_wp2_with fail
     refine (hM _).mono ?_
     rintro e w1 ⟨rfl, b1⟩
     have HK : Hid _ := Shp.kept HT.out b1
     obtain ⟨p0, p1, p2⟩ := HK.out.1
     clear b1
     go_wp2
     go_ret
     exact ⟨rfl, HK.out.2⟩
   ·clear h ho
    unfold geoV at *
    go_enter Tryz.func78, Tryz.ntmps78
    go_wp2_with fail
    refine (hM _).mono ?_
    rintro e w1 ⟨rfl, b1⟩
    have HK : Hid _ := Shp.kept HT.out b1
    obtain ⟨p0, p1, p2⟩ := HK.out.1
    clear b1
    go_wp2
    go_ret
    exact ⟨rfl, HK.out.2⟩
  ·clear h ho
   unfold geoV at *
   go_enter Tryz.func78, Tryz.ntmps78
   go_wp2_with fail
   refine (hM _).mono ?_
   rintro e w1 ⟨rfl, b1⟩
   have HK : Hid _ := Shp.kept HT.out b1
   obtain ⟨p0, p1, p2⟩ := HK.out.1
   clear b1
   go_wp2
   go_ret
   exact ⟨rfl, HK.out.2⟩
 ·have hM := fun W => rCheck_no c k r ho W
  clear h ho
  unfold geoV at *
  go_enter Tryz.func78, Tryz.ntmps78
  go_wp2_with fail
  refine (hM _).mono ?_
  rintro e w1 ⟨rfl, b1⟩
  have HK : Hid _ := Shp.kept HT.out b1
  clear b1
  go_wp2
  go_ret
  exact ⟨rfl, HK.out.2⟩
end Go.Proofs.YtdgkhjgnjfgnlaaGreat
