import Derived.Test.YtdgkhjgnjfgnlaaGreatMLayA
import Derived.Laws.StructEq
import Derived.Laws.Cover2
namespace Go.Proofs.YtdgkhjgnjfgnlaaGreat
open Go.RowKit
end Go.Proofs.YtdgkhjgnjfgnlaaGreat
namespace Go.Proofs.YtdgkhjgnjfgnlaaGreat
open Go.RowKit
theorem ret_ii {a b c d : Int} (h : a = b) (g : c = d) : Ending.returned (.tuple #[.int .i64 a, .int .i64 c]) = .returned (.tuple #[.int .i64 b, .int .i64 d]) := by rw [h, g]
def Shp (w W : World) (b : Nat) (c k r : Int) : Prop := ShpAt W b c k r ∧ Below w.heap.size w W
theorem two_start (w : World) (c k r : Int) (t u : TypeId) :
  Shp w ((w.alloc (.cells #[.int .i64 c, .int .i64 k, .int .i64 r] t)).alloc (.cells #[.int .i64 c, .int .i64 k, .int .i64 r] u)) (w.heap.size + 1) c k r := by
 refine ⟨?_, ((Below.refl _ _).alloc (Nat.le_refl _) _).alloc (by simp) _⟩
 have := ShpAt.new (w.alloc (.cells #[.int .i64 c, .int .i64 k, .int .i64 r] t)) c k r u
 simpa using this
theorem Shp.kept {w W W' : World} {b : Nat} {c k r : Int} (h : Shp w W b c k r) (hb : Below W.heap.size W W') : Shp w W' b c k r :=
 ⟨h.1.below hb h.1.lt, below2 h.2 hb⟩
set_option maxRecDepth 100000 in
set_option maxHeartbeats 2000000 in
theorem Check_any (c k r : Int) (w : World) :
  Calls Tryz.prog 54 #[geoV c k r] w fun e w' => e = .returned (.int .i64 (Lay.checkI c k r)) ∧ Below w.heap.size w w' := by
 by_cases h : Lay.ok c k r
 ·have hM := fun W => may_yes c k r h W
  have E : Hid (Lay.checkI c k r = 0) := if_pos h
  clear h
  unfold geoV at *
  go_enter Tryz.func54, Tryz.ntmps54
  go_wp2_with fail
  refine (hM _).mono ?_
  rintro e w1 ⟨rfl, b1⟩
  go_wp2
  go_ret
  exact ⟨ret_int E.out.symm, below2 ((Below.refl _ _).alloc (Nat.le_refl _) _) b1⟩
 ·have hM := fun W => may_no c k r h W
  have E : Hid (Lay.checkI c k r = 1) := if_neg h
  clear h
  unfold geoV at *
  go_enter Tryz.func54, Tryz.ntmps54
  go_wp2_with fail
  refine (hM _).mono ?_
  rintro e w1 ⟨rfl, b1⟩
  go_wp2
  go_ret
  exact ⟨ret_int E.out.symm, below2 ((Below.refl _ _).alloc (Nat.le_refl _) _) b1⟩
set_option maxRecDepth 100000 in
set_option maxHeartbeats 2000000 in
theorem Need_any (c k r : Int) (w : World) :
  Calls Tryz.prog 55 #[geoV c k r] w fun e w' => e = .returned (.int .i64 (Lay.needI c k r)) ∧ Below w.heap.size w w' := by
 by_cases h : Lay.ok c k r
 ·have hM := fun W => may_yes c k r h W
  obtain ⟨x, hx⟩ : ∃ x, r * k = x := ⟨_, rfl⟩
  have E : Hid (Lay.needI c k r = 4 + x) := by show _ = _; rw [← hx]; exact if_pos h
  have x1 : 0 ≤ x := by rw [← hx]; exact Int.mul_nonneg (by have := h.2.2; omega) (by have := h.2.1; omega)
  have x2 : x ≤ 256 * 4 := by rw [← hx]; exact Int.mul_le_mul (by have := h.2.2; omega) (by have := h.2.1; omega) (by have := h.2.1; omega) (by omega)
  have HT : Hid _ := two_start w c k r 26 123
  clear h
  unfold geoV at *
  go_enter Tryz.func55, Tryz.ntmps55
  go_wp2_with fail
  refine (hM _).mono ?_
  rintro e w1 ⟨rfl, b1⟩
  have HK : Hid _ := Shp.kept HT.out b1
  obtain ⟨p0, p1, p2⟩ := HK.out.1
  clear b1
  go_wp2
  go_ret
  exact ⟨ret_int E.out.symm, HK.out.2⟩
 ·have hM := fun W => may_no c k r h W
  have E : Hid (Lay.needI c k r = 0) := if_neg h
  have HT : Hid _ := two_start w c k r 26 123
  clear h
  unfold geoV at *
  go_enter Tryz.func55, Tryz.ntmps55
  go_wp2_with fail
  refine (hM _).mono ?_
  rintro e w1 ⟨rfl, b1⟩
  have HK : Hid _ := Shp.kept HT.out b1
  clear b1
  go_wp2
  go_ret
  exact ⟨ret_int E.out.symm, HK.out.2⟩
set_option maxRecDepth 100000 in
set_option maxHeartbeats 2000000 in
theorem Parity_any (c k r row : Int) (w : World) :
  Calls Tryz.prog 86 #[geoV c k r, .int .i64 row] w fun e w' => e = .returned (.tuple #[.int .i64 (Lay.parP c k r row), .int .i64 (Lay.parQ c k r row)]) ∧ Below w.heap.size w w' := by
 by_cases h : Lay.hasRow c k r row
 ·have hM := fun W => holds_yes c k r row h.1 h.2.1 h.2.2 W
  have hP := fun W => parity_any c k r row h.1 h.2.1 (by have := h.1.2.2; have := h.2.2; omega) W
  have E : Hid (Lay.parP c k r row = c - 1 - row % c ∧ Lay.parQ c k r row = (c - 1 - row % c + 1) % c) := ⟨if_pos h, if_pos h⟩
  have HT : Hid _ := two_start w c k r 26 123
  clear h
  generalize c - 1 - row % c = p at *
  generalize (p + 1) % c = q at *
  unfold geoV at *
  go_enter Tryz.func86, Tryz.ntmps86
  go_wp2_with fail
  refine (hM _).mono ?_
  rintro e w1 ⟨rfl, b1⟩
  have HK : Hid _ := Shp.kept HT.out b1
  obtain ⟨p0, p1, p2⟩ := HK.out.1
  clear b1
  go_wp2_with fail
  refine (hP _).mono ?_
  rintro e w2 ⟨rfl, b2⟩
  go_wp2
  go_ret2
  exact ⟨ret_ii E.out.1.symm E.out.2.symm, below2 HK.out.2 b2⟩
 ·have hM := fun W => holds_no c k r row h W
  have E : Hid (Lay.parP c k r row = 0 ∧ Lay.parQ c k r row = 0) := ⟨if_neg h, if_neg h⟩
  have HT : Hid _ := two_start w c k r 26 123
  clear h
  unfold geoV at *
  go_enter Tryz.func86, Tryz.ntmps86
  go_wp2_with fail
  refine (hM _).mono ?_
  rintro e w1 ⟨rfl, b1⟩
  have HK : Hid _ := Shp.kept HT.out b1
  clear b1
  go_wp2
  go_ret2
  exact ⟨ret_ii E.out.1.symm E.out.2.symm, HK.out.2⟩
set_option maxRecDepth 100000 in
set_option maxHeartbeats 2000000 in
theorem Column_any (c k r row i : Int) (w : World) :
  Calls Tryz.prog 87 #[geoV c k r, .int .i64 row, .int .i64 i] w fun e w' => e = .returned (.int .i64 (Lay.colI c k r row i)) ∧ Below w.heap.size w w' := by
 have HT : Hid _ := two_start w c k r 26 123
 by_cases h : Lay.hasRow c k r row
 ·have hM := fun W => holds_yes c k r row h.1 h.2.1 h.2.2 W
  have hc := h.1.1
  have hD := fun W => data_any c k r (by omega) (by omega) W
  have hP := fun W => parity_any c k r row h.1 h.2.1 (by have := h.1.2.2; have := h.2.2; omega) W
  by_cases hi : 0 ≤ i ∧ i < c - 2
  ·have E : Hid (Lay.colI c k r row i = ((c - 1 - row % c + 1) % c + 1 + i) % c) := if_pos ⟨h, hi⟩
   have hB := fun W => between_yes 0 i (c - 2 - 1) hi.1 (by omega) W
   obtain ⟨p, hp⟩ : ∃ p, c - 1 - row % c = p := ⟨_, rfl⟩
   rw [hp] at E hP
   obtain ⟨q, hq⟩ : ∃ q, (p + 1) % c = q := ⟨_, rfl⟩
   have q1 : 0 ≤ q := by rw [← hq]; exact Int.emod_nonneg _ (by omega)
   have q2 : q < c := by rw [← hq]; exact Int.emod_lt_of_pos _ (by omega)
   rw [hq] at E hP
   have hA := fun W => lay_around_any c k r (q + 1 + i) h.1 (by omega) (by omega) W
   clear h hp hq
   unfold geoV at *
   go_enter Tryz.func87, Tryz.ntmps87
   go_wp2_with fail
   refine (hM _).mono ?_
   rintro e w1 ⟨rfl, b1⟩
   have HK : Hid _ := Shp.kept HT.out b1
   obtain ⟨p0, p1, p2⟩ := HK.out.1
   clear b1
   go_wp2_with fail
   refine (hD _).mono ?_
   rintro e w2 ⟨rfl, b2⟩
   have HK2 : Hid _ := Shp.kept HK.out b2
   clear p0 p1 p2 b2 HK
   go_wp2_with fail
   refine (hB _).mono ?_
   rintro e w3 ⟨rfl, rfl⟩
   obtain ⟨p0, p1, p2⟩ := HK2.out.1
   go_wp2_with fail
   refine (hP _).mono ?_
   rintro e w3 ⟨rfl, b3⟩
   have HK3 : Hid _ := Shp.kept HK2.out b3
   clear p0 p1 p2 b3 HK2
   obtain ⟨p0, p1, p2⟩ := HK3.out.1
   go_wp2_with fail
   refine (hA _).mono ?_
   rintro e w4 ⟨rfl, b4⟩
   go_wp2
   go_ret
   exact ⟨ret_int E.out.symm, below2 HK3.out.2 b4⟩
  ·have E : Hid (Lay.colI c k r row i = 0) := if_neg fun x => hi x.2
   have hB := fun W => between_no 0 i (c - 2 - 1) (fun x => hi (by omega)) W
   clear h hi hP
   unfold geoV at *
   go_enter Tryz.func87, Tryz.ntmps87
   go_wp2_with fail
   refine (hM _).mono ?_
   rintro e w1 ⟨rfl, b1⟩
   have HK : Hid _ := Shp.kept HT.out b1
   obtain ⟨p0, p1, p2⟩ := HK.out.1
   clear b1
   go_wp2_with fail
   refine (hD _).mono ?_
   rintro e w2 ⟨rfl, b2⟩
   have HK2 : Hid _ := Shp.kept HK.out b2
   clear p0 p1 p2 b2 HK
   go_wp2_with fail
   refine (hB _).mono ?_
   rintro e w3 ⟨rfl, rfl⟩
   go_wp2
   go_ret
   exact ⟨ret_int E.out.symm, HK2.out.2⟩
 ·have hM := fun W => holds_no c k r row h W
  have E : Hid (Lay.colI c k r row i = 0) := if_neg fun x => h x.1
  clear h
  unfold geoV at *
  go_enter Tryz.func87, Tryz.ntmps87
  go_wp2_with fail
  refine (hM _).mono ?_
  rintro e w1 ⟨rfl, b1⟩
  have HK : Hid _ := Shp.kept HT.out b1
  clear b1
  go_wp2
  go_ret
  exact ⟨ret_int E.out.symm, HK.out.2⟩
set_option maxRecDepth 100000 in
set_option maxHeartbeats 2000000 in
theorem Sector_any (c k r row off : Int) (w : World) :
  Calls Tryz.prog 97 #[geoV c k r, .int .i64 row, .int .i64 off] w fun e w' => e = .returned (.int .i64 (Lay.sectI c k r row off)) ∧ Below w.heap.size w w' := by
 have HT : Hid _ := two_start w c k r 26 123
 by_cases h : Lay.hasRow c k r row
 ·have hM := fun W => holds_yes c k r row h.1 h.2.1 h.2.2 W
  have hk := h.1.2.1
  by_cases hi : 0 ≤ off ∧ off < k
  ·obtain ⟨x, hx⟩ : ∃ x, row * k = x := ⟨_, rfl⟩
   have E : Hid (Lay.sectI c k r row off = 4 + x + off) := by show _ = _; rw [← hx]; exact if_pos ⟨h, hi⟩
   have hB := fun W => between_yes 0 off (k - 1) hi.1 (by omega) W
   have x1 : 0 ≤ x := by rw [← hx]; exact Int.mul_nonneg h.2.1 (by omega)
   have x2 : x ≤ 256 * 4 := by rw [← hx]; exact Int.mul_le_mul (by have := h.2.2; have := h.1.2.2; omega) (by omega) (by omega) (by omega)
   clear h
   unfold geoV at *
   go_enter Tryz.func97, Tryz.ntmps97
   go_wp2_with fail
   refine (hM _).mono ?_
   rintro e w1 ⟨rfl, b1⟩
   have HK : Hid _ := Shp.kept HT.out b1
   obtain ⟨p0, p1, p2⟩ := HK.out.1
   clear b1
   go_wp2_with fail
   refine (hB _).mono ?_
   rintro e w3 ⟨rfl, rfl⟩
   go_wp2
   go_ret
   exact ⟨ret_int E.out.symm, HK.out.2⟩
  ·have E : Hid (Lay.sectI c k r row off = 0) := if_neg fun x => hi x.2
   have hB := fun W => between_no 0 off (k - 1) (fun x => hi (by omega)) W
   clear h hi
   unfold geoV at *
   go_enter Tryz.func97, Tryz.ntmps97
   go_wp2_with fail
   refine (hM _).mono ?_
   rintro e w1 ⟨rfl, b1⟩
   have HK : Hid _ := Shp.kept HT.out b1
   obtain ⟨p0, p1, p2⟩ := HK.out.1
   clear b1
   go_wp2_with fail
   refine (hB _).mono ?_
   rintro e w3 ⟨rfl, rfl⟩
   go_wp2
   go_ret
   exact ⟨ret_int E.out.symm, HK.out.2⟩
 ·have hM := fun W => holds_no c k r row h W
  have E : Hid (Lay.sectI c k r row off = 0) := if_neg fun x => h x.1
  clear h
  unfold geoV at *
  go_enter Tryz.func97, Tryz.ntmps97
  go_wp2_with fail
  refine (hM _).mono ?_
  rintro e w1 ⟨rfl, b1⟩
  have HK : Hid _ := Shp.kept HT.out b1
  clear b1
  go_wp2
  go_ret
  exact ⟨ret_int E.out.symm, HK.out.2⟩
end Go.Proofs.YtdgkhjgnjfgnlaaGreat
