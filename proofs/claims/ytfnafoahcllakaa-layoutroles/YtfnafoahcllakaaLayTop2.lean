/- The walks of layout's Rows, Find and Back. -/
import Derived.Test.YtfnafoahcllakaaLayTop
namespace Go.Proofs.Ytfnafoahcllakaa
open Go.RowKit

theorem results_tmp4 {fn : Func} {t u v x : Tmp} (h : fn.results = #[.tmp t, .tmp u, .tmp v, .tmp x]) (tmps : Array Value) (P : Program) (w : World) :
    (results fn tmps).run P w = .ok (.tuple #[tmps.getD t undef, tmps.getD u undef, tmps.getD v undef, tmps.getD x undef]) w := by
  simp [results, h]
theorem ret_iiii {a b c d a' b' c' d' : Int} (h1 : a = a') (h2 : b = b') (h3 : c = c') (h4 : d = d') :
    Ending.returned (.tuple #[.int .i64 a, .int .i64 b, .int .i64 c, .int .i64 d]) = .returned (.tuple #[.int .i64 a', .int .i64 b', .int .i64 c', .int .i64 d']) := by rw [h1, h2, h3, h4]

set_option maxRecDepth 100000 in
set_option maxHeartbeats 2000000 in
theorem Rows_any (s k : Int) (s1 : -9223372036854775808 ≤ s) (s2 : s ≤ 9223372036854775807) (w : World) :
    Calls Try.prog 21 #[.int .i64 s, .int .i64 k] w fun e w' => e = .returned (.int .i64 (Lay.rowsI s k)) ∧ Below w.heap.size w w' := by
  by_cases hk : 1 ≤ k ∧ k ≤ 4
  · have hB := fun W => between_yes 1 k 4 hk.1 hk.2 W
    obtain ⟨M, hM⟩ : ∃ M, M = max s 4 := ⟨_, rfl⟩
    have hmax : ∀ (ts : Array TypeId) (ty : TypeId) (W : World), (Builtin.max_ ts ty #[.int .i64 s, .int .i64 4]).run Try.prog W = .ok (.int .i64 M) W := by
      intro ts ty W
      simp [Builtin.max_, Builtin.max2]
      omega
    obtain ⟨q, hq⟩ : ∃ q, (M - 4) / k = q := ⟨_, rfl⟩
    have q1 : 0 ≤ q := by rw [← hq]; exact Int.ediv_nonneg (by omega) (by omega)
    have q2 : q ≤ 9223372036854775807 := by rw [← hq]; exact Int.le_trans (Int.ediv_le_self k (by omega)) (by omega)
    have eq : (M - 4).tdiv k = q := by rw [Int.tdiv_eq_ediv_of_nonneg (by omega)]; exact hq
    obtain ⟨Z, hZ⟩ : ∃ Z, Z = min q 256 := ⟨_, rfl⟩
    have hmin : ∀ (ts : Array TypeId) (ty : TypeId) (W : World), (Builtin.min_ ts ty #[.int .i64 q, .int .i64 256]).run Try.prog W = .ok (.int .i64 Z) W := by
      intro ts ty W
      simp [Builtin.min_, Builtin.min2]
      omega
    have E : Hid (Lay.rowsI s k = Z) := by
      show _ = _
      unfold Lay.rowsI
      by_cases h4 : 4 ≤ s
      · have e : M = s := by omega
        rw [if_pos ⟨hk, h4⟩, ← e, hq]; split <;> omega
      · have e : M = 4 := by omega
        rw [if_neg fun x => h4 x.2]
        rw [e] at hq
        simp at hq; omega
    have kz : ¬ k = 0 := by omega
    have M1 : 4 ≤ M := by omega
    have M2 : M ≤ 9223372036854775807 := by omega
    clear hM hq hZ s1 s2
    go_enter Try.func21, Try.ntmps21
    go_wp2_with fail
    refine (hB _).mono ?_
    rintro e w1 ⟨rfl, rfl⟩
    go_wp2
    go_ret
    exact ⟨ret_int E.out.symm, Below.refl _ _⟩
  · have hB := fun W => between_no 1 k 4 hk W
    have E : Hid (Lay.rowsI s k = 0) := if_neg fun x => hk x.1
    clear hk s1 s2
    go_enter Try.func21, Try.ntmps21
    go_wp2_with fail
    refine (hB _).mono ?_
    rintro e w1 ⟨rfl, rfl⟩
    go_wp2
    go_ret
    exact ⟨ret_int E.out.symm, Below.refl _ _⟩

/-- an array has at most 8192 sectors -/
theorem Lay.size_le {c k r : Int} (h : Lay.ok c k r) : 0 ≤ r * (c - 2) * k ∧ r * (c - 2) * k ≤ 8192 := by
  obtain ⟨⟨c1, c2⟩, ⟨k1, k2⟩, r1, r2⟩ := h
  have q1 : 0 ≤ r * (c - 2) := Int.mul_nonneg (by omega) (by omega)
  have q2 : r * (c - 2) ≤ 256 * 8 := Int.mul_le_mul (by omega) (by omega) (by omega) (by omega)
  have q3 : 0 ≤ r * (c - 2) * k := Int.mul_nonneg q1 (by omega)
  have q4 : r * (c - 2) * k ≤ 256 * 8 * 4 := Int.mul_le_mul q2 (by omega) (by omega) (by omega)
  omega

set_option maxRecDepth 100000 in
set_option maxHeartbeats 2000000 in
theorem Find_any (c k r s : Int) (w : World) :
    Calls Try.prog 9 #[geoV c k r, .int .i64 s] w fun e w' => e = .returned (.tuple #[.int .i64 (Lay.findA c k r s), .int .i64 (Lay.findI c k r s), .int .i64 (Lay.findO c k r s), .int .i64 (Lay.findE c k r s)]) ∧ Below w.heap.size w w' := by
  have HT : Hid _ := two_start w c k r 23 46
  by_cases h : Lay.ok c k r
  · have hM := fun W => may_yes c k r h W
    have hS := fun W => size_any c k r h W
    have hz := Lay.size_le h
    by_cases hs : 0 ≤ s ∧ s < r * (c - 2) * k
    · have hP := fun W => place_any c k r s h hs.1 (by omega) W
      have E : Hid (s / k / (c - 2) = Lay.findA c k r s ∧ s / k % (c - 2) = Lay.findI c k r s ∧ s % k = Lay.findO c k r s ∧ 0 = Lay.findE c k r s) :=
        ⟨(if_pos ⟨h, hs⟩).symm, (if_pos ⟨h, hs⟩).symm, (if_pos ⟨h, hs⟩).symm, by unfold Lay.findE; rw [if_pos h, if_pos hs]⟩
      obtain ⟨A, hA⟩ : ∃ A, s / k / (c - 2) = A := ⟨_, rfl⟩
      obtain ⟨I, hI⟩ : ∃ I, s / k % (c - 2) = I := ⟨_, rfl⟩
      obtain ⟨O, hO⟩ : ∃ O, s % k = O := ⟨_, rfl⟩
      rw [hA, hI, hO] at hP E
      obtain ⟨z, ez⟩ : ∃ z, r * (c - 2) * k = z := ⟨_, rfl⟩
      rw [ez] at hz hS hs
      have hB := fun W => between_yes 0 s (z - 1) hs.1 (by omega) W
      clear hA hI hO ez h
      unfold geoV at *
      go_enter Try.func9, Try.ntmps9
      go_wp2_with fail
      refine (hM _).mono ?_
      rintro e w1 ⟨rfl, b1⟩
      have HK : Hid _ := Shp.kept HT.out b1
      obtain ⟨p0, p1, p2⟩ := HK.out.1
      clear b1
      go_wp2_with fail
      refine (hS _).mono ?_
      rintro e w2 ⟨rfl, b2⟩
      have HK2 : Hid _ := Shp.kept HK.out b2
      clear p0 p1 p2 b2 HK
      go_wp2_with fail
      refine (hB _).mono ?_
      rintro e w3 ⟨rfl, rfl⟩
      obtain ⟨p0, p1, p2⟩ := HK2.out.1
      go_wp2_with fail
      refine (hP _).mono ?_
      rintro e w4 ⟨rfl, b4⟩
      have HB4 : Hid _ := below2 HK2.out.2 b4
      clear p0 p1 p2 b4
      go_wp2
      go_quiet (fail)
      go_wp2
      refine bodyPost_ret (results_tmp4 rfl _ _ _) rfl ?_
      exact ⟨ret_iiii E.out.1 E.out.2.1 E.out.2.2.1 E.out.2.2.2, below_drewN (HB4.out.alloc HB4.out.size _) _⟩
    · have E : Hid (0 = Lay.findA c k r s ∧ 0 = Lay.findI c k r s ∧ 0 = Lay.findO c k r s ∧ 70 = Lay.findE c k r s) :=
        ⟨(if_neg fun x => hs x.2).symm, (if_neg fun x => hs x.2).symm, (if_neg fun x => hs x.2).symm, by unfold Lay.findE; rw [if_pos h, if_neg hs]⟩
      obtain ⟨z, ez⟩ : ∃ z, r * (c - 2) * k = z := ⟨_, rfl⟩
      rw [ez] at hz hS hs
      have hB := fun W => between_no 0 s (z - 1) (fun x => hs (by omega)) W
      clear ez h hs
      unfold geoV at *
      go_enter Try.func9, Try.ntmps9
      go_wp2_with fail
      refine (hM _).mono ?_
      rintro e w1 ⟨rfl, b1⟩
      have HK : Hid _ := Shp.kept HT.out b1
      obtain ⟨p0, p1, p2⟩ := HK.out.1
      clear b1
      go_wp2_with fail
      refine (hS _).mono ?_
      rintro e w2 ⟨rfl, b2⟩
      have HK2 : Hid _ := Shp.kept HK.out b2
      clear p0 p1 p2 b2 HK
      go_wp2_with fail
      refine (hB _).mono ?_
      rintro e w3 ⟨rfl, rfl⟩
      go_wp2
      refine bodyPost_ret (results_tmp4 rfl _ _ _) rfl ?_
      exact ⟨ret_iiii E.out.1 E.out.2.1 E.out.2.2.1 E.out.2.2.2, HK2.out.2⟩
  · have hM := fun W => may_no c k r h W
    have E : Hid (0 = Lay.findA c k r s ∧ 0 = Lay.findI c k r s ∧ 0 = Lay.findO c k r s ∧ 1 = Lay.findE c k r s) :=
      ⟨(if_neg fun x => h x.1).symm, (if_neg fun x => h x.1).symm, (if_neg fun x => h x.1).symm, (if_neg h).symm⟩
    clear h
    unfold geoV at *
    go_enter Try.func9, Try.ntmps9
    go_wp2_with fail
    refine (hM _).mono ?_
    rintro e w1 ⟨rfl, b1⟩
    have HK : Hid _ := Shp.kept HT.out b1
    clear b1
    go_wp2
    refine bodyPost_ret (results_tmp4 rfl _ _ _) rfl ?_
    exact ⟨ret_iiii E.out.1 E.out.2.1 E.out.2.2.1 E.out.2.2.2, HK.out.2⟩

set_option maxRecDepth 100000 in
set_option maxHeartbeats 2000000 in
/-- Back, where what the shape's sector answers is known -/
theorem Back_of (c k r row i off n e0 : Int) (bb : Bool) (h : Lay.ok c k r) (he : e0 = if bb then 0 else 70)
    (hS : ∀ W, Calls Try.prog 38 #[geoV c k r, geoV row i off] W fun e w' => e = .returned (.tuple #[.int .i64 n, .bool bb]) ∧ Below W.heap.size W w') (w : World) :
    Calls Try.prog 13 #[geoV c k r, .int .i64 row, .int .i64 i, .int .i64 off] w fun e w' => e = .returned (.tuple #[.int .i64 n, .int .i64 e0]) ∧ Below w.heap.size w w' := by
  have HT : Hid _ := two_start w c k r 23 46
  have hM := fun W => may_yes c k r h W
  clear h
  unfold geoV at *
  cases bb
  · have E : Hid (70 = e0) := he.symm
    clear he
    go_enter Try.func13, Try.ntmps13
    go_wp2_with fail
    refine (hM _).mono ?_
    rintro e w1 ⟨rfl, b1⟩
    have HK : Hid _ := Shp.kept HT.out b1
    obtain ⟨p0, p1, p2⟩ := HK.out.1
    clear b1
    go_wp2_with fail
    refine (hS _).mono ?_
    rintro e w2 ⟨rfl, b2⟩
    have HB : Hid _ := below2 HK.out.2 b2
    clear p0 p1 p2 b2 HK
    go_wp2
    go_ret2
    exact ⟨ret_ii rfl E.out, HB.out⟩
  · have E : Hid (0 = e0) := he.symm
    clear he
    go_enter Try.func13, Try.ntmps13
    go_wp2_with fail
    refine (hM _).mono ?_
    rintro e w1 ⟨rfl, b1⟩
    have HK : Hid _ := Shp.kept HT.out b1
    obtain ⟨p0, p1, p2⟩ := HK.out.1
    clear b1
    go_wp2_with fail
    refine (hS _).mono ?_
    rintro e w2 ⟨rfl, b2⟩
    have HB : Hid _ := below2 HK.out.2 b2
    clear p0 p1 p2 b2 HK
    go_wp2
    go_ret2
    exact ⟨ret_ii rfl E.out, HB.out⟩
set_option maxRecDepth 100000 in
set_option maxHeartbeats 2000000 in
theorem Back_no (c k r row i off : Int) (h : ¬ Lay.ok c k r) (w : World) :
    Calls Try.prog 13 #[geoV c k r, .int .i64 row, .int .i64 i, .int .i64 off] w fun e w' => e = .returned (.tuple #[.int .i64 0, .int .i64 1]) ∧ Below w.heap.size w w' := by
  have HT : Hid _ := two_start w c k r 23 46
  have hM := fun W => may_no c k r h W
  clear h
  unfold geoV at *
  go_enter Try.func13, Try.ntmps13
  go_wp2_with fail
  refine (hM _).mono ?_
  rintro e w1 ⟨rfl, b1⟩
  have HK : Hid _ := Shp.kept HT.out b1
  clear b1
  go_wp2
  go_ret2
  exact ⟨rfl, HK.out.2⟩
theorem wrap_id {x : Int} (h1 : -1000000 ≤ x) (h2 : x ≤ 1000000) : IntKind.i64.wrap x = x := by rw [IntKind.wrap_i64]; omega
theorem Back_any (c k r row i off : Int) (w : World) :
    Calls Try.prog 13 #[geoV c k r, .int .i64 row, .int .i64 i, .int .i64 off] w fun e w' => e = .returned (.tuple #[.int .i64 (Lay.backN c k r row i off), .int .i64 (Lay.backE c k r row i off)]) ∧ Below w.heap.size w w' := by
  by_cases h : Lay.ok c k r
  · by_cases hp : (0 ≤ row ∧ row < r) ∧ (0 ≤ i ∧ i < c - 2) ∧ 0 ≤ off ∧ off < k
    · obtain ⟨⟨n1, n2⟩, f1, f2, f3⟩ := Lay.back_find h hp.1.1 hp.1.2 hp.2.1.1 hp.2.1.2 hp.2.2.1 hp.2.2.2
      have hz := Lay.size_le h
      obtain ⟨⟨c1, c2⟩, ⟨k1, k2⟩, r1, r2⟩ := h
      have x1 : 0 ≤ row * (c - 2) := Int.mul_nonneg hp.1.1 (by omega)
      have x2 : row * (c - 2) ≤ 256 * 8 := Int.mul_le_mul (by omega) (by omega) (by omega) (by omega)
      have x3 : 0 ≤ (row * (c - 2) + i) * k := Int.mul_nonneg (by omega) (by omega)
      have x4 : (row * (c - 2) + i) * k ≤ 3000 * 4 := Int.mul_le_mul (by omega) (by omega) (by omega) (by omega)
      have h : Lay.ok c k r := ⟨⟨c1, c2⟩, ⟨k1, k2⟩, r1, r2⟩
      have e1 : Lay.backN c k r row i off = (row * (c - 2) + i) * k + off := if_pos ⟨h, hp⟩
      rw [e1]
      refine Back_of c k r row i off _ _ true h (by unfold Lay.backE; rw [if_pos h, if_pos hp]; rfl) (fun W => sector_same c k r row i off _ _ _ _ h (wrap_id (by omega) (by omega)) (wrap_id (by omega) (by omega)) (wrap_id (by omega) (by omega)) (wrap_id (by omega) (by omega)) ⟨n1, by omega⟩ (by rw [f1, f2, f3]; simp) W) w
    · have e1 : Lay.backN c k r row i off = 0 := if_neg fun x => hp x.2
      rw [e1]
      refine Back_of c k r row i off _ _ false h (by unfold Lay.backE; rw [if_pos h, if_neg hp]; rfl) (fun W => ?_) w
      obtain ⟨n, hn⟩ : ∃ n, IntKind.i64.wrap (IntKind.i64.wrap (IntKind.i64.wrap (IntKind.i64.wrap (row * (c - 2)) + i) * k) + off) = n := ⟨_, rfl⟩
      by_cases hr : 0 ≤ n ∧ n ≤ r * (c - 2) * k - 1
      · refine sector_else c k r row i off _ _ _ n h rfl rfl rfl hn hr ?_ W
        obtain ⟨g1, g2, g3, g4⟩ := Lay.find_back h hr.1 (by omega)
        rw [Bool.eq_false_iff]
        intro hb
        simp only [Bool.and_eq_true, beq_iff_eq] at hb
        obtain ⟨⟨b1, b2⟩, b3⟩ := hb
        rw [b1] at g1
        rw [b2] at g2
        rw [b3] at g3
        exact hp ⟨g1, g2, g3⟩
      · exact sector_far c k r row i off _ _ _ n h rfl rfl rfl hn hr W
  · have e1 : Lay.backN c k r row i off = 0 := if_neg fun x => h x.1
    have e2 : Lay.backE c k r row i off = 1 := if_neg h
    rw [e1, e2]
    exact Back_no c k r row i off h w
end Go.Proofs.Ytfnafoahcllakaa
