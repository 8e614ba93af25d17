/- Plans: the walk of the program's Cost. -/
import Derived.Test.YtlkbdhejfmljlaaDoorPpBest
import Derived.Test.YtlkbdhejfmljlaaDoorPlSays
namespace Go.Proofs.YtlkbdhejfmljlaaDoor
open Go.RowKit
attribute [local go_sem] Oper.semAt_some

set_option maxRecDepth 100000 in
set_option maxHeartbeats 8000000 in
theorem Cost_any (w : World) (n : Int) (a0 : Option Addr) (m0 k0 : Nat) (B : Nat → Bool) (hB : RowB w a0 m0 B) (a : Option Addr) (cap : Nat) (L : List Int) (hL : L.length ≤ 1000000) (hR : RowI .i64 w a L.length (fun j => L.getD j 0)) (way : Int) :
    Calls Tryd.prog 11 #[.int .i64 n, .slice a0 m0 k0, .slice a L.length cap, .int .i64 way] w (Same15 w (.tuple #[.int .i64 (Pl.costN n m0 B L way : Nat), .bool (Pl.costB n m0 B L way)])) := by
  have hno : Pl.costOk n m0 L = false → Pl.costN n m0 B L way = 0 ∧ Pl.costB n m0 B L way = false := fun h => by unfold Pl.costN Pl.costB; rw [h]; exact ⟨rfl, rfl⟩
  cases ha : Pl.argsOk n m0 L with
  | false =>
    have E := hno (by unfold Pl.costOk; rw [ha]; rfl)
    rw [E.1, E.2]
    have HJO : Hid (Calls Tryd.prog 18 #[.int .i64 n, .slice a0 m0 k0, .slice a L.length cap] w (Same15 w (.tuple #[.agg #[.int .u64 0, .int .u64 0, .int .u64 0, .int .u64 0], .bool false]))) := job_no w n a0 m0 k0 a cap L hL hR ha
    clear hno E hB hR ha
    go_enter Tryd.func11, Tryd.ntmps11
    go_wp2_with fail
    refine HJO.out.mono ?_
    rintro e w1 ⟨rfl, hb⟩
    have B1 : Hid (Below w.heap.size w (w1.alloc (.cells #[.int .u64 0, .int .u64 0, .int .u64 0, .int .u64 0] 47))) := below2 hb (job_below w1 _ _)
    clear hb HJO
    go_wp2
    go_ret2
    exact ⟨rfl, B1.out⟩
  | true =>
    have hro : Pl.rolesB n L = true := by unfold Pl.argsOk at ha; simp only [Bool.and_eq_true] at ha; exact ha.1
    have hmn : (m0 : Int) = n := by unfold Pl.argsOk at ha; simp only [Bool.and_eq_true, decide_eq_true_eq] at ha; exact ha.2
    subst hmn
    have HJO : Hid (Calls Tryd.prog 18 #[.int .i64 (m0 : Int), .slice a0 m0 k0, .slice a L.length cap] w (JobYes w m0 B L)) := job_yes w m0 a0 k0 B hB a cap L hL hR hro
    by_cases hl2 : 2 < L.length
    · have E := hno (by unfold Pl.costOk; rw [decide_eq_false (show ¬ L.length ≤ 2 by omega)]; simp)
      rw [E.1, E.2]
      have HL2 : Hid (2 < L.length) := hl2
      clear hno E hB hR ha hro hl2
      go_enter Tryd.func11, Tryd.ntmps11
      go_wp2_with fail
      refine HJO.out.mono ?_
      rintro e w1 ⟨⟨d, p, r, l, hj, rfl⟩, hb⟩
      have x10 := Box4.new w1 47 (.int .u64 (d : Int)) (.int .u64 (p : Int)) (.int .u64 (r : Int)) (.int .u64 (l : Int))
      have hlast := x10.lt
      have B1 : Hid (Below w.heap.size w (w1.alloc (.cells #[.int .u64 (d : Int), .int .u64 (p : Int), .int .u64 (r : Int), .int .u64 (l : Int)] 47))) := below2 hb (job_below w1 _ _)
      have CB : Hid (∀ W, Calls Tryd.prog 19 #[(.agg #[.int .u64 (d : Int), .int .u64 (p : Int), .int .u64 (r : Int), .int .u64 (l : Int)])] W (Same15 W (.bool true))) := fun W => by
        have h := beyond_any d p r l hj.hl.lt W
        rw [hj.cnt, decide_eq_true HL2.out] at h
        exact h
      obtain ⟨k0', k1, k2, k3, _, _, _, _⟩ := x10
      clear hj hb HJO
      go_wp2_with (go_at_call 19; refine (CB.out _).mono ?_; rintro e w2 ⟨rfl, hb2⟩)
      go_ret2
      exact ⟨rfl, below2 B1.out hb2⟩
    · have hok : Pl.costOk (m0 : Int) m0 L = true := by unfold Pl.costOk; rw [ha, decide_eq_true (show L.length ≤ 2 by omega)]; rfl
      have E1 : Hid (Pl.costN (m0 : Int) m0 B L way = (Pl.ansL m0 B L way).length ∧ Pl.costB (m0 : Int) m0 B L way = Pl.canB m0 B L way) := by
        refine ⟨?_, ?_⟩
        · unfold Pl.costN; rw [if_pos hok]; rfl
        · unfold Pl.costB; rw [hok]; rfl
      have HL2 : Hid (¬ 2 < L.length) := hl2
      have HTS : Hid (∀ W, Calls Tryd.prog 25 #[] W (Same15 W (.agg #[.func (.func 32) #[] #[], .func (.func 33) #[] #[], .func (.func 34) #[] #[], .func (.func 35) #[] #[]]))) := fun W => tests_any W
      rw [E1.out.1, E1.out.2]
      have h4 : (way < 1 ∨ 4 < way) ∨ way = 1 ∨ way = 2 ∨ way = 3 ∨ way = 4 := by omega
      rcases h4 with hw | hw
      · have hc : Pl.canB m0 B L way = false := by
          unfold Pl.canB
          rcases hw with h | h
          · rw [decide_eq_false (by omega)]; rfl
          · rw [decide_eq_false (show ¬ way ≤ 4 by omega)]; simp
        have hal : Pl.ansL m0 B L way = [] := by unfold Pl.ansL; rw [if_neg (by rw [hc]; decide)]
        rw [hc, hal]
        have hd : decide (way < 1) = true ∨ (decide (way < 1) = false ∧ decide (4 < way) = true) := by
          rcases hw with h | h
          · exact .inl (decide_eq_true h)
          · exact .inr ⟨decide_eq_false (by omega), decide_eq_true h⟩
        clear hno hB hR ha hro hl2 hok E1 hc hal hw
        go_enter Tryd.func11, Tryd.ntmps11
        go_wp2_with fail
        refine HJO.out.mono ?_
        rintro e w1 ⟨⟨d, p, r, l, hj, rfl⟩, hb⟩
        have x10 := Box4.new w1 47 (.int .u64 (d : Int)) (.int .u64 (p : Int)) (.int .u64 (r : Int)) (.int .u64 (l : Int))
        have hlast := x10.lt
        have B1 : Hid (Below w.heap.size w (w1.alloc (.cells #[.int .u64 (d : Int), .int .u64 (p : Int), .int .u64 (r : Int), .int .u64 (l : Int)] 47))) := below2 hb (job_below w1 _ _)
        have CB : Hid (∀ W, Calls Tryd.prog 19 #[(.agg #[.int .u64 (d : Int), .int .u64 (p : Int), .int .u64 (r : Int), .int .u64 (l : Int)])] W (Same15 W (.bool false))) := fun W => by
          have h := beyond_any d p r l hj.hl.lt W
          rw [hj.cnt, decide_eq_false HL2.out] at h
          exact h
        obtain ⟨k0', k1, k2, k3, _, _, _, _⟩ := x10
        clear hj hb HJO
        rcases hd with u1 | ⟨u1, u2⟩
        · go_wp2_with (go_at_call 19; refine (CB.out _).mono ?_; rintro e w2 ⟨rfl, hb2⟩)
          go_ret2
          exact ⟨rfl, below2 B1.out hb2⟩
        · go_wp2_with (go_at_call 19; refine (CB.out _).mono ?_; rintro e w2 ⟨rfl, hb2⟩)
          go_ret2
          exact ⟨rfl, below2 B1.out hb2⟩
      · clear hno hB hR ha hro hl2 hok E1
        rcases hw with rfl | rfl | rfl | rfl
        · have hix := index15_0
          have hwz : IntKind.i64.wrap (0 : Int) = 0 := by rw [IntKind.wrap_i64]; rfl
          obtain ⟨c, hc⟩ : ∃ c, Pl.canB m0 B L 1 = c := ⟨_, rfl⟩
          obtain ⟨q, hq⟩ : ∃ q, (Pl.ansL m0 B L 1).length = q := ⟨_, rfl⟩
          rw [hc, hq]
          have HCC : Hid (Pl.canB m0 B L 1 = c ∧ (Pl.ansL m0 B L 1).length = q) := ⟨hc, hq⟩
          clear hc hq
          go_enter Tryd.func11, Tryd.ntmps11
          go_wp2_with fail
          refine HJO.out.mono ?_
          rintro e w1 ⟨⟨d, p, r, l, hj, rfl⟩, hb⟩
          have x10 := Box4.new w1 47 (.int .u64 (d : Int)) (.int .u64 (p : Int)) (.int .u64 (r : Int)) (.int .u64 (l : Int))
          have hlast := x10.lt
          have B1 : Hid (Below w.heap.size w (w1.alloc (.cells #[.int .u64 (d : Int), .int .u64 (p : Int), .int .u64 (r : Int), .int .u64 (l : Int)] 47))) := below2 hb (job_below w1 _ _)
          have X10 : Hid (Box4 (w1.alloc (.cells #[.int .u64 (d : Int), .int .u64 (p : Int), .int .u64 (r : Int), .int .u64 (l : Int)] 47)) w1.heap.size (.int .u64 (d : Int)) (.int .u64 (p : Int)) (.int .u64 (r : Int)) (.int .u64 (l : Int))) := x10
          have CB : Hid (∀ W, Calls Tryd.prog 19 #[(.agg #[.int .u64 (d : Int), .int .u64 (p : Int), .int .u64 (r : Int), .int .u64 (l : Int)])] W (Same15 W (.bool false))) := fun W => by
            have h := beyond_any d p r l hj.hl.lt W
            rw [hj.cnt, decide_eq_false HL2.out] at h
            exact h
          obtain ⟨y, hy⟩ : ∃ y, TestOf m0 B L d p r l 1 32 y := ⟨_, test_full hj⟩
          have CY : Hid (∀ W, Calls Tryd.prog 26 #[.int .u64 (y : Int)] W fun e w' => e = .returned (.int .i64 (Rs.cnt y : Nat)) ∧ w' = W) := fun W => count_any y hy.1 W
          have HCT : Hid (∀ W, Calls Tryd.prog 32 #[(.agg #[.int .u64 (d : Int), .int .u64 (p : Int), .int .u64 (r : Int), .int .u64 (l : Int)])] W (Same15 W (.tuple #[.int .u64 (y : Int), .bool (Pl.canB m0 B L 1)]))) := hy.2.2
          have HNN : Hid (Pl.canB m0 B L 1 = true → Rs.cnt y = (Pl.ansL m0 B L 1).length) := fun h => congrArg List.length (hy.2.1 h)
          have HNO : Hid (Pl.canB m0 B L 1 = false → (Pl.ansL m0 B L 1).length = 0) := fun h => by unfold Pl.ansL; rw [if_neg (by rw [h]; decide)]; rfl
          rw [HCC.out.1] at HCT HNN HNO
          rw [HCC.out.2] at HNN HNO
          clear HCC
          obtain ⟨k0', k1, k2, k3, _, _, _, _⟩ := x10
          clear hj hb HJO hy
          go_wp2_with (go_at_call 19; refine (CB.out _).mono ?_; rintro e w2 ⟨rfl, hb2⟩; have X2 : Hid (Box4 w2 w1.heap.size (.int .u64 (d : Int)) (.int .u64 (p : Int)) (.int .u64 (r : Int)) (.int .u64 (l : Int)) ∧ Below w.heap.size w w2) := ⟨X10.out.kept hb2, below2 B1.out hb2⟩; clear hb2 B1 X10 k0' k1 k2 k3)
          have hS0 : w2.drew.cell? ⟨w1.heap.size, 0, none⟩ = some (.int .u64 (d : Int)) ∧ w2.drew.cell? ⟨w1.heap.size, 1, none⟩ = some (.int .u64 (p : Int)) ∧ w2.drew.cell? ⟨w1.heap.size, 2, none⟩ = some (.int .u64 (r : Int)) ∧ w2.drew.cell? ⟨w1.heap.size, 3, none⟩ = some (.int .u64 (l : Int)) ∧ Below w.heap.size w w2.drew := ⟨X2.out.1.k0, X2.out.1.k1, X2.out.1.k2, X2.out.1.k3, X2.out.2.drew⟩
          go_region_held3 (fun W => W.cell? ⟨w1.heap.size, 0, none⟩ = some (.int .u64 (d : Int)) ∧ W.cell? ⟨w1.heap.size, 1, none⟩ = some (.int .u64 (p : Int)) ∧ W.cell? ⟨w1.heap.size, 2, none⟩ = some (.int .u64 (r : Int)) ∧ W.cell? ⟨w1.heap.size, 3, none⟩ = some (.int .u64 (l : Int)) ∧ Below w.heap.size w W) (first | exact hS0 | assumption) (first | (go_at_call 25; refine (HTS.out _).mono ?_; rintro e w3 ⟨rfl, hb3⟩; have hs3 := keep_job hb3 (by assumption)) | (go_at_call 32; refine (HCT.out _).mono ?_; rintro e w4 ⟨rfl, hb4⟩; have hs4 := keep_job hb4 (by assumption)))
          all_goals
            cases c with
            | false =>
              obtain rfl : q = 0 := HNO.out rfl
              go_wp2
              go_ret2
              exact ⟨rfl, job_low (by assumption)⟩
            | true =>
              obtain rfl : Rs.cnt y = q := HNN.out rfl
              go_wp2_with (go_at_call 26; refine (CY.out _).mono ?_; rintro e w5 ⟨rfl, rfl⟩)
              go_ret2
              exact ⟨rfl, job_low (by assumption)⟩
        · have hix := index15_1
          have hwz : IntKind.i64.wrap (1 : Int) = 1 := by rw [IntKind.wrap_i64]; rfl
          obtain ⟨c, hc⟩ : ∃ c, Pl.canB m0 B L 2 = c := ⟨_, rfl⟩
          obtain ⟨q, hq⟩ : ∃ q, (Pl.ansL m0 B L 2).length = q := ⟨_, rfl⟩
          rw [hc, hq]
          have HCC : Hid (Pl.canB m0 B L 2 = c ∧ (Pl.ansL m0 B L 2).length = q) := ⟨hc, hq⟩
          clear hc hq
          go_enter Tryd.func11, Tryd.ntmps11
          go_wp2_with fail
          refine HJO.out.mono ?_
          rintro e w1 ⟨⟨d, p, r, l, hj, rfl⟩, hb⟩
          have x10 := Box4.new w1 47 (.int .u64 (d : Int)) (.int .u64 (p : Int)) (.int .u64 (r : Int)) (.int .u64 (l : Int))
          have hlast := x10.lt
          have B1 : Hid (Below w.heap.size w (w1.alloc (.cells #[.int .u64 (d : Int), .int .u64 (p : Int), .int .u64 (r : Int), .int .u64 (l : Int)] 47))) := below2 hb (job_below w1 _ _)
          have X10 : Hid (Box4 (w1.alloc (.cells #[.int .u64 (d : Int), .int .u64 (p : Int), .int .u64 (r : Int), .int .u64 (l : Int)] 47)) w1.heap.size (.int .u64 (d : Int)) (.int .u64 (p : Int)) (.int .u64 (r : Int)) (.int .u64 (l : Int))) := x10
          have CB : Hid (∀ W, Calls Tryd.prog 19 #[(.agg #[.int .u64 (d : Int), .int .u64 (p : Int), .int .u64 (r : Int), .int .u64 (l : Int)])] W (Same15 W (.bool false))) := fun W => by
            have h := beyond_any d p r l hj.hl.lt W
            rw [hj.cnt, decide_eq_false HL2.out] at h
            exact h
          obtain ⟨y, hy⟩ : ∃ y, TestOf m0 B L d p r l 2 33 y := ⟨_, test_modify hj⟩
          have CY : Hid (∀ W, Calls Tryd.prog 26 #[.int .u64 (y : Int)] W fun e w' => e = .returned (.int .i64 (Rs.cnt y : Nat)) ∧ w' = W) := fun W => count_any y hy.1 W
          have HCT : Hid (∀ W, Calls Tryd.prog 33 #[(.agg #[.int .u64 (d : Int), .int .u64 (p : Int), .int .u64 (r : Int), .int .u64 (l : Int)])] W (Same15 W (.tuple #[.int .u64 (y : Int), .bool (Pl.canB m0 B L 2)]))) := hy.2.2
          have HNN : Hid (Pl.canB m0 B L 2 = true → Rs.cnt y = (Pl.ansL m0 B L 2).length) := fun h => congrArg List.length (hy.2.1 h)
          have HNO : Hid (Pl.canB m0 B L 2 = false → (Pl.ansL m0 B L 2).length = 0) := fun h => by unfold Pl.ansL; rw [if_neg (by rw [h]; decide)]; rfl
          rw [HCC.out.1] at HCT HNN HNO
          rw [HCC.out.2] at HNN HNO
          clear HCC
          obtain ⟨k0', k1, k2, k3, _, _, _, _⟩ := x10
          clear hj hb HJO hy
          go_wp2_with (go_at_call 19; refine (CB.out _).mono ?_; rintro e w2 ⟨rfl, hb2⟩; have X2 : Hid (Box4 w2 w1.heap.size (.int .u64 (d : Int)) (.int .u64 (p : Int)) (.int .u64 (r : Int)) (.int .u64 (l : Int)) ∧ Below w.heap.size w w2) := ⟨X10.out.kept hb2, below2 B1.out hb2⟩; clear hb2 B1 X10 k0' k1 k2 k3)
          have hS0 : w2.drew.cell? ⟨w1.heap.size, 0, none⟩ = some (.int .u64 (d : Int)) ∧ w2.drew.cell? ⟨w1.heap.size, 1, none⟩ = some (.int .u64 (p : Int)) ∧ w2.drew.cell? ⟨w1.heap.size, 2, none⟩ = some (.int .u64 (r : Int)) ∧ w2.drew.cell? ⟨w1.heap.size, 3, none⟩ = some (.int .u64 (l : Int)) ∧ Below w.heap.size w w2.drew := ⟨X2.out.1.k0, X2.out.1.k1, X2.out.1.k2, X2.out.1.k3, X2.out.2.drew⟩
          go_region_held3 (fun W => W.cell? ⟨w1.heap.size, 0, none⟩ = some (.int .u64 (d : Int)) ∧ W.cell? ⟨w1.heap.size, 1, none⟩ = some (.int .u64 (p : Int)) ∧ W.cell? ⟨w1.heap.size, 2, none⟩ = some (.int .u64 (r : Int)) ∧ W.cell? ⟨w1.heap.size, 3, none⟩ = some (.int .u64 (l : Int)) ∧ Below w.heap.size w W) (first | exact hS0 | assumption) (first | (go_at_call 25; refine (HTS.out _).mono ?_; rintro e w3 ⟨rfl, hb3⟩; have hs3 := keep_job hb3 (by assumption)) | (go_at_call 33; refine (HCT.out _).mono ?_; rintro e w4 ⟨rfl, hb4⟩; have hs4 := keep_job hb4 (by assumption)))
          all_goals
            cases c with
            | false =>
              obtain rfl : q = 0 := HNO.out rfl
              go_wp2
              go_ret2
              exact ⟨rfl, job_low (by assumption)⟩
            | true =>
              obtain rfl : Rs.cnt y = q := HNN.out rfl
              go_wp2_with (go_at_call 26; refine (CY.out _).mono ?_; rintro e w5 ⟨rfl, rfl⟩)
              go_ret2
              exact ⟨rfl, job_low (by assumption)⟩
        · have hix := index15_2
          have hwz : IntKind.i64.wrap (2 : Int) = 2 := by rw [IntKind.wrap_i64]; rfl
          obtain ⟨c, hc⟩ : ∃ c, Pl.canB m0 B L 3 = c := ⟨_, rfl⟩
          obtain ⟨q, hq⟩ : ∃ q, (Pl.ansL m0 B L 3).length = q := ⟨_, rfl⟩
          rw [hc, hq]
          have HCC : Hid (Pl.canB m0 B L 3 = c ∧ (Pl.ansL m0 B L 3).length = q) := ⟨hc, hq⟩
          clear hc hq
          go_enter Tryd.func11, Tryd.ntmps11
          go_wp2_with fail
          refine HJO.out.mono ?_
          rintro e w1 ⟨⟨d, p, r, l, hj, rfl⟩, hb⟩
          have x10 := Box4.new w1 47 (.int .u64 (d : Int)) (.int .u64 (p : Int)) (.int .u64 (r : Int)) (.int .u64 (l : Int))
          have hlast := x10.lt
          have B1 : Hid (Below w.heap.size w (w1.alloc (.cells #[.int .u64 (d : Int), .int .u64 (p : Int), .int .u64 (r : Int), .int .u64 (l : Int)] 47))) := below2 hb (job_below w1 _ _)
          have X10 : Hid (Box4 (w1.alloc (.cells #[.int .u64 (d : Int), .int .u64 (p : Int), .int .u64 (r : Int), .int .u64 (l : Int)] 47)) w1.heap.size (.int .u64 (d : Int)) (.int .u64 (p : Int)) (.int .u64 (r : Int)) (.int .u64 (l : Int))) := x10
          have CB : Hid (∀ W, Calls Tryd.prog 19 #[(.agg #[.int .u64 (d : Int), .int .u64 (p : Int), .int .u64 (r : Int), .int .u64 (l : Int)])] W (Same15 W (.bool false))) := fun W => by
            have h := beyond_any d p r l hj.hl.lt W
            rw [hj.cnt, decide_eq_false HL2.out] at h
            exact h
          obtain ⟨y, hy⟩ : ∃ y, TestOf m0 B L d p r l 3 34 y := ⟨_, test_rebuild hj⟩
          have CY : Hid (∀ W, Calls Tryd.prog 26 #[.int .u64 (y : Int)] W fun e w' => e = .returned (.int .i64 (Rs.cnt y : Nat)) ∧ w' = W) := fun W => count_any y hy.1 W
          have HCT : Hid (∀ W, Calls Tryd.prog 34 #[(.agg #[.int .u64 (d : Int), .int .u64 (p : Int), .int .u64 (r : Int), .int .u64 (l : Int)])] W (Same15 W (.tuple #[.int .u64 (y : Int), .bool (Pl.canB m0 B L 3)]))) := hy.2.2
          have HNN : Hid (Pl.canB m0 B L 3 = true → Rs.cnt y = (Pl.ansL m0 B L 3).length) := fun h => congrArg List.length (hy.2.1 h)
          have HNO : Hid (Pl.canB m0 B L 3 = false → (Pl.ansL m0 B L 3).length = 0) := fun h => by unfold Pl.ansL; rw [if_neg (by rw [h]; decide)]; rfl
          rw [HCC.out.1] at HCT HNN HNO
          rw [HCC.out.2] at HNN HNO
          clear HCC
          obtain ⟨k0', k1, k2, k3, _, _, _, _⟩ := x10
          clear hj hb HJO hy
          go_wp2_with (go_at_call 19; refine (CB.out _).mono ?_; rintro e w2 ⟨rfl, hb2⟩; have X2 : Hid (Box4 w2 w1.heap.size (.int .u64 (d : Int)) (.int .u64 (p : Int)) (.int .u64 (r : Int)) (.int .u64 (l : Int)) ∧ Below w.heap.size w w2) := ⟨X10.out.kept hb2, below2 B1.out hb2⟩; clear hb2 B1 X10 k0' k1 k2 k3)
          have hS0 : w2.drew.cell? ⟨w1.heap.size, 0, none⟩ = some (.int .u64 (d : Int)) ∧ w2.drew.cell? ⟨w1.heap.size, 1, none⟩ = some (.int .u64 (p : Int)) ∧ w2.drew.cell? ⟨w1.heap.size, 2, none⟩ = some (.int .u64 (r : Int)) ∧ w2.drew.cell? ⟨w1.heap.size, 3, none⟩ = some (.int .u64 (l : Int)) ∧ Below w.heap.size w w2.drew := ⟨X2.out.1.k0, X2.out.1.k1, X2.out.1.k2, X2.out.1.k3, X2.out.2.drew⟩
          go_region_held3 (fun W => W.cell? ⟨w1.heap.size, 0, none⟩ = some (.int .u64 (d : Int)) ∧ W.cell? ⟨w1.heap.size, 1, none⟩ = some (.int .u64 (p : Int)) ∧ W.cell? ⟨w1.heap.size, 2, none⟩ = some (.int .u64 (r : Int)) ∧ W.cell? ⟨w1.heap.size, 3, none⟩ = some (.int .u64 (l : Int)) ∧ Below w.heap.size w W) (first | exact hS0 | assumption) (first | (go_at_call 25; refine (HTS.out _).mono ?_; rintro e w3 ⟨rfl, hb3⟩; have hs3 := keep_job hb3 (by assumption)) | (go_at_call 34; refine (HCT.out _).mono ?_; rintro e w4 ⟨rfl, hb4⟩; have hs4 := keep_job hb4 (by assumption)))
          all_goals
            cases c with
            | false =>
              obtain rfl : q = 0 := HNO.out rfl
              go_wp2
              go_ret2
              exact ⟨rfl, job_low (by assumption)⟩
            | true =>
              obtain rfl : Rs.cnt y = q := HNN.out rfl
              go_wp2_with (go_at_call 26; refine (CY.out _).mono ?_; rintro e w5 ⟨rfl, rfl⟩)
              go_ret2
              exact ⟨rfl, job_low (by assumption)⟩
        · have hix := index15_3
          have hwz : IntKind.i64.wrap (3 : Int) = 3 := by rw [IntKind.wrap_i64]; rfl
          obtain ⟨c, hc⟩ : ∃ c, Pl.canB m0 B L 4 = c := ⟨_, rfl⟩
          obtain ⟨q, hq⟩ : ∃ q, (Pl.ansL m0 B L 4).length = q := ⟨_, rfl⟩
          rw [hc, hq]
          have HCC : Hid (Pl.canB m0 B L 4 = c ∧ (Pl.ansL m0 B L 4).length = q) := ⟨hc, hq⟩
          clear hc hq
          go_enter Tryd.func11, Tryd.ntmps11
          go_wp2_with fail
          refine HJO.out.mono ?_
          rintro e w1 ⟨⟨d, p, r, l, hj, rfl⟩, hb⟩
          have x10 := Box4.new w1 47 (.int .u64 (d : Int)) (.int .u64 (p : Int)) (.int .u64 (r : Int)) (.int .u64 (l : Int))
          have hlast := x10.lt
          have B1 : Hid (Below w.heap.size w (w1.alloc (.cells #[.int .u64 (d : Int), .int .u64 (p : Int), .int .u64 (r : Int), .int .u64 (l : Int)] 47))) := below2 hb (job_below w1 _ _)
          have X10 : Hid (Box4 (w1.alloc (.cells #[.int .u64 (d : Int), .int .u64 (p : Int), .int .u64 (r : Int), .int .u64 (l : Int)] 47)) w1.heap.size (.int .u64 (d : Int)) (.int .u64 (p : Int)) (.int .u64 (r : Int)) (.int .u64 (l : Int))) := x10
          have CB : Hid (∀ W, Calls Tryd.prog 19 #[(.agg #[.int .u64 (d : Int), .int .u64 (p : Int), .int .u64 (r : Int), .int .u64 (l : Int)])] W (Same15 W (.bool false))) := fun W => by
            have h := beyond_any d p r l hj.hl.lt W
            rw [hj.cnt, decide_eq_false HL2.out] at h
            exact h
          obtain ⟨y, hy⟩ : ∃ y, TestOf m0 B L d p r l 4 35 y := ⟨_, test_whole hj⟩
          have CY : Hid (∀ W, Calls Tryd.prog 26 #[.int .u64 (y : Int)] W fun e w' => e = .returned (.int .i64 (Rs.cnt y : Nat)) ∧ w' = W) := fun W => count_any y hy.1 W
          have HCT : Hid (∀ W, Calls Tryd.prog 35 #[(.agg #[.int .u64 (d : Int), .int .u64 (p : Int), .int .u64 (r : Int), .int .u64 (l : Int)])] W (Same15 W (.tuple #[.int .u64 (y : Int), .bool (Pl.canB m0 B L 4)]))) := hy.2.2
          have HNN : Hid (Pl.canB m0 B L 4 = true → Rs.cnt y = (Pl.ansL m0 B L 4).length) := fun h => congrArg List.length (hy.2.1 h)
          have HNO : Hid (Pl.canB m0 B L 4 = false → (Pl.ansL m0 B L 4).length = 0) := fun h => by unfold Pl.ansL; rw [if_neg (by rw [h]; decide)]; rfl
          rw [HCC.out.1] at HCT HNN HNO
          rw [HCC.out.2] at HNN HNO
          clear HCC
          obtain ⟨k0', k1, k2, k3, _, _, _, _⟩ := x10
          clear hj hb HJO hy
          go_wp2_with (go_at_call 19; refine (CB.out _).mono ?_; rintro e w2 ⟨rfl, hb2⟩; have X2 : Hid (Box4 w2 w1.heap.size (.int .u64 (d : Int)) (.int .u64 (p : Int)) (.int .u64 (r : Int)) (.int .u64 (l : Int)) ∧ Below w.heap.size w w2) := ⟨X10.out.kept hb2, below2 B1.out hb2⟩; clear hb2 B1 X10 k0' k1 k2 k3)
          have hS0 : w2.drew.cell? ⟨w1.heap.size, 0, none⟩ = some (.int .u64 (d : Int)) ∧ w2.drew.cell? ⟨w1.heap.size, 1, none⟩ = some (.int .u64 (p : Int)) ∧ w2.drew.cell? ⟨w1.heap.size, 2, none⟩ = some (.int .u64 (r : Int)) ∧ w2.drew.cell? ⟨w1.heap.size, 3, none⟩ = some (.int .u64 (l : Int)) ∧ Below w.heap.size w w2.drew := ⟨X2.out.1.k0, X2.out.1.k1, X2.out.1.k2, X2.out.1.k3, X2.out.2.drew⟩
          go_region_held3 (fun W => W.cell? ⟨w1.heap.size, 0, none⟩ = some (.int .u64 (d : Int)) ∧ W.cell? ⟨w1.heap.size, 1, none⟩ = some (.int .u64 (p : Int)) ∧ W.cell? ⟨w1.heap.size, 2, none⟩ = some (.int .u64 (r : Int)) ∧ W.cell? ⟨w1.heap.size, 3, none⟩ = some (.int .u64 (l : Int)) ∧ Below w.heap.size w W) (first | exact hS0 | assumption) (first | (go_at_call 25; refine (HTS.out _).mono ?_; rintro e w3 ⟨rfl, hb3⟩; have hs3 := keep_job hb3 (by assumption)) | (go_at_call 35; refine (HCT.out _).mono ?_; rintro e w4 ⟨rfl, hb4⟩; have hs4 := keep_job hb4 (by assumption)))
          all_goals
            cases c with
            | false =>
              obtain rfl : q = 0 := HNO.out rfl
              go_wp2
              go_ret2
              exact ⟨rfl, job_low (by assumption)⟩
            | true =>
              obtain rfl : Rs.cnt y = q := HNN.out rfl
              go_wp2_with (go_at_call 26; refine (CY.out _).mono ?_; rintro e w5 ⟨rfl, rfl⟩)
              go_ret2
              exact ⟨rfl, job_low (by assumption)⟩
end Go.Proofs.YtlkbdhejfmljlaaDoor
