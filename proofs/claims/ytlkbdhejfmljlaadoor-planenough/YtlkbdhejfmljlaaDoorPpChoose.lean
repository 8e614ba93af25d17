/- Plans: the walk of the program's Choose; what is asked of the program is what it answers. -/
import Derived.Test.YtlkbdhejfmljlaaDoorPpCost
import Derived.Test.YtlkbdhejfmljlaaDoorPpRead
namespace Go.Proofs.YtlkbdhejfmljlaaDoor
open Go.RowKit
attribute [local go_sem] Oper.semAt_some

/-- where nothing is done -/
def NoneAns (w : World) (e : Int) (r : Ending) (w' : World) : Prop := r = .returned (.tuple #[(.agg #[.int .i64 0, .slice none 0 0, .slice none 0 0]), .int .i64 e]) ∧ Below w.heap.size w w'

set_option maxRecDepth 100000 in
set_option maxHeartbeats 8000000 in
theorem Choose_args (w : World) (n : Int) (a0 : Option Addr) (m0 k0 : Nat) (a : Option Addr) (cap : Nat) (L : List Int) (hL : L.length ≤ 1000000) (hR : RowI .i64 w a L.length (fun j => L.getD j 0)) (ha : Pl.argsOk n m0 L = false) :
    Calls Tryd.prog 9 #[.int .i64 n, .slice a0 m0 k0, .slice a L.length cap] w (NoneAns w 1) := by
  have x6 := Box15.new w 26 (.int .i64 0) (.slice none 0 0) (.slice none 0 0)
  have b6 := job_below w #[.int .i64 0, .slice none 0 0, .slice none 0 0] 26
  have X6 : Hid (Box15 (w.alloc (.cells #[.int .i64 0, .slice none 0 0, .slice none 0 0] 26)) w.heap.size (.int .i64 0) (.slice none 0 0) (.slice none 0 0) ∧ Below w.heap.size w (w.alloc (.cells #[.int .i64 0, .slice none 0 0, .slice none 0 0] 26))) := ⟨x6, b6⟩
  have HJO : Hid (Calls Tryd.prog 18 #[.int .i64 n, .slice a0 m0 k0, .slice a L.length cap] (w.alloc (.cells #[.int .i64 0, .slice none 0 0, .slice none 0 0] 26)) (Same15 (w.alloc (.cells #[.int .i64 0, .slice none 0 0, .slice none 0 0] 26)) (.tuple #[.agg #[.int .u64 0, .int .u64 0, .int .u64 0, .int .u64 0], .bool false]))) := job_no _ n a0 m0 k0 a cap L hL (hR.below b6) ha
  clear hR ha x6 b6
  go_enter Tryd.func9, Tryd.ntmps9
  go_wp2_with fail
  refine HJO.out.mono ?_
  rintro e w1 ⟨rfl, hb⟩
  have B1 : Hid (Below w.heap.size w (w1.alloc (.cells #[.int .u64 0, .int .u64 0, .int .u64 0, .int .u64 0] 47))) := below2 (below2 X6.out.2 hb) (job_below w1 _ _)
  obtain ⟨k0', k1, k2, f0, f1, f2⟩ := (X6.out.1.below hb X6.out.1.lt).below (job_below w1 #[.int .u64 0, .int .u64 0, .int .u64 0, .int .u64 0] 47) (Nat.lt_of_lt_of_le X6.out.1.lt hb.size)
  clear hb HJO X6
  go_wp2
  refine bodyPost_ret (ret_cell_tmp rfl _ _ ⟨w.heap.size, 0, none⟩ (.agg #[.int .i64 0, .slice none 0 0, .slice none 0 0]) rfl (by go_simp)) rfl ?_
  exact ⟨rfl, stored15_all B1.out B1.out.size (Nat.le_refl _) _ _ _⟩

set_option maxRecDepth 100000 in
set_option maxHeartbeats 8000000 in
theorem Choose_lost (w : World) (N : Nat) (a0 : Option Addr) (k0 : Nat) (B : Nat → Bool) (hB : RowB w a0 N B) (a : Option Addr) (cap : Nat) (L : List Int) (hL : L.length ≤ 1000000) (hR : RowI .i64 w a L.length (fun j => L.getD j 0)) (hro : Pl.rolesB (N : Int) L = true) (hl2 : 2 < L.length) :
    Calls Tryd.prog 9 #[.int .i64 (N : Int), .slice a0 N k0, .slice a L.length cap] w (NoneAns w 60) := by
  have x6 := Box15.new w 26 (.int .i64 0) (.slice none 0 0) (.slice none 0 0)
  have b6 := job_below w #[.int .i64 0, .slice none 0 0, .slice none 0 0] 26
  have X6 : Hid (Box15 (w.alloc (.cells #[.int .i64 0, .slice none 0 0, .slice none 0 0] 26)) w.heap.size (.int .i64 0) (.slice none 0 0) (.slice none 0 0) ∧ Below w.heap.size w (w.alloc (.cells #[.int .i64 0, .slice none 0 0, .slice none 0 0] 26))) := ⟨x6, b6⟩
  have HJO : Hid (Calls Tryd.prog 18 #[.int .i64 (N : Int), .slice a0 N k0, .slice a L.length cap] (w.alloc (.cells #[.int .i64 0, .slice none 0 0, .slice none 0 0] 26)) (JobYes (w.alloc (.cells #[.int .i64 0, .slice none 0 0, .slice none 0 0] 26)) N B L)) := job_yes _ N a0 k0 B (hB.below b6) a cap L hL (hR.below b6) hro
  have HL2 : Hid (2 < L.length) := hl2
  clear hB hR hro x6 b6 hl2
  go_enter Tryd.func9, Tryd.ntmps9
  go_wp2_with fail
  refine HJO.out.mono ?_
  rintro e w1 ⟨⟨d, p, r, l, hj, rfl⟩, hb⟩
  have x8 := Box4.new w1 47 (.int .u64 (d : Int)) (.int .u64 (p : Int)) (.int .u64 (r : Int)) (.int .u64 (l : Int))
  have hlast := x8.lt
  have B1 : Hid (Below w.heap.size w (w1.alloc (.cells #[.int .u64 (d : Int), .int .u64 (p : Int), .int .u64 (r : Int), .int .u64 (l : Int)] 47))) := below2 (below2 X6.out.2 hb) (job_below w1 _ _)
  have hx := (X6.out.1.below hb X6.out.1.lt).below (job_below w1 #[.int .u64 (d : Int), .int .u64 (p : Int), .int .u64 (r : Int), .int .u64 (l : Int)] 47) (Nat.lt_of_lt_of_le X6.out.1.lt hb.size)
  have HX : Hid (Box15 (w1.alloc (.cells #[.int .u64 (d : Int), .int .u64 (p : Int), .int .u64 (r : Int), .int .u64 (l : Int)] 47)) w.heap.size (.int .i64 0) (.slice none 0 0) (.slice none 0 0)) := hx
  have CB : Hid (∀ W, Calls Tryd.prog 19 #[(.agg #[.int .u64 (d : Int), .int .u64 (p : Int), .int .u64 (r : Int), .int .u64 (l : Int)])] W (Same15 W (.bool true))) := fun W => by
    have h := beyond_any d p r l hj.hl.lt W
    rw [hj.cnt, decide_eq_true HL2.out] at h
    exact h
  obtain ⟨k0', k1, k2, k3, _, _, _, _⟩ := x8
  clear hj hb HJO X6 hx
  go_wp2_with (go_at_call 19; refine (CB.out _).mono ?_; rintro e w2 ⟨rfl, hb2⟩; have B2 : Hid (Below w.heap.size w w2) := below2 B1.out hb2; obtain ⟨q0, q1, q2, g0, g1, g2⟩ := HX.out.below hb2 HX.out.lt; clear hb2)
  refine bodyPost_ret (ret_cell_tmp rfl _ _ ⟨w.heap.size, 0, none⟩ (.agg #[.int .i64 0, .slice none 0 0, .slice none 0 0]) rfl (by go_simp)) rfl ?_
  exact ⟨rfl, stored15_all B2.out B2.out.size (Nat.le_refl _) _ _ _⟩

set_option maxRecDepth 100000 in
set_option maxHeartbeats 8000000 in
theorem Choose_idle (w : World) (N : Nat) (a0 : Option Addr) (k0 : Nat) (B : Nat → Bool) (hB : RowB w a0 N B) (a : Option Addr) (cap : Nat) (L : List Int) (hL : L.length ≤ 1000000) (hR : RowI .i64 w a L.length (fun j => L.getD j 0)) (hro : Pl.rolesB (N : Int) L = true) (hl2 : ¬ 2 < L.length) (hany : Pl.anyT N B (N + 2) = false) :
    Calls Tryd.prog 9 #[.int .i64 (N : Int), .slice a0 N k0, .slice a L.length cap] w (NoneAns w 0) := by
  have x6 := Box15.new w 26 (.int .i64 0) (.slice none 0 0) (.slice none 0 0)
  have b6 := job_below w #[.int .i64 0, .slice none 0 0, .slice none 0 0] 26
  have X6 : Hid (Box15 (w.alloc (.cells #[.int .i64 0, .slice none 0 0, .slice none 0 0] 26)) w.heap.size (.int .i64 0) (.slice none 0 0) (.slice none 0 0) ∧ Below w.heap.size w (w.alloc (.cells #[.int .i64 0, .slice none 0 0, .slice none 0 0] 26))) := ⟨x6, b6⟩
  have HJO : Hid (Calls Tryd.prog 18 #[.int .i64 (N : Int), .slice a0 N k0, .slice a L.length cap] (w.alloc (.cells #[.int .i64 0, .slice none 0 0, .slice none 0 0] 26)) (JobYes (w.alloc (.cells #[.int .i64 0, .slice none 0 0, .slice none 0 0] 26)) N B L)) := job_yes _ N a0 k0 B (hB.below b6) a cap L hL (hR.below b6) hro
  have HL2 : Hid (¬ 2 < L.length) := hl2
  have HA : Hid (Pl.anyT N B (N + 2) = false) := hany
  clear hB hR hro x6 b6 hl2 hany
  go_enter Tryd.func9, Tryd.ntmps9
  go_wp2_with fail
  refine HJO.out.mono ?_
  rintro e w1 ⟨⟨d, p, r, l, hj, rfl⟩, hb⟩
  obtain rfl : r = 0 := hj.any_iff.2 HA.out
  have x8 := Box4.new w1 47 (.int .u64 (d : Int)) (.int .u64 (p : Int)) (.int .u64 ((0 : Nat) : Int)) (.int .u64 (l : Int))
  have hlast := x8.lt
  have B1 : Hid (Below w.heap.size w (w1.alloc (.cells #[.int .u64 (d : Int), .int .u64 (p : Int), .int .u64 ((0 : Nat) : Int), .int .u64 (l : Int)] 47))) := below2 (below2 X6.out.2 hb) (job_below w1 _ _)
  have hx := (X6.out.1.below hb X6.out.1.lt).below (job_below w1 #[.int .u64 (d : Int), .int .u64 (p : Int), .int .u64 ((0 : Nat) : Int), .int .u64 (l : Int)] 47) (Nat.lt_of_lt_of_le X6.out.1.lt hb.size)
  have HX : Hid (Box15 (w1.alloc (.cells #[.int .u64 (d : Int), .int .u64 (p : Int), .int .u64 ((0 : Nat) : Int), .int .u64 (l : Int)] 47)) w.heap.size (.int .i64 0) (.slice none 0 0) (.slice none 0 0)) := hx
  have X8 : Hid (Box4 (w1.alloc (.cells #[.int .u64 (d : Int), .int .u64 (p : Int), .int .u64 ((0 : Nat) : Int), .int .u64 (l : Int)] 47)) w1.heap.size (.int .u64 (d : Int)) (.int .u64 (p : Int)) (.int .u64 ((0 : Nat) : Int)) (.int .u64 (l : Int))) := x8
  have CB : Hid (∀ W, Calls Tryd.prog 19 #[(.agg #[.int .u64 (d : Int), .int .u64 (p : Int), .int .u64 ((0 : Nat) : Int), .int .u64 (l : Int)])] W (Same15 W (.bool false))) := fun W => by
    have h := beyond_any d p 0 l hj.hl.lt W
    rw [hj.cnt, decide_eq_false HL2.out] at h
    exact h
  obtain ⟨k0', k1, k2, k3, _, _, _, _⟩ := x8
  clear hj hb HJO X6 hx
  go_wp2_with (go_at_call 19; refine (CB.out _).mono ?_; rintro e w2 ⟨rfl, hb2⟩; have B2 : Hid (Below w.heap.size w w2) := below2 B1.out hb2; obtain ⟨q0, q1, q2, g0, g1, g2⟩ := HX.out.below hb2 HX.out.lt; obtain ⟨m0, m1, m2, m3, _, _, _, _⟩ := X8.out.kept hb2; have hlast2 : w1.heap.size < w2.heap.size := Nat.lt_of_lt_of_le hlast hb2.size; clear hb2)
  refine bodyPost_ret (ret_cell_tmp rfl _ _ ⟨w.heap.size, 0, none⟩ (.agg #[.int .i64 0, .slice none 0 0, .slice none 0 0]) rfl (by go_simp)) rfl ?_
  exact ⟨rfl, stored15_all B2.out B2.out.size (Nat.le_refl _) _ _ _⟩

set_option maxRecDepth 100000 in
set_option maxHeartbeats 8000000 in
theorem Choose_goes (w : World) (hT : Tz w) (N : Nat) (a0 : Option Addr) (k0 : Nat) (B : Nat → Bool) (hB : RowB w a0 N B) (a : Option Addr) (cap : Nat) (L : List Int) (hL : L.length ≤ 1000000) (hR : RowI .i64 w a L.length (fun j => L.getD j 0)) (hro : Pl.rolesB (N : Int) L = true) (hl2 : ¬ 2 < L.length) (hany : Pl.anyT N B (N + 2) = true) :
    Calls Tryd.prog 9 #[.int .i64 (N : Int), .slice a0 N k0, .slice a L.length cap] w fun e w' => ∃ vr vw, e = .returned (.tuple #[.agg #[.int .i64 (Pl.bestT N B L 4).1, vr, vw], .int .i64 0]) ∧ Row15 w (Pl.bestT N B L 4).2 vr w' ∧ Row15 w (Pl.writesT N B L (N + 2)) vw w' := by
  have x6 := Box15.new w 26 (.int .i64 0) (.slice none 0 0) (.slice none 0 0)
  have b6 := job_below w #[.int .i64 0, .slice none 0 0, .slice none 0 0] 26
  have X6 : Hid (Box15 (w.alloc (.cells #[.int .i64 0, .slice none 0 0, .slice none 0 0] 26)) w.heap.size (.int .i64 0) (.slice none 0 0) (.slice none 0 0) ∧ Below w.heap.size w (w.alloc (.cells #[.int .i64 0, .slice none 0 0, .slice none 0 0] 26))) := ⟨x6, b6⟩
  have HJO : Hid (Calls Tryd.prog 18 #[.int .i64 (N : Int), .slice a0 N k0, .slice a L.length cap] (w.alloc (.cells #[.int .i64 0, .slice none 0 0, .slice none 0 0] 26)) (JobYes (w.alloc (.cells #[.int .i64 0, .slice none 0 0, .slice none 0 0] 26)) N B L)) := job_yes _ N a0 k0 B (hB.below b6) a cap L hL (hR.below b6) hro
  have HL2 : Hid (¬ 2 < L.length) := hl2
  have HA : Hid (Pl.anyT N B (N + 2) = true) := hany
  have HT : Hid (Tz w) := hT
  obtain ⟨bw, hbw⟩ : ∃ bw, (Pl.bestT N B L 4).1 = bw := ⟨_, rfl⟩
  obtain ⟨br, hbr⟩ : ∃ br, (Pl.bestT N B L 4).2 = br := ⟨_, rfl⟩
  obtain ⟨wt, hwt⟩ : ∃ wt, Pl.writesT N B L (N + 2) = wt := ⟨_, rfl⟩
  rw [hbw, hbr, hwt]
  have HBB : Hid ((Pl.bestT N B L 4).1 = bw ∧ (Pl.bestT N B L 4).2 = br ∧ Pl.writesT N B L (N + 2) = wt) := ⟨hbw, hbr, hwt⟩
  clear hB hR hro x6 b6 hl2 hany hT hbw hbr hwt
  go_enter Tryd.func9, Tryd.ntmps9
  go_wp2_with fail
  refine HJO.out.mono ?_
  rintro e w1 ⟨⟨d, p, r, l, hj, rfl⟩, hb⟩
  have hr0 : ((r : Int) == 0) = false := by
    rw [beq_eq_false_iff_ne]
    intro h
    have := hj.any_iff.1 (by omega)
    rw [HA.out] at this; cases this
  have x8 := Box4.new w1 47 (.int .u64 (d : Int)) (.int .u64 (p : Int)) (.int .u64 (r : Int)) (.int .u64 (l : Int))
  have hlast := x8.lt
  have B1 : Hid (Below w.heap.size w (w1.alloc (.cells #[.int .u64 (d : Int), .int .u64 (p : Int), .int .u64 (r : Int), .int .u64 (l : Int)] 47))) := below2 (below2 X6.out.2 hb) (job_below w1 _ _)
  have hx := (X6.out.1.below hb X6.out.1.lt).below (job_below w1 #[.int .u64 (d : Int), .int .u64 (p : Int), .int .u64 (r : Int), .int .u64 (l : Int)] 47) (Nat.lt_of_lt_of_le X6.out.1.lt hb.size)
  have HX : Hid (Box15 (w1.alloc (.cells #[.int .u64 (d : Int), .int .u64 (p : Int), .int .u64 (r : Int), .int .u64 (l : Int)] 47)) w.heap.size (.int .i64 0) (.slice none 0 0) (.slice none 0 0)) := hx
  have X8 : Hid (Box4 (w1.alloc (.cells #[.int .u64 (d : Int), .int .u64 (p : Int), .int .u64 (r : Int), .int .u64 (l : Int)] 47)) w1.heap.size (.int .u64 (d : Int)) (.int .u64 (p : Int)) (.int .u64 (r : Int)) (.int .u64 (l : Int))) := x8
  have HJ : Hid (Job N B L d p r l) := hj
  have CB : Hid (∀ W, Calls Tryd.prog 19 #[(.agg #[.int .u64 (d : Int), .int .u64 (p : Int), .int .u64 (r : Int), .int .u64 (l : Int)])] W (Same15 W (.bool false))) := fun W => by
    have h := beyond_any d p r l hj.hl.lt W
    rw [hj.cnt, decide_eq_false HL2.out] at h
    exact h
  have CC : Hid (∀ W, Calls Tryd.prog 20 #[(.agg #[.int .u64 (d : Int), .int .u64 (p : Int), .int .u64 (r : Int), .int .u64 (l : Int)])] W fun e w' => (∃ x : Nat, x < 1024 ∧ Rs.ints x = br ∧ e = .returned (.tuple #[.int .i64 bw, .int .u64 (x : Int)])) ∧ Below W.heap.size W w') := fun W => by
    have h := cheapest_any hj W
    unfold BestAns at h
    rw [HBB.out.1, HBB.out.2.1] at h
    exact h
  have eo := u64_or_nat r p (by have := hj.hr.lt; omega) (by have := hj.hp.lt; omega)
  have ed := Rs.u64_diff (r ||| p) l (by have := (hj.hr.or hj.hp).lt; omega) (by have := hj.hl.lt; omega)
  have hzi := hj.writes_is
  have hzl := ((hj.hr.or hj.hp).diff hj.hl).lt
  rw [HBB.out.2.2] at hzi
  obtain ⟨z1, hz1⟩ : ∃ z1, z1 = r ||| p := ⟨_, rfl⟩
  rw [← hz1] at eo ed hzi hzl
  obtain ⟨z2, hz2⟩ : ∃ z2, z2 = Rs.diff z1 l := ⟨_, rfl⟩
  rw [← hz2] at ed hzi hzl
  have CW : Hid (∀ W, Below w.heap.size w W → Calls Tryd.prog 21 #[.int .u64 (z2 : Int)] W fun e w' => ∃ v, e = .returned v ∧ Row15 W wt v w') := fun W hW => by
    have h := list_any z2 hzl W (HT.out.kept hW)
    rw [hzi] at h
    exact h
  obtain ⟨k0', k1, k2, k3, _, _, _, _⟩ := x8
  clear hj hb HJO X6 hx hzi hzl hz1 hz2
  go_wp2_with (go_at_call 19; refine (CB.out _).mono ?_; rintro e w2 ⟨rfl, hb2⟩; have B2 : Hid (Below w.heap.size w w2) := below2 B1.out hb2; have X82 : Hid (Box4 w2 w1.heap.size (.int .u64 (d : Int)) (.int .u64 (p : Int)) (.int .u64 (r : Int)) (.int .u64 (l : Int))) := X8.out.kept hb2; have HX2 : Hid (Box15 w2 w.heap.size (.int .i64 0) (.slice none 0 0) (.slice none 0 0)) := HX.out.below hb2 HX.out.lt; obtain ⟨m0, m1, m2, m3, _, _, _, _⟩ := X8.out.kept hb2; have hlast2 : w1.heap.size < w2.heap.size := Nat.lt_of_lt_of_le hlast hb2.size; clear hb2 k0' k1 k2 k3 X8 HX B1)
  refine (CC.out _).mono ?_
  rintro e w3 ⟨⟨x, hx, hxi, rfl⟩, hb3⟩
  have B3 : Hid (Below w.heap.size w w3) := below2 B2.out hb3
  have HX3 : Hid (Box15 w3 w.heap.size (.int .i64 0) (.slice none 0 0) (.slice none 0 0)) := HX2.out.below hb3 HX2.out.lt
  have hsz3 := HX3.out.lt
  have CR : Hid (Calls Tryd.prog 21 #[.int .u64 (x : Int)] w3 fun e w' => ∃ v, e = .returned v ∧ Row15 w3 br v w') := by
    have h := list_any x hx w3 (HT.out.kept B3.out)
    rw [hxi] at h
    exact h
  obtain ⟨n0, n1, n2, n3, _, _, _, _⟩ := X82.out.kept hb3
  have hlast3 : w1.heap.size < w3.heap.size := Nat.lt_of_lt_of_le hlast2 hb3.size
  clear hb3 hx hxi m0 m1 m2 m3 X82 HX2 B2 CC CB
  have tk1 : True := trivial
  go_wp2_with (first | (go_at_call 21; have _t := tk1; refine CR.out.mono ?_; rintro e w4 ⟨v4, rfl, hr4⟩; obtain ⟨ga4, gc4, rfl, _, _⟩ := RowI.of_owns (k := .i64) hr4.1; have R4 : Hid (Row15 w3 br (.slice ga4 br.length gc4) w4) := hr4; have B4 : Hid (Below w.heap.size w w4) := below2 B3.out hr4.2; have HX4 : Hid (Box15 w4 w.heap.size (.int .i64 0) (.slice none 0 0) (.slice none 0 0)) := HX3.out.below hr4.2 HX3.out.lt; clear _t tk1 hr4) | (go_at_call 21; refine (CW.out _ B4.out).mono ?_; rintro e w5 ⟨v5, rfl, hr5⟩; obtain ⟨ga5, gc5, rfl, _, _⟩ := RowI.of_owns (k := .i64) hr5.1; have R5 : Hid (Row15 w4 wt (.slice ga5 wt.length gc5) w5) := hr5; obtain ⟨q0, q1, q2, g0, g1, g2⟩ := HX4.out.below hr5.2 HX4.out.lt; clear hr5))
  refine bodyPost_ret (ret_cell_tmp rfl _ _ ⟨w.heap.size, 0, none⟩ (.agg #[.int .i64 bw, .slice ga4 br.length gc4, .slice ga5 wt.length gc5]) rfl (by go_simp)) rfl ?_
  have h4 := R4.out.2.size
  have hlow := stored15_all (below2 B4.out R5.out.2) (below2 B4.out R5.out.2).size (Nat.le_refl _) (.int .i64 bw) (.slice ga4 br.length gc4) (.slice ga5 wt.length gc5)
  exact ⟨_, _, rfl, ⟨row_low15 (own_set15 (own_set15 (own_set15 (ownsRow_below R4.out.1 R5.out.2) hsz3 _) hsz3 _) hsz3 _) (Nat.le_of_lt hsz3), hlow⟩,
    ⟨row_low15 (own_set15 (own_set15 (own_set15 R5.out.1 (by show w.heap.size < _; omega) _) (by show w.heap.size < _; omega) _) (by show w.heap.size < _; omega) _) (by omega), hlow⟩⟩

theorem choose_no15 {w w' : World} {n : Int} {m : Nat} {B : Nat → Bool} {L : List Int} {e : Int} {r : Ending} (hg : Pl.goes n m B L = false) (he : ((Pl.chooseE n m L : Nat) : Int) = e) (h : NoneAns w e r w') : ChooseSays w n m B L r w' := by
  obtain ⟨rfl, hb⟩ := h
  obtain ⟨vr, vw, e1, h1, h2⟩ := choose_none (B := B) hg he hb
  exact ⟨⟨vr, vw, e1, Rd15.of_owns h1.1, Rd15.of_owns h2.1⟩, hb⟩

theorem Choose_any (w : World) (hT : Tz w) (n : Int) (a0 : Option Addr) (m0 k0 : Nat) (B : Nat → Bool) (hB : RowB w a0 m0 B) (a : Option Addr) (cap : Nat) (L : List Int) (hL : L.length ≤ 1000000) (hR : RowI .i64 w a L.length (fun j => L.getD j 0)) :
    Calls Tryd.prog 9 #[.int .i64 n, .slice a0 m0 k0, .slice a L.length cap] w (ChooseSays w n m0 B L) := by
  cases ha : Pl.argsOk n m0 L with
  | false =>
    refine (Choose_args w n a0 m0 k0 a cap L hL hR ha).mono fun _ _ h => choose_no15 ?_ ?_ h
    · unfold Pl.goes Pl.costOk; rw [ha]; rfl
    · unfold Pl.chooseE; rw [if_neg (by rw [ha]; decide)]; rfl
  | true =>
    have hro : Pl.rolesB n L = true := by unfold Pl.argsOk at ha; simp only [Bool.and_eq_true] at ha; exact ha.1
    have hmn : (m0 : Int) = n := by unfold Pl.argsOk at ha; simp only [Bool.and_eq_true, decide_eq_true_eq] at ha; exact ha.2
    subst hmn
    by_cases hl2 : 2 < L.length
    · refine (Choose_lost w m0 a0 k0 B hB a cap L hL hR hro hl2).mono fun _ _ h => choose_no15 ?_ ?_ h
      · unfold Pl.goes Pl.costOk; rw [ha, decide_eq_false (show ¬ L.length ≤ 2 by omega)]; rfl
      · unfold Pl.chooseE; rw [if_pos ha, if_neg (by omega)]; rfl
    · have hok : Pl.costOk (m0 : Int) m0 L = true := by unfold Pl.costOk; rw [ha, decide_eq_true (show L.length ≤ 2 by omega)]; rfl
      have he : Pl.chooseE (m0 : Int) m0 L = 0 := by unfold Pl.chooseE; rw [if_pos ha, if_pos (by omega)]
      cases hany : Pl.anyT m0 B (m0 + 2) with
      | false =>
        refine (Choose_idle w m0 a0 k0 B hB a cap L hL hR hro hl2 hany).mono fun _ _ h => choose_no15 ?_ ?_ h
        · unfold Pl.goes; rw [hok, Int.toNat_natCast, hany]; rfl
        · rw [he]; rfl
      | true =>
        have hg : Pl.goes (m0 : Int) m0 B L = true := by unfold Pl.goes; rw [hok, Int.toNat_natCast, hany]; rfl
        refine (Choose_goes w hT m0 a0 k0 B hB a cap L hL hR hro hl2 hany).mono ?_
        rintro e w' ⟨vr, vw, rfl, h1, h2⟩
        have e1 : Pl.chooseW (m0 : Int) m0 B L = (Pl.bestT m0 B L 4).1 := by unfold Pl.chooseW; rw [if_pos hg, Int.toNat_natCast]
        have e2 : Pl.chooseR (m0 : Int) m0 B L = (Pl.bestT m0 B L 4).2 := by unfold Pl.chooseR; rw [if_pos hg, Int.toNat_natCast]
        have e3 : Pl.chooseP (m0 : Int) m0 B L = Pl.writesT m0 B L (m0 + 2) := by unfold Pl.chooseP; rw [if_pos hg, Int.toNat_natCast]
        unfold ChooseSays
        rw [e1, e2, e3, he]
        exact ⟨⟨vr, vw, rfl, Rd15.of_owns h1.1, Rd15.of_owns h2.1⟩, h1.2⟩

/-- what is asked of the program is what it answers, where the library's table stands -/
theorem plan_says {w0 : World} (hT : Tz w0) : PlanSays w0 :=
  ⟨fun w hw n a0 m0 k0 B _ _ _ hB a cap L _ hL hR => Choose_any w (hT.kept hw) n a0 m0 k0 B hB a cap L (by omega) hR,
   fun w _ n a0 m0 k0 B _ _ _ hB a cap L _ hL hR way _ => Cost_any w n a0 m0 k0 B hB a cap L (by omega) hR way,
   fun w hw n role a cap L _ _ _ hL hR => Read_any w (hT.kept hw) n role a cap L (by omega) hR⟩
end Go.Proofs.YtlkbdhejfmljlaaDoor
