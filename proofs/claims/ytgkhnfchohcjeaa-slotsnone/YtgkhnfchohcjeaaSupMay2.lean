/- The walk of super's May: one walk for each way through it. -/
import Derived.Test.YtgkhnfchohcjeaaSupMay
namespace Go.Proofs.Ytgkhnfchohcjeaa
open Go.RowKit

/-- whether it does not grow, or may -/
def growB (s : Su) : Bool := decide (s.nw = 0 ∧ s.g = 0) || (decide (s.c < s.nw) && decide (s.nw ≤ 10))
theorem mayGrow_any (uu ev : Nat) (role c k r : Int) (cl : Bool) (b nw g : Int) (w : World) :
    Calls Try.prog 40 #[supV ⟨uu, ev, role, c, k, r, cl, b, nw, g⟩] w fun e w' => e = .returned (.bool (growB ⟨uu, ev, role, c, k, r, cl, b, nw, g⟩)) ∧ Below w.heap.size w w' := by
  by_cases hq : nw = 0 ∧ g = 0
  · have E : growB ⟨uu, ev, role, c, k, r, cl, b, nw, g⟩ = true := by simp [growB, hq]
    rw [E]; exact mayGrow_still uu ev role c k r cl b nw g hq w
  · by_cases h1 : c < nw
    · have E : growB ⟨uu, ev, role, c, k, r, cl, b, nw, g⟩ = decide (nw ≤ 10) := by simp [growB, hq, h1]
      rw [E]; exact mayGrow_up uu ev role c k r cl b nw g hq h1 w
    · have E : growB ⟨uu, ev, role, c, k, r, cl, b, nw, g⟩ = false := by simp [growB, hq, h1]
      rw [E]; exact mayGrow_low uu ev role c k r cl b nw g hq h1 w
/-- the same by the walk's own words: whether it is a column -/
noncomputable def mayW (s : Su) (x : Int) : Bool := decide (s.uu ≠ 0) && decide (Lay.checkI s.c s.k s.r = 0) && growB s && (decide (s.role = 254) || decide (s.role = 255) || upB s.role x) && upB s.b s.r && upB s.g s.r
theorem max_run (c nw M : Int) (hM : max c nw = M) : ∀ (ts : Array TypeId) (ty : TypeId) (W : World), (Builtin.max_ ts ty #[.int .i64 c, .int .i64 nw]).run Try.prog W = .ok (.int .i64 M) W := by
  intro ts ty W
  subst hM
  simp [Builtin.max_, Builtin.max2]
  omega
/-- behind the two closures: where the superblock lies, and what each remembers -/
theorem may_start (w : World) (s : Su) (x y : Int) : let w1 := ((w.alloc (.cells #[.int .u64 (s.uu : Int), .int .u64 (s.ev : Int), .int .i64 s.role, .int .i64 s.c, .int .i64 s.k, .int .i64 s.r, .bool s.cl, .int .i64 s.b, .int .i64 s.nw, .int .i64 s.g] 30)).alloc (.cells #[.int .i64 x] 3)).alloc (.cells #[.int .i64 y] 3)
    SupAt w1 w.heap.size 0 s ∧ w1.cell? ⟨w.heap.size + 1, 0, none⟩ = some (.int .i64 x) ∧ w1.cell? ⟨w.heap.size + 1 + 1, 0, none⟩ = some (.int .i64 y) ∧ Below w.heap.size w w1 := by
  intro w1
  have b1 : Below w.heap.size w w1 := (((Below.refl _ _).alloc (Nat.le_refl _) _).alloc (by simp) _).alloc (by simp; omega) _
  refine ⟨(SupAt.new w s _).below (B := w.heap.size + 1) (((Below.refl _ _).alloc (by simp) _).alloc (by simp) _) (by omega), ?_, ?_, b1⟩
  · have _h := World.cell?_alloc_mark (w.alloc (.cells #[.int .u64 (s.uu : Int), .int .u64 (s.ev : Int), .int .i64 s.role, .int .i64 s.c, .int .i64 s.k, .int .i64 s.r, .bool s.cl, .int .i64 s.b, .int .i64 s.nw, .int .i64 s.g] 30)) #[.int .i64 x] 3 (0, 0) 0
    have hb : Below (w.heap.size + 2) ((w.alloc (.cells #[.int .u64 (s.uu : Int), .int .u64 (s.ev : Int), .int .i64 s.role, .int .i64 s.c, .int .i64 s.k, .int .i64 s.r, .bool s.cl, .int .i64 s.b, .int .i64 s.nw, .int .i64 s.g] 30)).alloc (.cells #[.int .i64 x] 3)) w1 := (Below.refl _ _).alloc (by simp) _
    have e : w1.cell? ⟨w.heap.size + 1, 0, none⟩ = _ := hb.cell (p := ⟨w.heap.size + 1, 0, none⟩) (show w.heap.size + 1 < w.heap.size + 2 by omega)
    rw [e]
    simp
  · have h := World.cell?_alloc_mark ((w.alloc (.cells #[.int .u64 (s.uu : Int), .int .u64 (s.ev : Int), .int .i64 s.role, .int .i64 s.c, .int .i64 s.k, .int .i64 s.r, .bool s.cl, .int .i64 s.b, .int .i64 s.nw, .int .i64 s.g] 30)).alloc (.cells #[.int .i64 x] 3)) #[.int .i64 y] 3 (0, 0) 0
    simp at h ⊢
    exact h
set_option maxRecDepth 100000 in
set_option maxHeartbeats 2000000 in
theorem may_a0 (uu ev : Nat) (role c k r : Int) (cl : Bool) (b nw g : Int) (M x : Int) (hM : max c nw = M) (hx : IntKind.i64.wrap (M - 1) = x) (hr : role = 254) (hu : uu = 0) (w : World) :
    Calls Try.prog 24 #[supV ⟨uu, ev, role, c, k, r, cl, b, nw, g⟩] w fun e w' => e = .returned (.bool false) ∧ Below w.heap.size w w' := by
  have hmax := max_run c nw M hM
  have HK := fun W => Check_any c k r W
  have HG := fun W => mayGrow_any uu ev role c k r cl b nw g W
  have HST : Hid _ := may_start w ⟨uu, ev, role, c, k, r, cl, b, nw, g⟩ x r
  have U1 := fun a W h => upTo1_any role x a W h
  have U2 := fun a W h => upTo1_any b r a W h
  have U3 := fun a W h => upTo1_any g r a W h
  have r1 : decide (role = 254) = true := decide_eq_true hr
  have r1' : (role == 254) = true := by simp [hr]
  have u1 : ((uu : Int) != 0) = false := by simp [hu]
  obtain ⟨ck, hck⟩ : ∃ ck, Lay.checkI c k r = ck := ⟨_, rfl⟩
  obtain ⟨gr, hgr⟩ : ∃ gr, growB ⟨uu, ev, role, c, k, r, cl, b, nw, g⟩ = gr := ⟨_, rfl⟩
  obtain ⟨R, hRR⟩ : ∃ R, upB role x = R := ⟨_, rfl⟩
  obtain ⟨B, hBB⟩ : ∃ B, upB b r = B := ⟨_, rfl⟩
  rw [hck] at HK; rw [hgr] at HG; rw [hRR] at U1; rw [hBB] at U2
  unfold supV at *
  unfold geoV at HK
  dsimp only at HST HG ⊢
  clear hck hgr hRR hBB hM hr hu r1
  go_enter Try.func24, Try.ntmps24
  go_wp2_with fail
  refine (upTo_any x _).mono ?_
  rintro e w' ⟨rfl, rfl⟩
  go_wp2_with fail
  refine (upTo_any r _).mono ?_
  rintro e w1 ⟨rfl, hw1⟩
  have HS := HST.out
  rw [← hw1] at HS
  simp only [World.size_alloc]
  clear HST hw1
  obtain ⟨⟨m0, m1, m2, m3, m4, m5, m6, m7, m8, m9⟩, n1, n2, HB⟩ := HS
  simp only [Nat.zero_add] at m1 m2 m3 m4 m5 m6 m7 m8 m9
  dsimp only at m0 m1 m2 m3 m4 m5 m6 m7 m8 m9
  go_wp2
  go_ret
  exact ⟨rfl, HB⟩
set_option maxRecDepth 100000 in
set_option maxHeartbeats 2000000 in
theorem may_a1 (uu ev : Nat) (role c k r : Int) (cl : Bool) (b nw g : Int) (M x : Int) (hM : max c nw = M) (hx : IntKind.i64.wrap (M - 1) = x) (hr : role = 254) (hu : uu ≠ 0) (hk : Lay.checkI c k r ≠ 0) (w : World) :
    Calls Try.prog 24 #[supV ⟨uu, ev, role, c, k, r, cl, b, nw, g⟩] w fun e w' => e = .returned (.bool false) ∧ Below w.heap.size w w' := by
  have hmax := max_run c nw M hM
  have HK := fun W => Check_any c k r W
  have HG := fun W => mayGrow_any uu ev role c k r cl b nw g W
  have HST : Hid _ := may_start w ⟨uu, ev, role, c, k, r, cl, b, nw, g⟩ x r
  have U1 := fun a W h => upTo1_any role x a W h
  have U2 := fun a W h => upTo1_any b r a W h
  have U3 := fun a W h => upTo1_any g r a W h
  have r1 : decide (role = 254) = true := decide_eq_true hr
  have r1' : (role == 254) = true := by simp [hr]
  have u1 : ((uu : Int) != 0) = true := by simp; omega
  obtain ⟨ck, hck⟩ : ∃ ck, Lay.checkI c k r = ck := ⟨_, rfl⟩
  obtain ⟨gr, hgr⟩ : ∃ gr, growB ⟨uu, ev, role, c, k, r, cl, b, nw, g⟩ = gr := ⟨_, rfl⟩
  obtain ⟨R, hRR⟩ : ∃ R, upB role x = R := ⟨_, rfl⟩
  obtain ⟨B, hBB⟩ : ∃ B, upB b r = B := ⟨_, rfl⟩
  rw [hck] at hk
  rw [hck] at HK; rw [hgr] at HG; rw [hRR] at U1; rw [hBB] at U2
  have c1 : (ck == 0) = false := by simp [hk]
  unfold supV at *
  unfold geoV at HK
  dsimp only at HST HG ⊢
  clear hck hgr hRR hBB hM hr hu r1 hk
  go_enter Try.func24, Try.ntmps24
  go_wp2_with fail
  refine (upTo_any x _).mono ?_
  rintro e w' ⟨rfl, rfl⟩
  go_wp2_with fail
  refine (upTo_any r _).mono ?_
  rintro e w1 ⟨rfl, hw1⟩
  have HS := HST.out
  rw [← hw1] at HS
  simp only [World.size_alloc]
  clear HST hw1
  obtain ⟨⟨m0, m1, m2, m3, m4, m5, m6, m7, m8, m9⟩, n1, n2, HB⟩ := HS
  simp only [Nat.zero_add] at m1 m2 m3 m4 m5 m6 m7 m8 m9
  dsimp only at m0 m1 m2 m3 m4 m5 m6 m7 m8 m9
  go_wp2_with fail
  refine (HK _).mono ?_
  rintro e w2 ⟨rfl, B2⟩
  have S2 : Hid _ := B2
  have lt1 : w.heap.size < w1.heap.size := World.block_lt_of_cell? w1 _ m0
  have lt2 : w.heap.size + 1 < w1.heap.size := World.block_lt_of_cell? w1 _ n1
  have lt3 : w.heap.size + 1 + 1 < w1.heap.size := World.block_lt_of_cell? w1 _ n2
  have p0 := (B2.cell (p := ⟨w.heap.size, 0, none⟩) lt1).trans m0
  have p1 := (B2.cell (p := ⟨w.heap.size, 1, none⟩) lt1).trans m1
  have p2 := (B2.cell (p := ⟨w.heap.size, 2, none⟩) lt1).trans m2
  have p3 := (B2.cell (p := ⟨w.heap.size, 3, none⟩) lt1).trans m3
  have p4 := (B2.cell (p := ⟨w.heap.size, 4, none⟩) lt1).trans m4
  have p5 := (B2.cell (p := ⟨w.heap.size, 5, none⟩) lt1).trans m5
  have p6 := (B2.cell (p := ⟨w.heap.size, 6, none⟩) lt1).trans m6
  have p7 := (B2.cell (p := ⟨w.heap.size, 7, none⟩) lt1).trans m7
  have p8 := (B2.cell (p := ⟨w.heap.size, 8, none⟩) lt1).trans m8
  have p9 := (B2.cell (p := ⟨w.heap.size, 9, none⟩) lt1).trans m9
  have q2 := (B2.cell (p := ⟨w.heap.size + 1 + 1, 0, none⟩) lt3).trans n2
  clear B2
  go_wp2
  go_ret
  exact ⟨rfl, below2 HB S2.out⟩
set_option maxRecDepth 100000 in
set_option maxHeartbeats 2000000 in
theorem may_a2 (uu ev : Nat) (role c k r : Int) (cl : Bool) (b nw g : Int) (M x : Int) (hM : max c nw = M) (hx : IntKind.i64.wrap (M - 1) = x) (hr : role = 254) (hu : uu ≠ 0) (hk : Lay.checkI c k r = 0) (hg : growB ⟨uu, ev, role, c, k, r, cl, b, nw, g⟩ = false) (w : World) :
    Calls Try.prog 24 #[supV ⟨uu, ev, role, c, k, r, cl, b, nw, g⟩] w fun e w' => e = .returned (.bool false) ∧ Below w.heap.size w w' := by
  have hmax := max_run c nw M hM
  have HK := fun W => Check_any c k r W
  have HG := fun W => mayGrow_any uu ev role c k r cl b nw g W
  have HST : Hid _ := may_start w ⟨uu, ev, role, c, k, r, cl, b, nw, g⟩ x r
  have U1 := fun a W h => upTo1_any role x a W h
  have U2 := fun a W h => upTo1_any b r a W h
  have U3 := fun a W h => upTo1_any g r a W h
  have r1 : decide (role = 254) = true := decide_eq_true hr
  have r1' : (role == 254) = true := by simp [hr]
  have u1 : ((uu : Int) != 0) = true := by simp; omega
  obtain ⟨ck, hck⟩ : ∃ ck, Lay.checkI c k r = ck := ⟨_, rfl⟩
  obtain ⟨gr, hgr⟩ : ∃ gr, growB ⟨uu, ev, role, c, k, r, cl, b, nw, g⟩ = gr := ⟨_, rfl⟩
  obtain ⟨R, hRR⟩ : ∃ R, upB role x = R := ⟨_, rfl⟩
  obtain ⟨B, hBB⟩ : ∃ B, upB b r = B := ⟨_, rfl⟩
  rw [hck] at hk
  rw [hgr] at hg
  rw [hck] at HK; rw [hgr] at HG; rw [hRR] at U1; rw [hBB] at U2
  have c1 : (ck == 0) = true := by simp [hk]
  subst hg
  unfold supV at *
  unfold geoV at HK
  dsimp only at HST HG ⊢
  clear hck hgr hRR hBB hM hr hu r1 hk
  go_enter Try.func24, Try.ntmps24
  go_wp2_with fail
  refine (upTo_any x _).mono ?_
  rintro e w' ⟨rfl, rfl⟩
  go_wp2_with fail
  refine (upTo_any r _).mono ?_
  rintro e w1 ⟨rfl, hw1⟩
  have HS := HST.out
  rw [← hw1] at HS
  simp only [World.size_alloc]
  clear HST hw1
  obtain ⟨⟨m0, m1, m2, m3, m4, m5, m6, m7, m8, m9⟩, n1, n2, HB⟩ := HS
  simp only [Nat.zero_add] at m1 m2 m3 m4 m5 m6 m7 m8 m9
  dsimp only at m0 m1 m2 m3 m4 m5 m6 m7 m8 m9
  go_wp2_with fail
  refine (HK _).mono ?_
  rintro e w2 ⟨rfl, B2⟩
  have S2 : Hid _ := B2
  have lt1 : w.heap.size < w1.heap.size := World.block_lt_of_cell? w1 _ m0
  have lt2 : w.heap.size + 1 < w1.heap.size := World.block_lt_of_cell? w1 _ n1
  have lt3 : w.heap.size + 1 + 1 < w1.heap.size := World.block_lt_of_cell? w1 _ n2
  have p0 := (B2.cell (p := ⟨w.heap.size, 0, none⟩) lt1).trans m0
  have p1 := (B2.cell (p := ⟨w.heap.size, 1, none⟩) lt1).trans m1
  have p2 := (B2.cell (p := ⟨w.heap.size, 2, none⟩) lt1).trans m2
  have p3 := (B2.cell (p := ⟨w.heap.size, 3, none⟩) lt1).trans m3
  have p4 := (B2.cell (p := ⟨w.heap.size, 4, none⟩) lt1).trans m4
  have p5 := (B2.cell (p := ⟨w.heap.size, 5, none⟩) lt1).trans m5
  have p6 := (B2.cell (p := ⟨w.heap.size, 6, none⟩) lt1).trans m6
  have p7 := (B2.cell (p := ⟨w.heap.size, 7, none⟩) lt1).trans m7
  have p8 := (B2.cell (p := ⟨w.heap.size, 8, none⟩) lt1).trans m8
  have p9 := (B2.cell (p := ⟨w.heap.size, 9, none⟩) lt1).trans m9
  have q2 := (B2.cell (p := ⟨w.heap.size + 1 + 1, 0, none⟩) lt3).trans n2
  clear B2
  go_wp2_with fail
  refine (HG _).mono ?_
  rintro e w3 ⟨rfl, B3⟩
  have S3 : Hid _ := B3
  have lt4 : w.heap.size < w2.heap.size := World.block_lt_of_cell? w2 _ p0
  have lt5 : w.heap.size + 1 + 1 < w2.heap.size := World.block_lt_of_cell? w2 _ q2
  have s5 := (B3.cell (p := ⟨w.heap.size, 5, none⟩) lt4).trans p5
  have s7 := (B3.cell (p := ⟨w.heap.size, 7, none⟩) lt4).trans p7
  have s9 := (B3.cell (p := ⟨w.heap.size, 9, none⟩) lt4).trans p9
  have t2 := (B3.cell (p := ⟨w.heap.size + 1 + 1, 0, none⟩) lt5).trans q2
  clear B3
  go_wp2
  go_ret
  exact ⟨rfl, below2 (below2 HB S2.out) S3.out⟩
set_option maxRecDepth 100000 in
set_option maxHeartbeats 2000000 in
theorem may_a4 (uu ev : Nat) (role c k r : Int) (cl : Bool) (b nw g : Int) (M x : Int) (hM : max c nw = M) (hx : IntKind.i64.wrap (M - 1) = x) (hr : role = 254) (hu : uu ≠ 0) (hk : Lay.checkI c k r = 0) (hg : growB ⟨uu, ev, role, c, k, r, cl, b, nw, g⟩ = true) (hb : upB b r = false) (w : World) :
    Calls Try.prog 24 #[supV ⟨uu, ev, role, c, k, r, cl, b, nw, g⟩] w fun e w' => e = .returned (.bool false) ∧ Below w.heap.size w w' := by
  have hmax := max_run c nw M hM
  have HK := fun W => Check_any c k r W
  have HG := fun W => mayGrow_any uu ev role c k r cl b nw g W
  have HST : Hid _ := may_start w ⟨uu, ev, role, c, k, r, cl, b, nw, g⟩ x r
  have U1 := fun a W h => upTo1_any role x a W h
  have U2 := fun a W h => upTo1_any b r a W h
  have U3 := fun a W h => upTo1_any g r a W h
  have r1 : decide (role = 254) = true := decide_eq_true hr
  have r1' : (role == 254) = true := by simp [hr]
  have u1 : ((uu : Int) != 0) = true := by simp; omega
  obtain ⟨ck, hck⟩ : ∃ ck, Lay.checkI c k r = ck := ⟨_, rfl⟩
  obtain ⟨gr, hgr⟩ : ∃ gr, growB ⟨uu, ev, role, c, k, r, cl, b, nw, g⟩ = gr := ⟨_, rfl⟩
  obtain ⟨R, hRR⟩ : ∃ R, upB role x = R := ⟨_, rfl⟩
  obtain ⟨B, hBB⟩ : ∃ B, upB b r = B := ⟨_, rfl⟩
  rw [hck] at hk
  rw [hgr] at hg
  rw [hBB] at hb
  rw [hck] at HK; rw [hgr] at HG; rw [hRR] at U1; rw [hBB] at U2
  have c1 : (ck == 0) = true := by simp [hk]
  subst hg
  subst hb
  unfold supV at *
  unfold geoV at HK
  dsimp only at HST HG ⊢
  clear hck hgr hRR hBB hM hr hu r1 hk
  go_enter Try.func24, Try.ntmps24
  go_wp2_with fail
  refine (upTo_any x _).mono ?_
  rintro e w' ⟨rfl, rfl⟩
  go_wp2_with fail
  refine (upTo_any r _).mono ?_
  rintro e w1 ⟨rfl, hw1⟩
  have HS := HST.out
  rw [← hw1] at HS
  simp only [World.size_alloc]
  clear HST hw1
  obtain ⟨⟨m0, m1, m2, m3, m4, m5, m6, m7, m8, m9⟩, n1, n2, HB⟩ := HS
  simp only [Nat.zero_add] at m1 m2 m3 m4 m5 m6 m7 m8 m9
  dsimp only at m0 m1 m2 m3 m4 m5 m6 m7 m8 m9
  go_wp2_with fail
  refine (HK _).mono ?_
  rintro e w2 ⟨rfl, B2⟩
  have S2 : Hid _ := B2
  have lt1 : w.heap.size < w1.heap.size := World.block_lt_of_cell? w1 _ m0
  have lt2 : w.heap.size + 1 < w1.heap.size := World.block_lt_of_cell? w1 _ n1
  have lt3 : w.heap.size + 1 + 1 < w1.heap.size := World.block_lt_of_cell? w1 _ n2
  have p0 := (B2.cell (p := ⟨w.heap.size, 0, none⟩) lt1).trans m0
  have p1 := (B2.cell (p := ⟨w.heap.size, 1, none⟩) lt1).trans m1
  have p2 := (B2.cell (p := ⟨w.heap.size, 2, none⟩) lt1).trans m2
  have p3 := (B2.cell (p := ⟨w.heap.size, 3, none⟩) lt1).trans m3
  have p4 := (B2.cell (p := ⟨w.heap.size, 4, none⟩) lt1).trans m4
  have p5 := (B2.cell (p := ⟨w.heap.size, 5, none⟩) lt1).trans m5
  have p6 := (B2.cell (p := ⟨w.heap.size, 6, none⟩) lt1).trans m6
  have p7 := (B2.cell (p := ⟨w.heap.size, 7, none⟩) lt1).trans m7
  have p8 := (B2.cell (p := ⟨w.heap.size, 8, none⟩) lt1).trans m8
  have p9 := (B2.cell (p := ⟨w.heap.size, 9, none⟩) lt1).trans m9
  have q2 := (B2.cell (p := ⟨w.heap.size + 1 + 1, 0, none⟩) lt3).trans n2
  clear B2
  go_wp2_with fail
  refine (HG _).mono ?_
  rintro e w3 ⟨rfl, B3⟩
  have S3 : Hid _ := B3
  have lt4 : w.heap.size < w2.heap.size := World.block_lt_of_cell? w2 _ p0
  have lt5 : w.heap.size + 1 + 1 < w2.heap.size := World.block_lt_of_cell? w2 _ q2
  have s5 := (B3.cell (p := ⟨w.heap.size, 5, none⟩) lt4).trans p5
  have s7 := (B3.cell (p := ⟨w.heap.size, 7, none⟩) lt4).trans p7
  have s9 := (B3.cell (p := ⟨w.heap.size, 9, none⟩) lt4).trans p9
  have t2 := (B3.cell (p := ⟨w.heap.size + 1 + 1, 0, none⟩) lt5).trans q2
  clear B3
  go_wp2_with fail
  refine (U2 _ _ t2).mono ?_
  rintro e w' ⟨rfl, hw'⟩
  replace hw' := hw'.symm
  subst hw'
  go_wp2
  go_ret
  exact ⟨rfl, below2 (below2 HB S2.out) S3.out⟩
set_option maxRecDepth 100000 in
set_option maxHeartbeats 2000000 in
theorem may_a5 (uu ev : Nat) (role c k r : Int) (cl : Bool) (b nw g : Int) (M x : Int) (hM : max c nw = M) (hx : IntKind.i64.wrap (M - 1) = x) (hr : role = 254) (hu : uu ≠ 0) (hk : Lay.checkI c k r = 0) (hg : growB ⟨uu, ev, role, c, k, r, cl, b, nw, g⟩ = true) (hb : upB b r = true) (w : World) :
    Calls Try.prog 24 #[supV ⟨uu, ev, role, c, k, r, cl, b, nw, g⟩] w fun e w' => e = .returned (.bool (upB g r)) ∧ Below w.heap.size w w' := by
  have hmax := max_run c nw M hM
  have HK := fun W => Check_any c k r W
  have HG := fun W => mayGrow_any uu ev role c k r cl b nw g W
  have HST : Hid _ := may_start w ⟨uu, ev, role, c, k, r, cl, b, nw, g⟩ x r
  have U1 := fun a W h => upTo1_any role x a W h
  have U2 := fun a W h => upTo1_any b r a W h
  have U3 := fun a W h => upTo1_any g r a W h
  have r1 : decide (role = 254) = true := decide_eq_true hr
  have r1' : (role == 254) = true := by simp [hr]
  have u1 : ((uu : Int) != 0) = true := by simp; omega
  obtain ⟨ck, hck⟩ : ∃ ck, Lay.checkI c k r = ck := ⟨_, rfl⟩
  obtain ⟨gr, hgr⟩ : ∃ gr, growB ⟨uu, ev, role, c, k, r, cl, b, nw, g⟩ = gr := ⟨_, rfl⟩
  obtain ⟨R, hRR⟩ : ∃ R, upB role x = R := ⟨_, rfl⟩
  obtain ⟨B, hBB⟩ : ∃ B, upB b r = B := ⟨_, rfl⟩
  rw [hck] at hk
  rw [hgr] at hg
  rw [hBB] at hb
  rw [hck] at HK; rw [hgr] at HG; rw [hRR] at U1; rw [hBB] at U2
  have c1 : (ck == 0) = true := by simp [hk]
  subst hg
  subst hb
  unfold supV at *
  unfold geoV at HK
  dsimp only at HST HG ⊢
  clear hck hgr hRR hBB hM hr hu r1 hk
  go_enter Try.func24, Try.ntmps24
  go_wp2_with fail
  refine (upTo_any x _).mono ?_
  rintro e w' ⟨rfl, rfl⟩
  go_wp2_with fail
  refine (upTo_any r _).mono ?_
  rintro e w1 ⟨rfl, hw1⟩
  have HS := HST.out
  rw [← hw1] at HS
  simp only [World.size_alloc]
  clear HST hw1
  obtain ⟨⟨m0, m1, m2, m3, m4, m5, m6, m7, m8, m9⟩, n1, n2, HB⟩ := HS
  simp only [Nat.zero_add] at m1 m2 m3 m4 m5 m6 m7 m8 m9
  dsimp only at m0 m1 m2 m3 m4 m5 m6 m7 m8 m9
  go_wp2_with fail
  refine (HK _).mono ?_
  rintro e w2 ⟨rfl, B2⟩
  have S2 : Hid _ := B2
  have lt1 : w.heap.size < w1.heap.size := World.block_lt_of_cell? w1 _ m0
  have lt2 : w.heap.size + 1 < w1.heap.size := World.block_lt_of_cell? w1 _ n1
  have lt3 : w.heap.size + 1 + 1 < w1.heap.size := World.block_lt_of_cell? w1 _ n2
  have p0 := (B2.cell (p := ⟨w.heap.size, 0, none⟩) lt1).trans m0
  have p1 := (B2.cell (p := ⟨w.heap.size, 1, none⟩) lt1).trans m1
  have p2 := (B2.cell (p := ⟨w.heap.size, 2, none⟩) lt1).trans m2
  have p3 := (B2.cell (p := ⟨w.heap.size, 3, none⟩) lt1).trans m3
  have p4 := (B2.cell (p := ⟨w.heap.size, 4, none⟩) lt1).trans m4
  have p5 := (B2.cell (p := ⟨w.heap.size, 5, none⟩) lt1).trans m5
  have p6 := (B2.cell (p := ⟨w.heap.size, 6, none⟩) lt1).trans m6
  have p7 := (B2.cell (p := ⟨w.heap.size, 7, none⟩) lt1).trans m7
  have p8 := (B2.cell (p := ⟨w.heap.size, 8, none⟩) lt1).trans m8
  have p9 := (B2.cell (p := ⟨w.heap.size, 9, none⟩) lt1).trans m9
  have q2 := (B2.cell (p := ⟨w.heap.size + 1 + 1, 0, none⟩) lt3).trans n2
  clear B2
  go_wp2_with fail
  refine (HG _).mono ?_
  rintro e w3 ⟨rfl, B3⟩
  have S3 : Hid _ := B3
  have lt4 : w.heap.size < w2.heap.size := World.block_lt_of_cell? w2 _ p0
  have lt5 : w.heap.size + 1 + 1 < w2.heap.size := World.block_lt_of_cell? w2 _ q2
  have s5 := (B3.cell (p := ⟨w.heap.size, 5, none⟩) lt4).trans p5
  have s7 := (B3.cell (p := ⟨w.heap.size, 7, none⟩) lt4).trans p7
  have s9 := (B3.cell (p := ⟨w.heap.size, 9, none⟩) lt4).trans p9
  have t2 := (B3.cell (p := ⟨w.heap.size + 1 + 1, 0, none⟩) lt5).trans q2
  clear B3
  go_wp2_with fail
  refine (U2 _ _ t2).mono ?_
  rintro e w' ⟨rfl, hw'⟩
  replace hw' := hw'.symm
  subst hw'
  go_wp2_with fail
  refine (U3 _ _ t2).mono ?_
  rintro e w' ⟨rfl, hw'⟩
  replace hw' := hw'.symm
  subst hw'
  go_wp2
  go_ret
  exact ⟨rfl, below2 (below2 HB S2.out) S3.out⟩
set_option maxRecDepth 100000 in
set_option maxHeartbeats 2000000 in
theorem may_b0 (uu ev : Nat) (role c k r : Int) (cl : Bool) (b nw g : Int) (M x : Int) (hM : max c nw = M) (hx : IntKind.i64.wrap (M - 1) = x) (hr0 : role ≠ 254) (hr : role = 255) (hu : uu = 0) (w : World) :
    Calls Try.prog 24 #[supV ⟨uu, ev, role, c, k, r, cl, b, nw, g⟩] w fun e w' => e = .returned (.bool false) ∧ Below w.heap.size w w' := by
  have hmax := max_run c nw M hM
  have HK := fun W => Check_any c k r W
  have HG := fun W => mayGrow_any uu ev role c k r cl b nw g W
  have HST : Hid _ := may_start w ⟨uu, ev, role, c, k, r, cl, b, nw, g⟩ x r
  have U1 := fun a W h => upTo1_any role x a W h
  have U2 := fun a W h => upTo1_any b r a W h
  have U3 := fun a W h => upTo1_any g r a W h
  have r1' : (role == 254) = false := by simp [hr0]
  have r2' : (role == 255) = true := by simp [hr]
  have u1 : ((uu : Int) != 0) = false := by simp [hu]
  obtain ⟨ck, hck⟩ : ∃ ck, Lay.checkI c k r = ck := ⟨_, rfl⟩
  obtain ⟨gr, hgr⟩ : ∃ gr, growB ⟨uu, ev, role, c, k, r, cl, b, nw, g⟩ = gr := ⟨_, rfl⟩
  obtain ⟨R, hRR⟩ : ∃ R, upB role x = R := ⟨_, rfl⟩
  obtain ⟨B, hBB⟩ : ∃ B, upB b r = B := ⟨_, rfl⟩
  rw [hck] at HK; rw [hgr] at HG; rw [hRR] at U1; rw [hBB] at U2
  unfold supV at *
  unfold geoV at HK
  dsimp only at HST HG ⊢
  clear hck hgr hRR hBB hM hr hu hr0
  go_enter Try.func24, Try.ntmps24
  go_wp2_with fail
  refine (upTo_any x _).mono ?_
  rintro e w' ⟨rfl, rfl⟩
  go_wp2_with fail
  refine (upTo_any r _).mono ?_
  rintro e w1 ⟨rfl, hw1⟩
  have HS := HST.out
  rw [← hw1] at HS
  simp only [World.size_alloc]
  clear HST hw1
  obtain ⟨⟨m0, m1, m2, m3, m4, m5, m6, m7, m8, m9⟩, n1, n2, HB⟩ := HS
  simp only [Nat.zero_add] at m1 m2 m3 m4 m5 m6 m7 m8 m9
  dsimp only at m0 m1 m2 m3 m4 m5 m6 m7 m8 m9
  go_wp2
  go_ret
  exact ⟨rfl, HB⟩
set_option maxRecDepth 100000 in
set_option maxHeartbeats 2000000 in
theorem may_b1 (uu ev : Nat) (role c k r : Int) (cl : Bool) (b nw g : Int) (M x : Int) (hM : max c nw = M) (hx : IntKind.i64.wrap (M - 1) = x) (hr0 : role ≠ 254) (hr : role = 255) (hu : uu ≠ 0) (hk : Lay.checkI c k r ≠ 0) (w : World) :
    Calls Try.prog 24 #[supV ⟨uu, ev, role, c, k, r, cl, b, nw, g⟩] w fun e w' => e = .returned (.bool false) ∧ Below w.heap.size w w' := by
  have hmax := max_run c nw M hM
  have HK := fun W => Check_any c k r W
  have HG := fun W => mayGrow_any uu ev role c k r cl b nw g W
  have HST : Hid _ := may_start w ⟨uu, ev, role, c, k, r, cl, b, nw, g⟩ x r
  have U1 := fun a W h => upTo1_any role x a W h
  have U2 := fun a W h => upTo1_any b r a W h
  have U3 := fun a W h => upTo1_any g r a W h
  have r1' : (role == 254) = false := by simp [hr0]
  have r2' : (role == 255) = true := by simp [hr]
  have u1 : ((uu : Int) != 0) = true := by simp; omega
  obtain ⟨ck, hck⟩ : ∃ ck, Lay.checkI c k r = ck := ⟨_, rfl⟩
  obtain ⟨gr, hgr⟩ : ∃ gr, growB ⟨uu, ev, role, c, k, r, cl, b, nw, g⟩ = gr := ⟨_, rfl⟩
  obtain ⟨R, hRR⟩ : ∃ R, upB role x = R := ⟨_, rfl⟩
  obtain ⟨B, hBB⟩ : ∃ B, upB b r = B := ⟨_, rfl⟩
  rw [hck] at hk
  rw [hck] at HK; rw [hgr] at HG; rw [hRR] at U1; rw [hBB] at U2
  have c1 : (ck == 0) = false := by simp [hk]
  unfold supV at *
  unfold geoV at HK
  dsimp only at HST HG ⊢
  clear hck hgr hRR hBB hM hr hu hr0 hk
  go_enter Try.func24, Try.ntmps24
  go_wp2_with fail
  refine (upTo_any x _).mono ?_
  rintro e w' ⟨rfl, rfl⟩
  go_wp2_with fail
  refine (upTo_any r _).mono ?_
  rintro e w1 ⟨rfl, hw1⟩
  have HS := HST.out
  rw [← hw1] at HS
  simp only [World.size_alloc]
  clear HST hw1
  obtain ⟨⟨m0, m1, m2, m3, m4, m5, m6, m7, m8, m9⟩, n1, n2, HB⟩ := HS
  simp only [Nat.zero_add] at m1 m2 m3 m4 m5 m6 m7 m8 m9
  dsimp only at m0 m1 m2 m3 m4 m5 m6 m7 m8 m9
  go_wp2_with fail
  refine (HK _).mono ?_
  rintro e w2 ⟨rfl, B2⟩
  have S2 : Hid _ := B2
  have lt1 : w.heap.size < w1.heap.size := World.block_lt_of_cell? w1 _ m0
  have lt2 : w.heap.size + 1 < w1.heap.size := World.block_lt_of_cell? w1 _ n1
  have lt3 : w.heap.size + 1 + 1 < w1.heap.size := World.block_lt_of_cell? w1 _ n2
  have p0 := (B2.cell (p := ⟨w.heap.size, 0, none⟩) lt1).trans m0
  have p1 := (B2.cell (p := ⟨w.heap.size, 1, none⟩) lt1).trans m1
  have p2 := (B2.cell (p := ⟨w.heap.size, 2, none⟩) lt1).trans m2
  have p3 := (B2.cell (p := ⟨w.heap.size, 3, none⟩) lt1).trans m3
  have p4 := (B2.cell (p := ⟨w.heap.size, 4, none⟩) lt1).trans m4
  have p5 := (B2.cell (p := ⟨w.heap.size, 5, none⟩) lt1).trans m5
  have p6 := (B2.cell (p := ⟨w.heap.size, 6, none⟩) lt1).trans m6
  have p7 := (B2.cell (p := ⟨w.heap.size, 7, none⟩) lt1).trans m7
  have p8 := (B2.cell (p := ⟨w.heap.size, 8, none⟩) lt1).trans m8
  have p9 := (B2.cell (p := ⟨w.heap.size, 9, none⟩) lt1).trans m9
  have q2 := (B2.cell (p := ⟨w.heap.size + 1 + 1, 0, none⟩) lt3).trans n2
  clear B2
  go_wp2
  go_ret
  exact ⟨rfl, below2 HB S2.out⟩
set_option maxRecDepth 100000 in
set_option maxHeartbeats 2000000 in
theorem may_b2 (uu ev : Nat) (role c k r : Int) (cl : Bool) (b nw g : Int) (M x : Int) (hM : max c nw = M) (hx : IntKind.i64.wrap (M - 1) = x) (hr0 : role ≠ 254) (hr : role = 255) (hu : uu ≠ 0) (hk : Lay.checkI c k r = 0) (hg : growB ⟨uu, ev, role, c, k, r, cl, b, nw, g⟩ = false) (w : World) :
    Calls Try.prog 24 #[supV ⟨uu, ev, role, c, k, r, cl, b, nw, g⟩] w fun e w' => e = .returned (.bool false) ∧ Below w.heap.size w w' := by
  have hmax := max_run c nw M hM
  have HK := fun W => Check_any c k r W
  have HG := fun W => mayGrow_any uu ev role c k r cl b nw g W
  have HST : Hid _ := may_start w ⟨uu, ev, role, c, k, r, cl, b, nw, g⟩ x r
  have U1 := fun a W h => upTo1_any role x a W h
  have U2 := fun a W h => upTo1_any b r a W h
  have U3 := fun a W h => upTo1_any g r a W h
  have r1' : (role == 254) = false := by simp [hr0]
  have r2' : (role == 255) = true := by simp [hr]
  have u1 : ((uu : Int) != 0) = true := by simp; omega
  obtain ⟨ck, hck⟩ : ∃ ck, Lay.checkI c k r = ck := ⟨_, rfl⟩
  obtain ⟨gr, hgr⟩ : ∃ gr, growB ⟨uu, ev, role, c, k, r, cl, b, nw, g⟩ = gr := ⟨_, rfl⟩
  obtain ⟨R, hRR⟩ : ∃ R, upB role x = R := ⟨_, rfl⟩
  obtain ⟨B, hBB⟩ : ∃ B, upB b r = B := ⟨_, rfl⟩
  rw [hck] at hk
  rw [hgr] at hg
  rw [hck] at HK; rw [hgr] at HG; rw [hRR] at U1; rw [hBB] at U2
  have c1 : (ck == 0) = true := by simp [hk]
  subst hg
  unfold supV at *
  unfold geoV at HK
  dsimp only at HST HG ⊢
  clear hck hgr hRR hBB hM hr hu hr0 hk
  go_enter Try.func24, Try.ntmps24
  go_wp2_with fail
  refine (upTo_any x _).mono ?_
  rintro e w' ⟨rfl, rfl⟩
  go_wp2_with fail
  refine (upTo_any r _).mono ?_
  rintro e w1 ⟨rfl, hw1⟩
  have HS := HST.out
  rw [← hw1] at HS
  simp only [World.size_alloc]
  clear HST hw1
  obtain ⟨⟨m0, m1, m2, m3, m4, m5, m6, m7, m8, m9⟩, n1, n2, HB⟩ := HS
  simp only [Nat.zero_add] at m1 m2 m3 m4 m5 m6 m7 m8 m9
  dsimp only at m0 m1 m2 m3 m4 m5 m6 m7 m8 m9
  go_wp2_with fail
  refine (HK _).mono ?_
  rintro e w2 ⟨rfl, B2⟩
  have S2 : Hid _ := B2
  have lt1 : w.heap.size < w1.heap.size := World.block_lt_of_cell? w1 _ m0
  have lt2 : w.heap.size + 1 < w1.heap.size := World.block_lt_of_cell? w1 _ n1
  have lt3 : w.heap.size + 1 + 1 < w1.heap.size := World.block_lt_of_cell? w1 _ n2
  have p0 := (B2.cell (p := ⟨w.heap.size, 0, none⟩) lt1).trans m0
  have p1 := (B2.cell (p := ⟨w.heap.size, 1, none⟩) lt1).trans m1
  have p2 := (B2.cell (p := ⟨w.heap.size, 2, none⟩) lt1).trans m2
  have p3 := (B2.cell (p := ⟨w.heap.size, 3, none⟩) lt1).trans m3
  have p4 := (B2.cell (p := ⟨w.heap.size, 4, none⟩) lt1).trans m4
  have p5 := (B2.cell (p := ⟨w.heap.size, 5, none⟩) lt1).trans m5
  have p6 := (B2.cell (p := ⟨w.heap.size, 6, none⟩) lt1).trans m6
  have p7 := (B2.cell (p := ⟨w.heap.size, 7, none⟩) lt1).trans m7
  have p8 := (B2.cell (p := ⟨w.heap.size, 8, none⟩) lt1).trans m8
  have p9 := (B2.cell (p := ⟨w.heap.size, 9, none⟩) lt1).trans m9
  have q2 := (B2.cell (p := ⟨w.heap.size + 1 + 1, 0, none⟩) lt3).trans n2
  clear B2
  go_wp2_with fail
  refine (HG _).mono ?_
  rintro e w3 ⟨rfl, B3⟩
  have S3 : Hid _ := B3
  have lt4 : w.heap.size < w2.heap.size := World.block_lt_of_cell? w2 _ p0
  have lt5 : w.heap.size + 1 + 1 < w2.heap.size := World.block_lt_of_cell? w2 _ q2
  have s5 := (B3.cell (p := ⟨w.heap.size, 5, none⟩) lt4).trans p5
  have s7 := (B3.cell (p := ⟨w.heap.size, 7, none⟩) lt4).trans p7
  have s9 := (B3.cell (p := ⟨w.heap.size, 9, none⟩) lt4).trans p9
  have t2 := (B3.cell (p := ⟨w.heap.size + 1 + 1, 0, none⟩) lt5).trans q2
  clear B3
  go_wp2
  go_ret
  exact ⟨rfl, below2 (below2 HB S2.out) S3.out⟩
set_option maxRecDepth 100000 in
set_option maxHeartbeats 2000000 in
theorem may_b4 (uu ev : Nat) (role c k r : Int) (cl : Bool) (b nw g : Int) (M x : Int) (hM : max c nw = M) (hx : IntKind.i64.wrap (M - 1) = x) (hr0 : role ≠ 254) (hr : role = 255) (hu : uu ≠ 0) (hk : Lay.checkI c k r = 0) (hg : growB ⟨uu, ev, role, c, k, r, cl, b, nw, g⟩ = true) (hb : upB b r = false) (w : World) :
    Calls Try.prog 24 #[supV ⟨uu, ev, role, c, k, r, cl, b, nw, g⟩] w fun e w' => e = .returned (.bool false) ∧ Below w.heap.size w w' := by
  have hmax := max_run c nw M hM
  have HK := fun W => Check_any c k r W
  have HG := fun W => mayGrow_any uu ev role c k r cl b nw g W
  have HST : Hid _ := may_start w ⟨uu, ev, role, c, k, r, cl, b, nw, g⟩ x r
  have U1 := fun a W h => upTo1_any role x a W h
  have U2 := fun a W h => upTo1_any b r a W h
  have U3 := fun a W h => upTo1_any g r a W h
  have r1' : (role == 254) = false := by simp [hr0]
  have r2' : (role == 255) = true := by simp [hr]
  have u1 : ((uu : Int) != 0) = true := by simp; omega
  obtain ⟨ck, hck⟩ : ∃ ck, Lay.checkI c k r = ck := ⟨_, rfl⟩
  obtain ⟨gr, hgr⟩ : ∃ gr, growB ⟨uu, ev, role, c, k, r, cl, b, nw, g⟩ = gr := ⟨_, rfl⟩
  obtain ⟨R, hRR⟩ : ∃ R, upB role x = R := ⟨_, rfl⟩
  obtain ⟨B, hBB⟩ : ∃ B, upB b r = B := ⟨_, rfl⟩
  rw [hck] at hk
  rw [hgr] at hg
  rw [hBB] at hb
  rw [hck] at HK; rw [hgr] at HG; rw [hRR] at U1; rw [hBB] at U2
  have c1 : (ck == 0) = true := by simp [hk]
  subst hg
  subst hb
  unfold supV at *
  unfold geoV at HK
  dsimp only at HST HG ⊢
  clear hck hgr hRR hBB hM hr hu hr0 hk
  go_enter Try.func24, Try.ntmps24
  go_wp2_with fail
  refine (upTo_any x _).mono ?_
  rintro e w' ⟨rfl, rfl⟩
  go_wp2_with fail
  refine (upTo_any r _).mono ?_
  rintro e w1 ⟨rfl, hw1⟩
  have HS := HST.out
  rw [← hw1] at HS
  simp only [World.size_alloc]
  clear HST hw1
  obtain ⟨⟨m0, m1, m2, m3, m4, m5, m6, m7, m8, m9⟩, n1, n2, HB⟩ := HS
  simp only [Nat.zero_add] at m1 m2 m3 m4 m5 m6 m7 m8 m9
  dsimp only at m0 m1 m2 m3 m4 m5 m6 m7 m8 m9
  go_wp2_with fail
  refine (HK _).mono ?_
  rintro e w2 ⟨rfl, B2⟩
  have S2 : Hid _ := B2
  have lt1 : w.heap.size < w1.heap.size := World.block_lt_of_cell? w1 _ m0
  have lt2 : w.heap.size + 1 < w1.heap.size := World.block_lt_of_cell? w1 _ n1
  have lt3 : w.heap.size + 1 + 1 < w1.heap.size := World.block_lt_of_cell? w1 _ n2
  have p0 := (B2.cell (p := ⟨w.heap.size, 0, none⟩) lt1).trans m0
  have p1 := (B2.cell (p := ⟨w.heap.size, 1, none⟩) lt1).trans m1
  have p2 := (B2.cell (p := ⟨w.heap.size, 2, none⟩) lt1).trans m2
  have p3 := (B2.cell (p := ⟨w.heap.size, 3, none⟩) lt1).trans m3
  have p4 := (B2.cell (p := ⟨w.heap.size, 4, none⟩) lt1).trans m4
  have p5 := (B2.cell (p := ⟨w.heap.size, 5, none⟩) lt1).trans m5
  have p6 := (B2.cell (p := ⟨w.heap.size, 6, none⟩) lt1).trans m6
  have p7 := (B2.cell (p := ⟨w.heap.size, 7, none⟩) lt1).trans m7
  have p8 := (B2.cell (p := ⟨w.heap.size, 8, none⟩) lt1).trans m8
  have p9 := (B2.cell (p := ⟨w.heap.size, 9, none⟩) lt1).trans m9
  have q2 := (B2.cell (p := ⟨w.heap.size + 1 + 1, 0, none⟩) lt3).trans n2
  clear B2
  go_wp2_with fail
  refine (HG _).mono ?_
  rintro e w3 ⟨rfl, B3⟩
  have S3 : Hid _ := B3
  have lt4 : w.heap.size < w2.heap.size := World.block_lt_of_cell? w2 _ p0
  have lt5 : w.heap.size + 1 + 1 < w2.heap.size := World.block_lt_of_cell? w2 _ q2
  have s5 := (B3.cell (p := ⟨w.heap.size, 5, none⟩) lt4).trans p5
  have s7 := (B3.cell (p := ⟨w.heap.size, 7, none⟩) lt4).trans p7
  have s9 := (B3.cell (p := ⟨w.heap.size, 9, none⟩) lt4).trans p9
  have t2 := (B3.cell (p := ⟨w.heap.size + 1 + 1, 0, none⟩) lt5).trans q2
  clear B3
  go_wp2_with fail
  refine (U2 _ _ t2).mono ?_
  rintro e w' ⟨rfl, hw'⟩
  replace hw' := hw'.symm
  subst hw'
  go_wp2
  go_ret
  exact ⟨rfl, below2 (below2 HB S2.out) S3.out⟩
set_option maxRecDepth 100000 in
set_option maxHeartbeats 2000000 in
theorem may_b5 (uu ev : Nat) (role c k r : Int) (cl : Bool) (b nw g : Int) (M x : Int) (hM : max c nw = M) (hx : IntKind.i64.wrap (M - 1) = x) (hr0 : role ≠ 254) (hr : role = 255) (hu : uu ≠ 0) (hk : Lay.checkI c k r = 0) (hg : growB ⟨uu, ev, role, c, k, r, cl, b, nw, g⟩ = true) (hb : upB b r = true) (w : World) :
    Calls Try.prog 24 #[supV ⟨uu, ev, role, c, k, r, cl, b, nw, g⟩] w fun e w' => e = .returned (.bool (upB g r)) ∧ Below w.heap.size w w' := by
  have hmax := max_run c nw M hM
  have HK := fun W => Check_any c k r W
  have HG := fun W => mayGrow_any uu ev role c k r cl b nw g W
  have HST : Hid _ := may_start w ⟨uu, ev, role, c, k, r, cl, b, nw, g⟩ x r
  have U1 := fun a W h => upTo1_any role x a W h
  have U2 := fun a W h => upTo1_any b r a W h
  have U3 := fun a W h => upTo1_any g r a W h
  have r1' : (role == 254) = false := by simp [hr0]
  have r2' : (role == 255) = true := by simp [hr]
  have u1 : ((uu : Int) != 0) = true := by simp; omega
  obtain ⟨ck, hck⟩ : ∃ ck, Lay.checkI c k r = ck := ⟨_, rfl⟩
  obtain ⟨gr, hgr⟩ : ∃ gr, growB ⟨uu, ev, role, c, k, r, cl, b, nw, g⟩ = gr := ⟨_, rfl⟩
  obtain ⟨R, hRR⟩ : ∃ R, upB role x = R := ⟨_, rfl⟩
  obtain ⟨B, hBB⟩ : ∃ B, upB b r = B := ⟨_, rfl⟩
  rw [hck] at hk
  rw [hgr] at hg
  rw [hBB] at hb
  rw [hck] at HK; rw [hgr] at HG; rw [hRR] at U1; rw [hBB] at U2
  have c1 : (ck == 0) = true := by simp [hk]
  subst hg
  subst hb
  unfold supV at *
  unfold geoV at HK
  dsimp only at HST HG ⊢
  clear hck hgr hRR hBB hM hr hu hr0 hk
  go_enter Try.func24, Try.ntmps24
  go_wp2_with fail
  refine (upTo_any x _).mono ?_
  rintro e w' ⟨rfl, rfl⟩
  go_wp2_with fail
  refine (upTo_any r _).mono ?_
  rintro e w1 ⟨rfl, hw1⟩
  have HS := HST.out
  rw [← hw1] at HS
  simp only [World.size_alloc]
  clear HST hw1
  obtain ⟨⟨m0, m1, m2, m3, m4, m5, m6, m7, m8, m9⟩, n1, n2, HB⟩ := HS
  simp only [Nat.zero_add] at m1 m2 m3 m4 m5 m6 m7 m8 m9
  dsimp only at m0 m1 m2 m3 m4 m5 m6 m7 m8 m9
  go_wp2_with fail
  refine (HK _).mono ?_
  rintro e w2 ⟨rfl, B2⟩
  have S2 : Hid _ := B2
  have lt1 : w.heap.size < w1.heap.size := World.block_lt_of_cell? w1 _ m0
  have lt2 : w.heap.size + 1 < w1.heap.size := World.block_lt_of_cell? w1 _ n1
  have lt3 : w.heap.size + 1 + 1 < w1.heap.size := World.block_lt_of_cell? w1 _ n2
  have p0 := (B2.cell (p := ⟨w.heap.size, 0, none⟩) lt1).trans m0
  have p1 := (B2.cell (p := ⟨w.heap.size, 1, none⟩) lt1).trans m1
  have p2 := (B2.cell (p := ⟨w.heap.size, 2, none⟩) lt1).trans m2
  have p3 := (B2.cell (p := ⟨w.heap.size, 3, none⟩) lt1).trans m3
  have p4 := (B2.cell (p := ⟨w.heap.size, 4, none⟩) lt1).trans m4
  have p5 := (B2.cell (p := ⟨w.heap.size, 5, none⟩) lt1).trans m5
  have p6 := (B2.cell (p := ⟨w.heap.size, 6, none⟩) lt1).trans m6
  have p7 := (B2.cell (p := ⟨w.heap.size, 7, none⟩) lt1).trans m7
  have p8 := (B2.cell (p := ⟨w.heap.size, 8, none⟩) lt1).trans m8
  have p9 := (B2.cell (p := ⟨w.heap.size, 9, none⟩) lt1).trans m9
  have q2 := (B2.cell (p := ⟨w.heap.size + 1 + 1, 0, none⟩) lt3).trans n2
  clear B2
  go_wp2_with fail
  refine (HG _).mono ?_
  rintro e w3 ⟨rfl, B3⟩
  have S3 : Hid _ := B3
  have lt4 : w.heap.size < w2.heap.size := World.block_lt_of_cell? w2 _ p0
  have lt5 : w.heap.size + 1 + 1 < w2.heap.size := World.block_lt_of_cell? w2 _ q2
  have s5 := (B3.cell (p := ⟨w.heap.size, 5, none⟩) lt4).trans p5
  have s7 := (B3.cell (p := ⟨w.heap.size, 7, none⟩) lt4).trans p7
  have s9 := (B3.cell (p := ⟨w.heap.size, 9, none⟩) lt4).trans p9
  have t2 := (B3.cell (p := ⟨w.heap.size + 1 + 1, 0, none⟩) lt5).trans q2
  clear B3
  go_wp2_with fail
  refine (U2 _ _ t2).mono ?_
  rintro e w' ⟨rfl, hw'⟩
  replace hw' := hw'.symm
  subst hw'
  go_wp2_with fail
  refine (U3 _ _ t2).mono ?_
  rintro e w' ⟨rfl, hw'⟩
  replace hw' := hw'.symm
  subst hw'
  go_wp2
  go_ret
  exact ⟨rfl, below2 (below2 HB S2.out) S3.out⟩
set_option maxRecDepth 100000 in
set_option maxHeartbeats 2000000 in
theorem may_c0 (uu ev : Nat) (role c k r : Int) (cl : Bool) (b nw g : Int) (M x : Int) (hM : max c nw = M) (hx : IntKind.i64.wrap (M - 1) = x) (hr0 : role ≠ 254) (hr : role ≠ 255) (hu : uu = 0) (w : World) :
    Calls Try.prog 24 #[supV ⟨uu, ev, role, c, k, r, cl, b, nw, g⟩] w fun e w' => e = .returned (.bool false) ∧ Below w.heap.size w w' := by
  have hmax := max_run c nw M hM
  have HK := fun W => Check_any c k r W
  have HG := fun W => mayGrow_any uu ev role c k r cl b nw g W
  have HST : Hid _ := may_start w ⟨uu, ev, role, c, k, r, cl, b, nw, g⟩ x r
  have U1 := fun a W h => upTo1_any role x a W h
  have U2 := fun a W h => upTo1_any b r a W h
  have U3 := fun a W h => upTo1_any g r a W h
  have r1' : (role == 254) = false := by simp [hr0]
  have r2' : (role == 255) = false := by simp [hr]
  have u1 : ((uu : Int) != 0) = false := by simp [hu]
  obtain ⟨ck, hck⟩ : ∃ ck, Lay.checkI c k r = ck := ⟨_, rfl⟩
  obtain ⟨gr, hgr⟩ : ∃ gr, growB ⟨uu, ev, role, c, k, r, cl, b, nw, g⟩ = gr := ⟨_, rfl⟩
  obtain ⟨R, hRR⟩ : ∃ R, upB role x = R := ⟨_, rfl⟩
  obtain ⟨B, hBB⟩ : ∃ B, upB b r = B := ⟨_, rfl⟩
  rw [hck] at HK; rw [hgr] at HG; rw [hRR] at U1; rw [hBB] at U2
  unfold supV at *
  unfold geoV at HK
  dsimp only at HST HG ⊢
  clear hck hgr hRR hBB hM hr hu hr0
  go_enter Try.func24, Try.ntmps24
  go_wp2_with fail
  refine (upTo_any x _).mono ?_
  rintro e w' ⟨rfl, rfl⟩
  go_wp2_with fail
  refine (upTo_any r _).mono ?_
  rintro e w1 ⟨rfl, hw1⟩
  have HS := HST.out
  rw [← hw1] at HS
  simp only [World.size_alloc]
  clear HST hw1
  obtain ⟨⟨m0, m1, m2, m3, m4, m5, m6, m7, m8, m9⟩, n1, n2, HB⟩ := HS
  simp only [Nat.zero_add] at m1 m2 m3 m4 m5 m6 m7 m8 m9
  dsimp only at m0 m1 m2 m3 m4 m5 m6 m7 m8 m9
  go_wp2_with fail
  refine (U1 _ _ n1).mono ?_
  rintro e w' ⟨rfl, hw'⟩
  replace hw' := hw'.symm
  subst hw'
  go_wp2
  go_ret
  exact ⟨rfl, HB⟩
set_option maxRecDepth 100000 in
set_option maxHeartbeats 2000000 in
theorem may_c1 (uu ev : Nat) (role c k r : Int) (cl : Bool) (b nw g : Int) (M x : Int) (hM : max c nw = M) (hx : IntKind.i64.wrap (M - 1) = x) (hr0 : role ≠ 254) (hr : role ≠ 255) (hu : uu ≠ 0) (hk : Lay.checkI c k r ≠ 0) (w : World) :
    Calls Try.prog 24 #[supV ⟨uu, ev, role, c, k, r, cl, b, nw, g⟩] w fun e w' => e = .returned (.bool false) ∧ Below w.heap.size w w' := by
  have hmax := max_run c nw M hM
  have HK := fun W => Check_any c k r W
  have HG := fun W => mayGrow_any uu ev role c k r cl b nw g W
  have HST : Hid _ := may_start w ⟨uu, ev, role, c, k, r, cl, b, nw, g⟩ x r
  have U1 := fun a W h => upTo1_any role x a W h
  have U2 := fun a W h => upTo1_any b r a W h
  have U3 := fun a W h => upTo1_any g r a W h
  have r1' : (role == 254) = false := by simp [hr0]
  have r2' : (role == 255) = false := by simp [hr]
  have u1 : ((uu : Int) != 0) = true := by simp; omega
  obtain ⟨ck, hck⟩ : ∃ ck, Lay.checkI c k r = ck := ⟨_, rfl⟩
  obtain ⟨gr, hgr⟩ : ∃ gr, growB ⟨uu, ev, role, c, k, r, cl, b, nw, g⟩ = gr := ⟨_, rfl⟩
  obtain ⟨R, hRR⟩ : ∃ R, upB role x = R := ⟨_, rfl⟩
  obtain ⟨B, hBB⟩ : ∃ B, upB b r = B := ⟨_, rfl⟩
  rw [hck] at hk
  rw [hck] at HK; rw [hgr] at HG; rw [hRR] at U1; rw [hBB] at U2
  have c1 : (ck == 0) = false := by simp [hk]
  unfold supV at *
  unfold geoV at HK
  dsimp only at HST HG ⊢
  clear hck hgr hRR hBB hM hr hu hr0 hk
  go_enter Try.func24, Try.ntmps24
  go_wp2_with fail
  refine (upTo_any x _).mono ?_
  rintro e w' ⟨rfl, rfl⟩
  go_wp2_with fail
  refine (upTo_any r _).mono ?_
  rintro e w1 ⟨rfl, hw1⟩
  have HS := HST.out
  rw [← hw1] at HS
  simp only [World.size_alloc]
  clear HST hw1
  obtain ⟨⟨m0, m1, m2, m3, m4, m5, m6, m7, m8, m9⟩, n1, n2, HB⟩ := HS
  simp only [Nat.zero_add] at m1 m2 m3 m4 m5 m6 m7 m8 m9
  dsimp only at m0 m1 m2 m3 m4 m5 m6 m7 m8 m9
  go_wp2_with fail
  refine (U1 _ _ n1).mono ?_
  rintro e w' ⟨rfl, hw'⟩
  replace hw' := hw'.symm
  subst hw'
  go_wp2_with fail
  refine (HK _).mono ?_
  rintro e w2 ⟨rfl, B2⟩
  have S2 : Hid _ := B2
  have lt1 : w.heap.size < w1.heap.size := World.block_lt_of_cell? w1 _ m0
  have lt2 : w.heap.size + 1 < w1.heap.size := World.block_lt_of_cell? w1 _ n1
  have lt3 : w.heap.size + 1 + 1 < w1.heap.size := World.block_lt_of_cell? w1 _ n2
  have p0 := (B2.cell (p := ⟨w.heap.size, 0, none⟩) lt1).trans m0
  have p1 := (B2.cell (p := ⟨w.heap.size, 1, none⟩) lt1).trans m1
  have p2 := (B2.cell (p := ⟨w.heap.size, 2, none⟩) lt1).trans m2
  have p3 := (B2.cell (p := ⟨w.heap.size, 3, none⟩) lt1).trans m3
  have p4 := (B2.cell (p := ⟨w.heap.size, 4, none⟩) lt1).trans m4
  have p5 := (B2.cell (p := ⟨w.heap.size, 5, none⟩) lt1).trans m5
  have p6 := (B2.cell (p := ⟨w.heap.size, 6, none⟩) lt1).trans m6
  have p7 := (B2.cell (p := ⟨w.heap.size, 7, none⟩) lt1).trans m7
  have p8 := (B2.cell (p := ⟨w.heap.size, 8, none⟩) lt1).trans m8
  have p9 := (B2.cell (p := ⟨w.heap.size, 9, none⟩) lt1).trans m9
  have q2 := (B2.cell (p := ⟨w.heap.size + 1 + 1, 0, none⟩) lt3).trans n2
  clear B2
  go_wp2
  go_ret
  exact ⟨rfl, below2 HB S2.out⟩
set_option maxRecDepth 100000 in
set_option maxHeartbeats 2000000 in
theorem may_c2 (uu ev : Nat) (role c k r : Int) (cl : Bool) (b nw g : Int) (M x : Int) (hM : max c nw = M) (hx : IntKind.i64.wrap (M - 1) = x) (hr0 : role ≠ 254) (hr : role ≠ 255) (hu : uu ≠ 0) (hk : Lay.checkI c k r = 0) (hg : growB ⟨uu, ev, role, c, k, r, cl, b, nw, g⟩ = false) (w : World) :
    Calls Try.prog 24 #[supV ⟨uu, ev, role, c, k, r, cl, b, nw, g⟩] w fun e w' => e = .returned (.bool false) ∧ Below w.heap.size w w' := by
  have hmax := max_run c nw M hM
  have HK := fun W => Check_any c k r W
  have HG := fun W => mayGrow_any uu ev role c k r cl b nw g W
  have HST : Hid _ := may_start w ⟨uu, ev, role, c, k, r, cl, b, nw, g⟩ x r
  have U1 := fun a W h => upTo1_any role x a W h
  have U2 := fun a W h => upTo1_any b r a W h
  have U3 := fun a W h => upTo1_any g r a W h
  have r1' : (role == 254) = false := by simp [hr0]
  have r2' : (role == 255) = false := by simp [hr]
  have u1 : ((uu : Int) != 0) = true := by simp; omega
  obtain ⟨ck, hck⟩ : ∃ ck, Lay.checkI c k r = ck := ⟨_, rfl⟩
  obtain ⟨gr, hgr⟩ : ∃ gr, growB ⟨uu, ev, role, c, k, r, cl, b, nw, g⟩ = gr := ⟨_, rfl⟩
  obtain ⟨R, hRR⟩ : ∃ R, upB role x = R := ⟨_, rfl⟩
  obtain ⟨B, hBB⟩ : ∃ B, upB b r = B := ⟨_, rfl⟩
  rw [hck] at hk
  rw [hgr] at hg
  rw [hck] at HK; rw [hgr] at HG; rw [hRR] at U1; rw [hBB] at U2
  have c1 : (ck == 0) = true := by simp [hk]
  subst hg
  unfold supV at *
  unfold geoV at HK
  dsimp only at HST HG ⊢
  clear hck hgr hRR hBB hM hr hu hr0 hk
  go_enter Try.func24, Try.ntmps24
  go_wp2_with fail
  refine (upTo_any x _).mono ?_
  rintro e w' ⟨rfl, rfl⟩
  go_wp2_with fail
  refine (upTo_any r _).mono ?_
  rintro e w1 ⟨rfl, hw1⟩
  have HS := HST.out
  rw [← hw1] at HS
  simp only [World.size_alloc]
  clear HST hw1
  obtain ⟨⟨m0, m1, m2, m3, m4, m5, m6, m7, m8, m9⟩, n1, n2, HB⟩ := HS
  simp only [Nat.zero_add] at m1 m2 m3 m4 m5 m6 m7 m8 m9
  dsimp only at m0 m1 m2 m3 m4 m5 m6 m7 m8 m9
  go_wp2_with fail
  refine (U1 _ _ n1).mono ?_
  rintro e w' ⟨rfl, hw'⟩
  replace hw' := hw'.symm
  subst hw'
  go_wp2_with fail
  refine (HK _).mono ?_
  rintro e w2 ⟨rfl, B2⟩
  have S2 : Hid _ := B2
  have lt1 : w.heap.size < w1.heap.size := World.block_lt_of_cell? w1 _ m0
  have lt2 : w.heap.size + 1 < w1.heap.size := World.block_lt_of_cell? w1 _ n1
  have lt3 : w.heap.size + 1 + 1 < w1.heap.size := World.block_lt_of_cell? w1 _ n2
  have p0 := (B2.cell (p := ⟨w.heap.size, 0, none⟩) lt1).trans m0
  have p1 := (B2.cell (p := ⟨w.heap.size, 1, none⟩) lt1).trans m1
  have p2 := (B2.cell (p := ⟨w.heap.size, 2, none⟩) lt1).trans m2
  have p3 := (B2.cell (p := ⟨w.heap.size, 3, none⟩) lt1).trans m3
  have p4 := (B2.cell (p := ⟨w.heap.size, 4, none⟩) lt1).trans m4
  have p5 := (B2.cell (p := ⟨w.heap.size, 5, none⟩) lt1).trans m5
  have p6 := (B2.cell (p := ⟨w.heap.size, 6, none⟩) lt1).trans m6
  have p7 := (B2.cell (p := ⟨w.heap.size, 7, none⟩) lt1).trans m7
  have p8 := (B2.cell (p := ⟨w.heap.size, 8, none⟩) lt1).trans m8
  have p9 := (B2.cell (p := ⟨w.heap.size, 9, none⟩) lt1).trans m9
  have q2 := (B2.cell (p := ⟨w.heap.size + 1 + 1, 0, none⟩) lt3).trans n2
  clear B2
  go_wp2_with fail
  refine (HG _).mono ?_
  rintro e w3 ⟨rfl, B3⟩
  have S3 : Hid _ := B3
  have lt4 : w.heap.size < w2.heap.size := World.block_lt_of_cell? w2 _ p0
  have lt5 : w.heap.size + 1 + 1 < w2.heap.size := World.block_lt_of_cell? w2 _ q2
  have s5 := (B3.cell (p := ⟨w.heap.size, 5, none⟩) lt4).trans p5
  have s7 := (B3.cell (p := ⟨w.heap.size, 7, none⟩) lt4).trans p7
  have s9 := (B3.cell (p := ⟨w.heap.size, 9, none⟩) lt4).trans p9
  have t2 := (B3.cell (p := ⟨w.heap.size + 1 + 1, 0, none⟩) lt5).trans q2
  clear B3
  go_wp2
  go_ret
  exact ⟨rfl, below2 (below2 HB S2.out) S3.out⟩
set_option maxRecDepth 100000 in
set_option maxHeartbeats 2000000 in
theorem may_c3 (uu ev : Nat) (role c k r : Int) (cl : Bool) (b nw g : Int) (M x : Int) (hM : max c nw = M) (hx : IntKind.i64.wrap (M - 1) = x) (hr0 : role ≠ 254) (hr : role ≠ 255) (hu : uu ≠ 0) (hk : Lay.checkI c k r = 0) (hg : growB ⟨uu, ev, role, c, k, r, cl, b, nw, g⟩ = true) (hR : upB role x = false) (w : World) :
    Calls Try.prog 24 #[supV ⟨uu, ev, role, c, k, r, cl, b, nw, g⟩] w fun e w' => e = .returned (.bool false) ∧ Below w.heap.size w w' := by
  have hmax := max_run c nw M hM
  have HK := fun W => Check_any c k r W
  have HG := fun W => mayGrow_any uu ev role c k r cl b nw g W
  have HST : Hid _ := may_start w ⟨uu, ev, role, c, k, r, cl, b, nw, g⟩ x r
  have U1 := fun a W h => upTo1_any role x a W h
  have U2 := fun a W h => upTo1_any b r a W h
  have U3 := fun a W h => upTo1_any g r a W h
  have r1' : (role == 254) = false := by simp [hr0]
  have r2' : (role == 255) = false := by simp [hr]
  have u1 : ((uu : Int) != 0) = true := by simp; omega
  obtain ⟨ck, hck⟩ : ∃ ck, Lay.checkI c k r = ck := ⟨_, rfl⟩
  obtain ⟨gr, hgr⟩ : ∃ gr, growB ⟨uu, ev, role, c, k, r, cl, b, nw, g⟩ = gr := ⟨_, rfl⟩
  obtain ⟨R, hRR⟩ : ∃ R, upB role x = R := ⟨_, rfl⟩
  obtain ⟨B, hBB⟩ : ∃ B, upB b r = B := ⟨_, rfl⟩
  rw [hck] at hk
  rw [hgr] at hg
  rw [hRR] at hR
  rw [hck] at HK; rw [hgr] at HG; rw [hRR] at U1; rw [hBB] at U2
  have c1 : (ck == 0) = true := by simp [hk]
  subst hg
  subst hR
  unfold supV at *
  unfold geoV at HK
  dsimp only at HST HG ⊢
  clear hck hgr hRR hBB hM hr hu hr0 hk
  go_enter Try.func24, Try.ntmps24
  go_wp2_with fail
  refine (upTo_any x _).mono ?_
  rintro e w' ⟨rfl, rfl⟩
  go_wp2_with fail
  refine (upTo_any r _).mono ?_
  rintro e w1 ⟨rfl, hw1⟩
  have HS := HST.out
  rw [← hw1] at HS
  simp only [World.size_alloc]
  clear HST hw1
  obtain ⟨⟨m0, m1, m2, m3, m4, m5, m6, m7, m8, m9⟩, n1, n2, HB⟩ := HS
  simp only [Nat.zero_add] at m1 m2 m3 m4 m5 m6 m7 m8 m9
  dsimp only at m0 m1 m2 m3 m4 m5 m6 m7 m8 m9
  go_wp2_with fail
  refine (U1 _ _ n1).mono ?_
  rintro e w' ⟨rfl, hw'⟩
  replace hw' := hw'.symm
  subst hw'
  go_wp2_with fail
  refine (HK _).mono ?_
  rintro e w2 ⟨rfl, B2⟩
  have S2 : Hid _ := B2
  have lt1 : w.heap.size < w1.heap.size := World.block_lt_of_cell? w1 _ m0
  have lt2 : w.heap.size + 1 < w1.heap.size := World.block_lt_of_cell? w1 _ n1
  have lt3 : w.heap.size + 1 + 1 < w1.heap.size := World.block_lt_of_cell? w1 _ n2
  have p0 := (B2.cell (p := ⟨w.heap.size, 0, none⟩) lt1).trans m0
  have p1 := (B2.cell (p := ⟨w.heap.size, 1, none⟩) lt1).trans m1
  have p2 := (B2.cell (p := ⟨w.heap.size, 2, none⟩) lt1).trans m2
  have p3 := (B2.cell (p := ⟨w.heap.size, 3, none⟩) lt1).trans m3
  have p4 := (B2.cell (p := ⟨w.heap.size, 4, none⟩) lt1).trans m4
  have p5 := (B2.cell (p := ⟨w.heap.size, 5, none⟩) lt1).trans m5
  have p6 := (B2.cell (p := ⟨w.heap.size, 6, none⟩) lt1).trans m6
  have p7 := (B2.cell (p := ⟨w.heap.size, 7, none⟩) lt1).trans m7
  have p8 := (B2.cell (p := ⟨w.heap.size, 8, none⟩) lt1).trans m8
  have p9 := (B2.cell (p := ⟨w.heap.size, 9, none⟩) lt1).trans m9
  have q2 := (B2.cell (p := ⟨w.heap.size + 1 + 1, 0, none⟩) lt3).trans n2
  clear B2
  go_wp2_with fail
  refine (HG _).mono ?_
  rintro e w3 ⟨rfl, B3⟩
  have S3 : Hid _ := B3
  have lt4 : w.heap.size < w2.heap.size := World.block_lt_of_cell? w2 _ p0
  have lt5 : w.heap.size + 1 + 1 < w2.heap.size := World.block_lt_of_cell? w2 _ q2
  have s5 := (B3.cell (p := ⟨w.heap.size, 5, none⟩) lt4).trans p5
  have s7 := (B3.cell (p := ⟨w.heap.size, 7, none⟩) lt4).trans p7
  have s9 := (B3.cell (p := ⟨w.heap.size, 9, none⟩) lt4).trans p9
  have t2 := (B3.cell (p := ⟨w.heap.size + 1 + 1, 0, none⟩) lt5).trans q2
  clear B3
  go_wp2
  go_ret
  exact ⟨rfl, below2 (below2 HB S2.out) S3.out⟩
set_option maxRecDepth 100000 in
set_option maxHeartbeats 2000000 in
theorem may_c4 (uu ev : Nat) (role c k r : Int) (cl : Bool) (b nw g : Int) (M x : Int) (hM : max c nw = M) (hx : IntKind.i64.wrap (M - 1) = x) (hr0 : role ≠ 254) (hr : role ≠ 255) (hu : uu ≠ 0) (hk : Lay.checkI c k r = 0) (hg : growB ⟨uu, ev, role, c, k, r, cl, b, nw, g⟩ = true) (hR : upB role x = true) (hb : upB b r = false) (w : World) :
    Calls Try.prog 24 #[supV ⟨uu, ev, role, c, k, r, cl, b, nw, g⟩] w fun e w' => e = .returned (.bool false) ∧ Below w.heap.size w w' := by
  have hmax := max_run c nw M hM
  have HK := fun W => Check_any c k r W
  have HG := fun W => mayGrow_any uu ev role c k r cl b nw g W
  have HST : Hid _ := may_start w ⟨uu, ev, role, c, k, r, cl, b, nw, g⟩ x r
  have U1 := fun a W h => upTo1_any role x a W h
  have U2 := fun a W h => upTo1_any b r a W h
  have U3 := fun a W h => upTo1_any g r a W h
  have r1' : (role == 254) = false := by simp [hr0]
  have r2' : (role == 255) = false := by simp [hr]
  have u1 : ((uu : Int) != 0) = true := by simp; omega
  obtain ⟨ck, hck⟩ : ∃ ck, Lay.checkI c k r = ck := ⟨_, rfl⟩
  obtain ⟨gr, hgr⟩ : ∃ gr, growB ⟨uu, ev, role, c, k, r, cl, b, nw, g⟩ = gr := ⟨_, rfl⟩
  obtain ⟨R, hRR⟩ : ∃ R, upB role x = R := ⟨_, rfl⟩
  obtain ⟨B, hBB⟩ : ∃ B, upB b r = B := ⟨_, rfl⟩
  rw [hck] at hk
  rw [hgr] at hg
  rw [hRR] at hR
  rw [hBB] at hb
  rw [hck] at HK; rw [hgr] at HG; rw [hRR] at U1; rw [hBB] at U2
  have c1 : (ck == 0) = true := by simp [hk]
  subst hg
  subst hR
  subst hb
  unfold supV at *
  unfold geoV at HK
  dsimp only at HST HG ⊢
  clear hck hgr hRR hBB hM hr hu hr0 hk
  go_enter Try.func24, Try.ntmps24
  go_wp2_with fail
  refine (upTo_any x _).mono ?_
  rintro e w' ⟨rfl, rfl⟩
  go_wp2_with fail
  refine (upTo_any r _).mono ?_
  rintro e w1 ⟨rfl, hw1⟩
  have HS := HST.out
  rw [← hw1] at HS
  simp only [World.size_alloc]
  clear HST hw1
  obtain ⟨⟨m0, m1, m2, m3, m4, m5, m6, m7, m8, m9⟩, n1, n2, HB⟩ := HS
  simp only [Nat.zero_add] at m1 m2 m3 m4 m5 m6 m7 m8 m9
  dsimp only at m0 m1 m2 m3 m4 m5 m6 m7 m8 m9
  go_wp2_with fail
  refine (U1 _ _ n1).mono ?_
  rintro e w' ⟨rfl, hw'⟩
  replace hw' := hw'.symm
  subst hw'
  go_wp2_with fail
  refine (HK _).mono ?_
  rintro e w2 ⟨rfl, B2⟩
  have S2 : Hid _ := B2
  have lt1 : w.heap.size < w1.heap.size := World.block_lt_of_cell? w1 _ m0
  have lt2 : w.heap.size + 1 < w1.heap.size := World.block_lt_of_cell? w1 _ n1
  have lt3 : w.heap.size + 1 + 1 < w1.heap.size := World.block_lt_of_cell? w1 _ n2
  have p0 := (B2.cell (p := ⟨w.heap.size, 0, none⟩) lt1).trans m0
  have p1 := (B2.cell (p := ⟨w.heap.size, 1, none⟩) lt1).trans m1
  have p2 := (B2.cell (p := ⟨w.heap.size, 2, none⟩) lt1).trans m2
  have p3 := (B2.cell (p := ⟨w.heap.size, 3, none⟩) lt1).trans m3
  have p4 := (B2.cell (p := ⟨w.heap.size, 4, none⟩) lt1).trans m4
  have p5 := (B2.cell (p := ⟨w.heap.size, 5, none⟩) lt1).trans m5
  have p6 := (B2.cell (p := ⟨w.heap.size, 6, none⟩) lt1).trans m6
  have p7 := (B2.cell (p := ⟨w.heap.size, 7, none⟩) lt1).trans m7
  have p8 := (B2.cell (p := ⟨w.heap.size, 8, none⟩) lt1).trans m8
  have p9 := (B2.cell (p := ⟨w.heap.size, 9, none⟩) lt1).trans m9
  have q2 := (B2.cell (p := ⟨w.heap.size + 1 + 1, 0, none⟩) lt3).trans n2
  clear B2
  go_wp2_with fail
  refine (HG _).mono ?_
  rintro e w3 ⟨rfl, B3⟩
  have S3 : Hid _ := B3
  have lt4 : w.heap.size < w2.heap.size := World.block_lt_of_cell? w2 _ p0
  have lt5 : w.heap.size + 1 + 1 < w2.heap.size := World.block_lt_of_cell? w2 _ q2
  have s5 := (B3.cell (p := ⟨w.heap.size, 5, none⟩) lt4).trans p5
  have s7 := (B3.cell (p := ⟨w.heap.size, 7, none⟩) lt4).trans p7
  have s9 := (B3.cell (p := ⟨w.heap.size, 9, none⟩) lt4).trans p9
  have t2 := (B3.cell (p := ⟨w.heap.size + 1 + 1, 0, none⟩) lt5).trans q2
  clear B3
  go_wp2_with fail
  refine (U2 _ _ t2).mono ?_
  rintro e w' ⟨rfl, hw'⟩
  replace hw' := hw'.symm
  subst hw'
  go_wp2
  go_ret
  exact ⟨rfl, below2 (below2 HB S2.out) S3.out⟩
set_option maxRecDepth 100000 in
set_option maxHeartbeats 2000000 in
theorem may_c5 (uu ev : Nat) (role c k r : Int) (cl : Bool) (b nw g : Int) (M x : Int) (hM : max c nw = M) (hx : IntKind.i64.wrap (M - 1) = x) (hr0 : role ≠ 254) (hr : role ≠ 255) (hu : uu ≠ 0) (hk : Lay.checkI c k r = 0) (hg : growB ⟨uu, ev, role, c, k, r, cl, b, nw, g⟩ = true) (hR : upB role x = true) (hb : upB b r = true) (w : World) :
    Calls Try.prog 24 #[supV ⟨uu, ev, role, c, k, r, cl, b, nw, g⟩] w fun e w' => e = .returned (.bool (upB g r)) ∧ Below w.heap.size w w' := by
  have hmax := max_run c nw M hM
  have HK := fun W => Check_any c k r W
  have HG := fun W => mayGrow_any uu ev role c k r cl b nw g W
  have HST : Hid _ := may_start w ⟨uu, ev, role, c, k, r, cl, b, nw, g⟩ x r
  have U1 := fun a W h => upTo1_any role x a W h
  have U2 := fun a W h => upTo1_any b r a W h
  have U3 := fun a W h => upTo1_any g r a W h
  have r1' : (role == 254) = false := by simp [hr0]
  have r2' : (role == 255) = false := by simp [hr]
  have u1 : ((uu : Int) != 0) = true := by simp; omega
  obtain ⟨ck, hck⟩ : ∃ ck, Lay.checkI c k r = ck := ⟨_, rfl⟩
  obtain ⟨gr, hgr⟩ : ∃ gr, growB ⟨uu, ev, role, c, k, r, cl, b, nw, g⟩ = gr := ⟨_, rfl⟩
  obtain ⟨R, hRR⟩ : ∃ R, upB role x = R := ⟨_, rfl⟩
  obtain ⟨B, hBB⟩ : ∃ B, upB b r = B := ⟨_, rfl⟩
  rw [hck] at hk
  rw [hgr] at hg
  rw [hRR] at hR
  rw [hBB] at hb
  rw [hck] at HK; rw [hgr] at HG; rw [hRR] at U1; rw [hBB] at U2
  have c1 : (ck == 0) = true := by simp [hk]
  subst hg
  subst hR
  subst hb
  unfold supV at *
  unfold geoV at HK
  dsimp only at HST HG ⊢
  clear hck hgr hRR hBB hM hr hu hr0 hk
  go_enter Try.func24, Try.ntmps24
  go_wp2_with fail
  refine (upTo_any x _).mono ?_
  rintro e w' ⟨rfl, rfl⟩
  go_wp2_with fail
  refine (upTo_any r _).mono ?_
  rintro e w1 ⟨rfl, hw1⟩
  have HS := HST.out
  rw [← hw1] at HS
  simp only [World.size_alloc]
  clear HST hw1
  obtain ⟨⟨m0, m1, m2, m3, m4, m5, m6, m7, m8, m9⟩, n1, n2, HB⟩ := HS
  simp only [Nat.zero_add] at m1 m2 m3 m4 m5 m6 m7 m8 m9
  dsimp only at m0 m1 m2 m3 m4 m5 m6 m7 m8 m9
  go_wp2_with fail
  refine (U1 _ _ n1).mono ?_
  rintro e w' ⟨rfl, hw'⟩
  replace hw' := hw'.symm
  subst hw'
  go_wp2_with fail
  refine (HK _).mono ?_
  rintro e w2 ⟨rfl, B2⟩
  have S2 : Hid _ := B2
  have lt1 : w.heap.size < w1.heap.size := World.block_lt_of_cell? w1 _ m0
  have lt2 : w.heap.size + 1 < w1.heap.size := World.block_lt_of_cell? w1 _ n1
  have lt3 : w.heap.size + 1 + 1 < w1.heap.size := World.block_lt_of_cell? w1 _ n2
  have p0 := (B2.cell (p := ⟨w.heap.size, 0, none⟩) lt1).trans m0
  have p1 := (B2.cell (p := ⟨w.heap.size, 1, none⟩) lt1).trans m1
  have p2 := (B2.cell (p := ⟨w.heap.size, 2, none⟩) lt1).trans m2
  have p3 := (B2.cell (p := ⟨w.heap.size, 3, none⟩) lt1).trans m3
  have p4 := (B2.cell (p := ⟨w.heap.size, 4, none⟩) lt1).trans m4
  have p5 := (B2.cell (p := ⟨w.heap.size, 5, none⟩) lt1).trans m5
  have p6 := (B2.cell (p := ⟨w.heap.size, 6, none⟩) lt1).trans m6
  have p7 := (B2.cell (p := ⟨w.heap.size, 7, none⟩) lt1).trans m7
  have p8 := (B2.cell (p := ⟨w.heap.size, 8, none⟩) lt1).trans m8
  have p9 := (B2.cell (p := ⟨w.heap.size, 9, none⟩) lt1).trans m9
  have q2 := (B2.cell (p := ⟨w.heap.size + 1 + 1, 0, none⟩) lt3).trans n2
  clear B2
  go_wp2_with fail
  refine (HG _).mono ?_
  rintro e w3 ⟨rfl, B3⟩
  have S3 : Hid _ := B3
  have lt4 : w.heap.size < w2.heap.size := World.block_lt_of_cell? w2 _ p0
  have lt5 : w.heap.size + 1 + 1 < w2.heap.size := World.block_lt_of_cell? w2 _ q2
  have s5 := (B3.cell (p := ⟨w.heap.size, 5, none⟩) lt4).trans p5
  have s7 := (B3.cell (p := ⟨w.heap.size, 7, none⟩) lt4).trans p7
  have s9 := (B3.cell (p := ⟨w.heap.size, 9, none⟩) lt4).trans p9
  have t2 := (B3.cell (p := ⟨w.heap.size + 1 + 1, 0, none⟩) lt5).trans q2
  clear B3
  go_wp2_with fail
  refine (U2 _ _ t2).mono ?_
  rintro e w' ⟨rfl, hw'⟩
  replace hw' := hw'.symm
  subst hw'
  go_wp2_with fail
  refine (U3 _ _ t2).mono ?_
  rintro e w' ⟨rfl, hw'⟩
  replace hw' := hw'.symm
  subst hw'
  go_wp2
  go_ret
  exact ⟨rfl, below2 (below2 HB S2.out) S3.out⟩

theorem May_any (s : Su) (hn : s.nw ≤ 9223372036854775807) (hc : s.c ≤ 9223372036854775807) (w : World) :
    Calls Try.prog 24 #[supV s] w fun e w' => e = .returned (.bool (Sup.mayB s)) ∧ Below w.heap.size w w' := by
  obtain ⟨uu, ev, role, c, k, r, cl, b, nw, g⟩ := s
  dsimp only at hn hc
  obtain ⟨M, hM⟩ : ∃ M, max c nw = M := ⟨_, rfl⟩
  obtain ⟨x, hx⟩ : ∃ x, IntKind.i64.wrap (M - 1) = x := ⟨_, rfl⟩
  have E : Sup.mayB ⟨uu, ev, role, c, k, r, cl, b, nw, g⟩ = mayW ⟨uu, ev, role, c, k, r, cl, b, nw, g⟩ x := by
    unfold Sup.mayB Sup.may mayW growB upB Lay.checkI
    by_cases ho : Lay.ok c k r
    · have hx' : x = M - 1 := by
        obtain ⟨⟨c1, c2⟩, _⟩ := ho
        rw [← hx, IntKind.wrap_i64]; omega
      subst hx'
      obtain ⟨⟨c1, c2⟩, ⟨k1, k2⟩, r1, r2⟩ := id ho
      rw [Bool.eq_iff_iff]
      simp [ho]
      omega
    · simp [ho]
  rw [E]
  unfold mayW
  by_cases h1 : role = 254
  · by_cases hu : uu = 0
    · simpa [hu] using may_a0 uu ev role c k r cl b nw g M x hM hx h1 hu w
    by_cases hk : Lay.checkI c k r = 0
    case neg => simpa [hk] using may_a1 uu ev role c k r cl b nw g M x hM hx h1 hu hk w
    cases hg : growB ⟨uu, ev, role, c, k, r, cl, b, nw, g⟩
    case false => simpa using may_a2 uu ev role c k r cl b nw g M x hM hx h1 hu hk hg w
    cases hb : upB b r
    case false => simpa using may_a4 uu ev role c k r cl b nw g M x hM hx h1 hu hk hg hb w
    simpa [hu, hk, h1] using may_a5 uu ev role c k r cl b nw g M x hM hx h1 hu hk hg hb w
  · by_cases h2 : role = 255
    · by_cases hu : uu = 0
      · simpa [hu] using may_b0 uu ev role c k r cl b nw g M x hM hx h1 h2 hu w
      by_cases hk : Lay.checkI c k r = 0
      case neg => simpa [hk] using may_b1 uu ev role c k r cl b nw g M x hM hx h1 h2 hu hk w
      cases hg : growB ⟨uu, ev, role, c, k, r, cl, b, nw, g⟩
      case false => simpa using may_b2 uu ev role c k r cl b nw g M x hM hx h1 h2 hu hk hg w
      cases hb : upB b r
      case false => simpa using may_b4 uu ev role c k r cl b nw g M x hM hx h1 h2 hu hk hg hb w
      simpa [hu, hk, h1, h2] using may_b5 uu ev role c k r cl b nw g M x hM hx h1 h2 hu hk hg hb w
    · by_cases hu : uu = 0
      · simpa [hu] using may_c0 uu ev role c k r cl b nw g M x hM hx h1 h2 hu w
      by_cases hk : Lay.checkI c k r = 0
      case neg => simpa [hk] using may_c1 uu ev role c k r cl b nw g M x hM hx h1 h2 hu hk w
      cases hg : growB ⟨uu, ev, role, c, k, r, cl, b, nw, g⟩
      case false => simpa using may_c2 uu ev role c k r cl b nw g M x hM hx h1 h2 hu hk hg w
      cases hR : upB role x
      case false => simpa [h1, h2] using may_c3 uu ev role c k r cl b nw g M x hM hx h1 h2 hu hk hg hR w
      cases hb : upB b r
      case false => simpa using may_c4 uu ev role c k r cl b nw g M x hM hx h1 h2 hu hk hg hR hb w
      simpa [hu, hk, h1, h2] using may_c5 uu ev role c k r cl b nw g M x hM hx h1 h2 hu hk hg hR hb w
end Go.Proofs.Ytgkhnfchohcjeaa
