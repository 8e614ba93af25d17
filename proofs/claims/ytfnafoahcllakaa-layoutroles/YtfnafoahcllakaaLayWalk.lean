/- The walks of the methods of layout's shape. -/
import Derived.Test.YtfnafoahcllakaaKit
import Derived.Test.YtfnafoahcllakaaKitDet
import Derived.BigQuiet
namespace Go.Proofs.Ytfnafoahcllakaa
open Go.RowKit

/-- a geometry, and a shape that embeds it -/
def geoV (c k r : Int) : Value := .agg #[.int .i64 c, .int .i64 k, .int .i64 r]

theorem between_yes (a n b : Int) (h1 : a ≤ n) (h2 : n ≤ b) (w : World) :
    Calls Try.prog 32 #[.int .i64 a, .int .i64 n, .int .i64 b] w fun e w' => e = .returned (.bool true) ∧ w' = w := by
  go_enter Try.func32, Try.ntmps32
  go_wp2
  go_ret
  exact ⟨rfl, rfl⟩
theorem between_no (a n b : Int) (h : ¬ (a ≤ n ∧ n ≤ b)) (w : World) :
    Calls Try.prog 32 #[.int .i64 a, .int .i64 n, .int .i64 b] w fun e w' => e = .returned (.bool false) ∧ w' = w := by
  by_cases h1 : a ≤ n
  · have h2 : ¬ n ≤ b := fun x => h ⟨h1, x⟩
    clear h
    go_enter Try.func32, Try.ntmps32
    go_wp2
    go_ret
    exact ⟨rfl, rfl⟩
  · clear h
    go_enter Try.func32, Try.ntmps32
    go_wp2
    go_ret
    exact ⟨rfl, rfl⟩

/-- a shape's three cells, under 'what lay below is as it was' -/
def ShpAt (W : World) (b : Nat) (c k r : Int) : Prop :=
  W.cell? ⟨b, 0, none⟩ = some (.int .i64 c) ∧ W.cell? ⟨b, 1, none⟩ = some (.int .i64 k) ∧ W.cell? ⟨b, 2, none⟩ = some (.int .i64 r)
theorem ShpAt.below {w W : World} {b : Nat} {c k r : Int} (h : ShpAt w b c k r) {B : Nat} (hb : Below B w W) (hB : b < B) : ShpAt W b c k r :=
  ⟨(hb.cell (p := ⟨b, 0, none⟩) hB).trans h.1, (hb.cell (p := ⟨b, 1, none⟩) hB).trans h.2.1, (hb.cell (p := ⟨b, 2, none⟩) hB).trans h.2.2⟩
theorem ShpAt.new (w : World) (c k r : Int) (t : TypeId) : ShpAt (w.alloc (.cells #[.int .i64 c, .int .i64 k, .int .i64 r] t)) w.heap.size c k r := by
  refine ⟨?_, ?_, ?_⟩ <;> rw [World.cell?_alloc_mark] <;> rfl
theorem ShpAt.lt {w : World} {b : Nat} {c k r : Int} (h : ShpAt w b c k r) : b < w.heap.size := World.block_lt_of_cell? w _ h.1
theorem ShpAt.put {w : World} {b : Nat} {x y z : Int} (h : ShpAt w b x y z) (a i o : Int) :
    ShpAt (((w.setCell ⟨b, 0, none⟩ (.int .i64 a)).setCell ⟨b, 1, none⟩ (.int .i64 i)).setCell ⟨b, 2, none⟩ (.int .i64 o)) b a i o := by
  obtain ⟨h0, h1, h2⟩ := h
  have e1 : (w.setCell ⟨b, 0, none⟩ (.int .i64 a)).cell? ⟨b, 1, none⟩ = some (.int .i64 y) := by rw [World.cell?_setCell_other _ _ _ _ (by simp)]; exact h1
  have e2 : ((w.setCell ⟨b, 0, none⟩ (.int .i64 a)).setCell ⟨b, 1, none⟩ (.int .i64 i)).cell? ⟨b, 2, none⟩ = some (.int .i64 z) := by
    rw [World.cell?_setCell_other _ _ _ _ (by simp), World.cell?_setCell_other _ _ _ _ (by simp)]; exact h2
  refine ⟨?_, ?_, ?_⟩
  · rw [World.cell?_setCell_other _ _ _ _ (by simp), World.cell?_setCell_other _ _ _ _ (by simp), World.cell?_setCell_same _ _ _ h0]
  · rw [World.cell?_setCell_other _ _ _ _ (by simp), World.cell?_setCell_same _ _ _ e1]
  · rw [World.cell?_setCell_same _ _ _ e2]
theorem ShpAt.other {w : World} {b b' : Nat} {x y z : Int} (h : ShpAt w b x y z) (hb : b ≠ b') (a i o : Value) :
    ShpAt (((w.setCell ⟨b', 0, none⟩ a).setCell ⟨b', 1, none⟩ i).setCell ⟨b', 2, none⟩ o) b x y z := by
  obtain ⟨h0, h1, h2⟩ := h
  have hn : ∀ j j' : Nat, (⟨b', j', none⟩ : Addr) ≠ ⟨b, j, none⟩ := fun j j' e => hb (by injection e with e1; exact e1.symm)
  refine ⟨?_, ?_, ?_⟩ <;> (rw [World.cell?_setCell_other _ _ _ _ (hn _ _), World.cell?_setCell_other _ _ _ _ (hn _ _), World.cell?_setCell_other _ _ _ _ (hn _ _)]; assumption)
theorem det_shape {P : Program} {f : FuncId} {args : Array Value} {v : Value} {wr W : World} {b B : Nat} {c k r : Int} (hB : B ≤ wr.heap.size) (h : Calls P f args W fun e w' => e = .returned v ∧ Below W.heap.size W w')
    (hW : (W.cell? ⟨b, 0, none⟩ = some (.int .i64 c) ∧ W.cell? ⟨b, 1, none⟩ = some (.int .i64 k) ∧ W.cell? ⟨b, 2, none⟩ = some (.int .i64 r)) ∧ Below B wr W) :
    Calls P f args W fun e w' => e = .returned v ∧ (w'.cell? ⟨b, 0, none⟩ = some (.int .i64 c) ∧ w'.cell? ⟨b, 1, none⟩ = some (.int .i64 k) ∧ w'.cell? ⟨b, 2, none⟩ = some (.int .i64 r)) ∧ Below B wr w' :=
  h.mono fun _ _ ⟨e, hb⟩ => ⟨e, ShpAt.below (show ShpAt W b c k r from hW.1) hb (ShpAt.lt (show ShpAt W b c k r from hW.1)), hW.2.trans (hb.mono (Nat.le_trans hB hW.2.size))⟩

set_option maxRecDepth 100000 in
set_option maxHeartbeats 1000000 in
theorem data_any (c k r : Int) (h1 : -9223372036854775806 ≤ c) (h2 : c ≤ 9223372036854775807) (w : World) :
    Calls Try.prog 39 #[geoV c k r] w fun e w' => e = .returned (.int .i64 (c - 2)) ∧ Below w.heap.size w w' := by
  unfold geoV
  go_enter Try.func39, Try.ntmps39
  go_wp2
  go_ret
  exact ⟨rfl, (Below.refl _ _).alloc (Nat.le_refl _) _⟩

/-- which geometries may be -/
def Lay.ok (c k r : Int) : Prop := (4 ≤ c ∧ c ≤ 10) ∧ (1 ≤ k ∧ k ≤ 4) ∧ (1 ≤ r ∧ r ≤ 256)

set_option maxRecDepth 100000 in
set_option maxHeartbeats 1000000 in
theorem may_yes (c k r : Int) (h : Lay.ok c k r) (w : World) :
    Calls Try.prog 31 #[geoV c k r] w fun e w' => e = .returned (.bool true) ∧ Below w.heap.size w w' := by
  obtain ⟨⟨c1, c2⟩, ⟨k1, k2⟩, r1, r2⟩ := h
  unfold geoV
  go_enter Try.func31, Try.ntmps31
  go_wp2_with fail
  refine (between_yes _ _ _ c1 c2 _).mono ?_
  rintro e w' ⟨rfl, rfl⟩
  go_wp2_with fail
  refine (between_yes _ _ _ k1 k2 _).mono ?_
  rintro e w' ⟨rfl, rfl⟩
  go_wp2_with fail
  refine (between_yes _ _ _ r1 r2 _).mono ?_
  rintro e w' ⟨rfl, rfl⟩
  go_wp2
  go_ret
  exact ⟨rfl, (Below.refl _ _).alloc (Nat.le_refl _) _⟩
set_option maxRecDepth 100000 in
set_option maxHeartbeats 1000000 in
theorem may_no (c k r : Int) (h : ¬ Lay.ok c k r) (w : World) :
    Calls Try.prog 31 #[geoV c k r] w fun e w' => e = .returned (.bool false) ∧ Below w.heap.size w w' := by
  unfold geoV
  by_cases hc : 4 ≤ c ∧ c ≤ 10
  · have YC := fun W => between_yes 4 c 10 hc.1 hc.2 W
    by_cases hk : 1 ≤ k ∧ k ≤ 4
    · have NR := fun W => between_no 1 r 256 (fun hr => h ⟨hc, hk, hr⟩) W
      have YK := fun W => between_yes 1 k 4 hk.1 hk.2 W
      clear h hc hk
      go_enter Try.func31, Try.ntmps31
      go_wp2_with fail
      refine (YC _).mono ?_
      rintro e w' ⟨rfl, rfl⟩
      go_wp2_with fail
      refine (YK _).mono ?_
      rintro e w' ⟨rfl, rfl⟩
      go_wp2_with fail
      refine (NR _).mono ?_
      rintro e w' ⟨rfl, rfl⟩
      go_wp2
      go_ret
      exact ⟨rfl, (Below.refl _ _).alloc (Nat.le_refl _) _⟩
    · have NK := fun W => between_no 1 k 4 hk W
      clear h hc hk
      go_enter Try.func31, Try.ntmps31
      go_wp2_with fail
      refine (YC _).mono ?_
      rintro e w' ⟨rfl, rfl⟩
      go_wp2_with fail
      refine (NK _).mono ?_
      rintro e w' ⟨rfl, rfl⟩
      go_wp2
      go_ret
      exact ⟨rfl, (Below.refl _ _).alloc (Nat.le_refl _) _⟩
  · have NC := fun W => between_no 4 c 10 hc W
    clear h hc
    go_enter Try.func31, Try.ntmps31
    go_wp2_with fail
    refine (NC _).mono ?_
    rintro e w' ⟨rfl, rfl⟩
    go_wp2
    go_ret
    exact ⟨rfl, (Below.refl _ _).alloc (Nat.le_refl _) _⟩

theorem tmod_low (n c : Int) (hc : 0 < c) : -c < n.tmod c := by
  have h1 := Int.emod_nonneg n (show c ≠ 0 by omega)
  have hn : (c.natAbs : Int) = c := by omega
  rw [Int.tmod_eq_emod]
  split
  · omega
  · rename_i hd
    have : n % c ≠ 0 := fun e => hd (.inr (Int.dvd_of_emod_eq_zero e))
    omega
set_option maxRecDepth 100000 in
set_option maxHeartbeats 1000000 in
theorem around_any (c k r n : Int) (h : Lay.ok c k r) (_n1 : -1000 ≤ n) (_n2 : n ≤ 1000) (w : World) :
    Calls Try.prog 40 #[geoV c k r, .int .i64 n] w fun e w' => e = .returned (.int .i64 (n % c)) ∧ Below w.heap.size w w' := by
  obtain ⟨⟨c1, c2⟩, _⟩ := h
  obtain ⟨t, ht⟩ : ∃ t, n.tmod c = t := ⟨_, rfl⟩
  obtain ⟨m, hm⟩ : ∃ m, n % c = m := ⟨_, rfl⟩
  have e2 : (t + c).tmod c = m := by
    rw [← hm, ← ht]
    have hb := Int.tmod_lt_of_pos n (show 0 < c by omega)
    have ha := tmod_low n c (by omega)
    rw [Int.tmod_eq_emod_of_nonneg (by omega)]
    rw [Int.add_emod_right]
    rw [Int.tmod_eq_emod]
    split
    · simp
    · have : (c.natAbs : Int) = c := by omega
      simp [this]
  have t1 : -c < t := by rw [← ht]; exact tmod_low n c (by omega)
  have t2 : t < c := by rw [← ht]; exact Int.tmod_lt_of_pos n (by omega)
  have m1 : 0 ≤ m := by rw [← hm]; exact Int.emod_nonneg n (by omega)
  have m2 : m < c := by rw [← hm]; exact Int.emod_lt_of_pos n (by omega)
  have hz : (c == 0) = false := by rw [beq_eq_false_iff_ne]; omega
  have E : Hid (n % c = m) := hm
  rw [hm]
  clear hm
  unfold geoV
  go_enter Try.func40, Try.ntmps40
  go_wp2
  go_quiet (fail)
  go_wp2
  go_ret
  exact ⟨rfl, below_drewN ((Below.refl _ _).alloc (Nat.le_refl _) _) _⟩

set_option maxRecDepth 100000 in
set_option maxHeartbeats 1000000 in
theorem parity_any (c k r row : Int) (h : Lay.ok c k r) (n1 : 0 ≤ row) (_n2 : row ≤ 100000) (w : World) :
    Calls Try.prog 36 #[geoV c k r, .int .i64 row] w fun e w' => e = .returned (.tuple #[.int .i64 (c - 1 - row % c), .int .i64 ((c - 1 - row % c + 1) % c)]) ∧ Below w.heap.size w w' := by
  have h0 := h
  obtain ⟨⟨c1, c2⟩, _⟩ := h
  obtain ⟨m, hm⟩ : ∃ m, row % c = m := ⟨_, rfl⟩
  have e2 : row.tmod c = m := by rw [Int.tmod_eq_emod_of_nonneg n1]; exact hm
  have m1 : 0 ≤ m := by rw [← hm]; exact Int.emod_nonneg row (by omega)
  have m2 : m < c := by rw [← hm]; exact Int.emod_lt_of_pos row (by omega)
  have hz : (c == 0) = false := by rw [beq_eq_false_iff_ne]; omega
  have HA : Hid (∀ W, Calls Try.prog 40 #[geoV c k r, .int .i64 (c - 1 - m + 1)] W fun e w' => e = .returned (.int .i64 ((c - 1 - m + 1) % c)) ∧ Below W.heap.size W w') :=
    fun W => around_any c k r (c - 1 - m + 1) h0 (by omega) (by omega) W
  rw [hm]
  clear hm h0
  unfold geoV at *
  go_enter Try.func36, Try.ntmps36
  go_wp2
  go_quiet (fail)
  go_wp2_with fail
  refine (HA.out _).mono ?_
  rintro e w' ⟨rfl, hb⟩
  go_wp2
  go_ret2
  exact ⟨rfl, below2 (below_drewN ((Below.refl _ _).alloc (Nat.le_refl _) _) _) hb⟩

set_option maxRecDepth 100000 in
set_option maxHeartbeats 1000000 in
theorem size_any (c k r : Int) (h : Lay.ok c k r) (w : World) :
    Calls Try.prog 33 #[geoV c k r] w fun e w' => e = .returned (.int .i64 (r * (c - 2) * k)) ∧ Below w.heap.size w w' := by
  obtain ⟨⟨c1, c2⟩, ⟨k1, k2⟩, r1, r2⟩ := h
  obtain ⟨d, hd⟩ : ∃ d, c - 2 = d := ⟨_, rfl⟩
  obtain ⟨x, hx⟩ : ∃ x, r * d = x := ⟨_, rfl⟩
  obtain ⟨n, hn⟩ : ∃ n, x * k = n := ⟨_, rfl⟩
  have d1 : 2 ≤ d := by omega
  have d2 : d ≤ 8 := by omega
  have x1 : 0 ≤ x := by rw [← hx]; exact Int.mul_nonneg (by omega) (by omega)
  have x2 : x ≤ 256 * 8 := by rw [← hx]; exact Int.mul_le_mul (by omega) (by omega) (by omega) (by omega)
  have y1 : 0 ≤ n := by rw [← hn]; exact Int.mul_nonneg (by omega) (by omega)
  have y2 : n ≤ 256 * 8 * 4 := by rw [← hn]; exact Int.mul_le_mul (by omega) (by omega) (by omega) (by omega)
  have wx : IntKind.i64.wrap x = x := by rw [IntKind.wrap_i64]; omega
  have wn : IntKind.i64.wrap n = n := by rw [IntKind.wrap_i64]; omega
  have HMX : Hid (Try.prog.follows .mixedOrders = true) := by show _ = _; kernel_rfl
  have hD := fun W => data_any c k r (by omega) (by omega) W
  rw [hd] at hD
  have S0 := ShpAt.new w c k r 46
  have HS0 : Hid (ShpAt (w.alloc (.cells #[.int .i64 c, .int .i64 k, .int .i64 r] 46)) w.heap.size c k r) := S0
  rw [hd, hx, hn]
  clear hd S0
  unfold geoV at *
  go_enter Try.func33, Try.ntmps33
  go_wp2_with fail
  refine region_det (fun W => (W.cell? ⟨w.heap.size, 0, none⟩ = some (.int .i64 c) ∧ W.cell? ⟨w.heap.size, 1, none⟩ = some (.int .i64 k) ∧ W.cell? ⟨w.heap.size, 2, none⟩ = some (.int .i64 r)) ∧ Below (w.heap.size + 1) (w.alloc (.cells #[.int .i64 c, .int .i64 k, .int .i64 r] 46)) W) HMX.out (by kernel_rfl) ⟨HS0.out, (Below.refl _ _).drew⟩ ?_
  refine det_read 0 (v := ?vx1) rfl (by kernel_rfl) rfl ?hyx1 ?restx1
  case hyx1 => (intro wS hSw; (try dsimp only at hSw); go_simp; try with_reducible rfl)
  try simp only [Act.put, List.setIfInBounds_toArray, List.set_cons_zero, List.set_cons_succ]
  refine det_read 1 (v := ?vx2) rfl (by kernel_rfl) rfl ?hyx2 ?restx2
  case hyx2 => (intro wS hSw; (try dsimp only at hSw); go_simp; try with_reducible rfl)
  try simp only [Act.put, List.setIfInBounds_toArray, List.set_cons_zero, List.set_cons_succ]
  refine det_read 2 (v := ?vx3) rfl (by kernel_rfl) rfl ?hyx3 ?restx3
  case hyx3 => (intro wS hSw; (try dsimp only at hSw); go_simp; try with_reducible rfl)
  try simp only [Act.put, List.setIfInBounds_toArray, List.set_cons_zero, List.set_cons_succ]
  refine det_read 3 (v := ?vx4) rfl (by kernel_rfl) rfl ?hyx4 ?restx4
  case hyx4 => (intro wS hSw; (try dsimp only at hSw); go_simp; try with_reducible rfl)
  try simp only [Act.put, List.setIfInBounds_toArray, List.set_cons_zero, List.set_cons_succ]
  refine det_call 4 rfl (by kernel_rfl) rfl ?hyx11 (fun W h => det_shape (by simp) (hD W) h) ?restx11
  case hyx11 => (intro wS hSw; go_simp; try with_reducible rfl)
  try simp only [Act.put, List.setIfInBounds_toArray, List.set_cons_zero, List.set_cons_succ]
  refine det_read 5 (v := ?vx5) rfl (by kernel_rfl) rfl ?hyx5 ?restx5
  case hyx5 => (intro wS hSw; (try dsimp only at hSw); go_simp; try with_reducible rfl)
  try simp only [Act.put, List.setIfInBounds_toArray, List.set_cons_zero, List.set_cons_succ]
  refine det_read 6 (v := ?vx6) rfl (by kernel_rfl) rfl ?hyx6 ?restx6
  case hyx6 => (intro wS hSw; (try dsimp only at hSw); go_simp; try with_reducible rfl)
  try simp only [Act.put, List.setIfInBounds_toArray, List.set_cons_zero, List.set_cons_succ]
  refine det_read 7 (v := ?vx7) rfl (by kernel_rfl) rfl ?hyx7 ?restx7
  case hyx7 => (intro wS hSw; (try dsimp only at hSw); go_simp; try with_reducible rfl)
  try simp only [Act.put, List.setIfInBounds_toArray, List.set_cons_zero, List.set_cons_succ]
  refine det_read 8 (v := ?vx8) rfl (by kernel_rfl) rfl ?hyx8 ?restx8
  case hyx8 => (intro wS hSw; (try dsimp only at hSw); go_simp; try with_reducible rfl)
  try simp only [Act.put, List.setIfInBounds_toArray, List.set_cons_zero, List.set_cons_succ]
  refine det_read 9 (v := ?vx9) rfl (by kernel_rfl) rfl ?hyx9 ?restx9
  case hyx9 => (intro wS hSw; (try dsimp only at hSw); go_simp; try with_reducible rfl)
  try simp only [Act.put, List.setIfInBounds_toArray, List.set_cons_zero, List.set_cons_succ]
  refine det_read 10 (v := ?vx10) rfl (by kernel_rfl) rfl ?hyx10 ?restx10
  case hyx10 => (intro wS hSw; (try dsimp only at hSw); go_simp; try with_reducible rfl)
  try simp only [Act.put, List.setIfInBounds_toArray, List.set_cons_zero, List.set_cons_succ]
  refine det_done (by kernel_rfl) ?_
  intro W hW
  go_wp2
  go_ret
  exact ⟨rfl, ((Below.refl _ _).alloc (Nat.le_refl _) _).trans (hW.2.mono (by simp))⟩

set_option maxRecDepth 100000 in
set_option maxHeartbeats 1000000 in
theorem holds_yes (c k r row : Int) (h : Lay.ok c k r) (n1 : 0 ≤ row) (n2 : row < r) (w : World) :
    Calls Try.prog 35 #[geoV c k r, .int .i64 row] w fun e w' => e = .returned (.bool true) ∧ Below w.heap.size w w' := by
  have HA := fun W => may_yes c k r h W
  have HB := fun W => between_yes 0 row (r - 1) n1 (by omega) W
  have HS0 : Hid (ShpAt (w.alloc (.cells #[.int .i64 c, .int .i64 k, .int .i64 r] 46)) w.heap.size c k r) := ShpAt.new w c k r _
  obtain ⟨_, _, r1, r2⟩ := h
  unfold geoV at *
  go_enter Try.func35, Try.ntmps35
  go_wp2_with fail
  refine (HA _).mono ?_
  rintro e w' ⟨rfl, hb⟩
  obtain ⟨s0, s1, s2⟩ := HS0.out.below hb (by simp)
  go_wp2_with fail
  refine (HB _).mono ?_
  rintro e w' ⟨rfl, rfl⟩
  go_wp2
  go_ret
  exact ⟨rfl, below2 ((Below.refl _ _).alloc (Nat.le_refl _) _) hb⟩
set_option maxRecDepth 100000 in
set_option maxHeartbeats 1000000 in
theorem holds_no (c k r row : Int) (h : ¬ (Lay.ok c k r ∧ 0 ≤ row ∧ row < r)) (w : World) :
    Calls Try.prog 35 #[geoV c k r, .int .i64 row] w fun e w' => e = .returned (.bool false) ∧ Below w.heap.size w w' := by
  by_cases ho : Lay.ok c k r
  · have HA := fun W => may_yes c k r ho W
    have HB := fun W => between_no 0 row (r - 1) (fun x => h ⟨ho, x.1, by omega⟩) W
    have HS0 : Hid (ShpAt (w.alloc (.cells #[.int .i64 c, .int .i64 k, .int .i64 r] 46)) w.heap.size c k r) := ShpAt.new w c k r _
    obtain ⟨_, _, r1, r2⟩ := ho
    clear h
    unfold geoV at *
    go_enter Try.func35, Try.ntmps35
    go_wp2_with fail
    refine (HA _).mono ?_
    rintro e w' ⟨rfl, hb⟩
    obtain ⟨s0, s1, s2⟩ := HS0.out.below hb (by simp)
    go_wp2_with fail
    refine (HB _).mono ?_
    rintro e w' ⟨rfl, rfl⟩
    go_wp2
    go_ret
    exact ⟨rfl, below2 ((Below.refl _ _).alloc (Nat.le_refl _) _) hb⟩
  · have HA := fun W => may_no c k r ho W
    clear h ho
    unfold geoV at *
    go_enter Try.func35, Try.ntmps35
    go_wp2_with fail
    refine (HA _).mono ?_
    rintro e w' ⟨rfl, hb⟩
    go_wp2
    go_ret
    exact ⟨rfl, below2 ((Below.refl _ _).alloc (Nat.le_refl _) _) hb⟩

/-- what a shape and a place behind it hold, freshly laid -/
theorem place_start (w : World) (c k r : Int) :
    Below w.heap.size w ((w.alloc (.cells #[.int .i64 c, .int .i64 k, .int .i64 r] 46)).alloc (.cells #[.int .i64 0, .int .i64 0, .int .i64 0] 50)) ∧
    ((w.alloc (.cells #[.int .i64 c, .int .i64 k, .int .i64 r] 46)).alloc (.cells #[.int .i64 0, .int .i64 0, .int .i64 0] 50)).heap.size = w.heap.size + 2 ∧
    ShpAt ((w.alloc (.cells #[.int .i64 c, .int .i64 k, .int .i64 r] 46)).alloc (.cells #[.int .i64 0, .int .i64 0, .int .i64 0] 50)) w.heap.size c k r ∧
    ShpAt ((w.alloc (.cells #[.int .i64 c, .int .i64 k, .int .i64 r] 46)).alloc (.cells #[.int .i64 0, .int .i64 0, .int .i64 0] 50)) (w.heap.size + 1) 0 0 0 ∧
    ∀ j, ((w.alloc (.cells #[.int .i64 c, .int .i64 k, .int .i64 r] 46)).alloc (.cells #[.int .i64 0, .int .i64 0, .int .i64 0] 50)).frozen? ⟨w.heap.size + 1, j, none⟩ = false := by
  refine ⟨((Below.refl _ _).alloc (Nat.le_refl _) _).alloc (by simp) _, by simp, (ShpAt.new w c k r _).below (B := w.heap.size + 1) ((Below.refl _ _).alloc (by simp) _) (by omega), ?_, fun j => ?_⟩
  · have := ShpAt.new (w.alloc (.cells #[.int .i64 c, .int .i64 k, .int .i64 r] 46)) 0 0 0 50
    simpa using this
  · simp
set_option maxRecDepth 100000 in
set_option maxHeartbeats 2000000 in
theorem place_any (c k r n : Int) (h : Lay.ok c k r) (n1 : 0 ≤ n) (n2 : n ≤ 100000) (w : World) :
    Calls Try.prog 34 #[geoV c k r, .int .i64 n] w fun e w' => e = .returned (geoV (n / k / (c - 2)) (n / k % (c - 2)) (n % k)) ∧ Below w.heap.size w w' := by
  obtain ⟨⟨c1, c2⟩, ⟨k1, k2⟩, r1, r2⟩ := h
  obtain ⟨d, hd⟩ : ∃ d, c - 2 = d := ⟨_, rfl⟩
  have hD := fun W => data_any c k r (by omega) (by omega) W
  rw [hd] at hD
  rw [hd]
  obtain ⟨u, hu⟩ : ∃ u, n / k = u := ⟨_, rfl⟩
  obtain ⟨o, ho⟩ : ∃ o, n % k = o := ⟨_, rfl⟩
  obtain ⟨a, ha⟩ : ∃ a, u / d = a := ⟨_, rfl⟩
  obtain ⟨i, hi⟩ : ∃ i, u % d = i := ⟨_, rfl⟩
  have d1 : 2 ≤ d := by omega
  have d2 : d ≤ 8 := by omega
  have u1 : 0 ≤ u := by rw [← hu]; exact Int.ediv_nonneg n1 (by omega)
  have u2 : u ≤ 100000 := by rw [← hu]; exact Int.le_trans (Int.ediv_le_self k n1) n2
  have o1 : 0 ≤ o := by rw [← ho]; exact Int.emod_nonneg n (by omega)
  have o2 : o < k := by rw [← ho]; exact Int.emod_lt_of_pos n (by omega)
  have a1 : 0 ≤ a := by rw [← ha]; exact Int.ediv_nonneg u1 (by omega)
  have a2 : a ≤ 100000 := by rw [← ha]; exact Int.le_trans (Int.ediv_le_self d u1) u2
  have i1 : 0 ≤ i := by rw [← hi]; exact Int.emod_nonneg u (by omega)
  have i2 : i < d := by rw [← hi]; exact Int.emod_lt_of_pos u (by omega)
  have e1 : n.tdiv k = u := by rw [Int.tdiv_eq_ediv_of_nonneg n1]; exact hu
  have e2 : n.tmod k = o := by rw [Int.tmod_eq_emod_of_nonneg n1]; exact ho
  have e3 : u.tdiv d = a := by rw [Int.tdiv_eq_ediv_of_nonneg u1]; exact ha
  have e4 : u.tmod d = i := by rw [Int.tmod_eq_emod_of_nonneg u1]; exact hi
  have kz : ¬ k = 0 := by omega
  have dz : ¬ d = 0 := by omega
  have HMX : Hid (Try.prog.follows .mixedOrders = true) := by show _ = _; kernel_rfl
  rw [hu, ho, ha, hi]
  clear hd hu ho ha hi
  unfold geoV at *
  go_enter Try.func34, Try.ntmps34
  go_wp2_with fail
  obtain ⟨w0, hw0⟩ : ∃ w0, ((w.alloc (.cells #[.int .i64 c, .int .i64 k, .int .i64 r] 46)).alloc (.cells #[.int .i64 0, .int .i64 0, .int .i64 0] 50)) = w0 := ⟨_, rfl⟩
  have hstart := place_start w c k r
  rw [hw0] at hstart ⊢
  clear hw0
  have HW0 : Hid (Below w.heap.size w w0) := hstart.1
  have HSZ : Hid (w0.heap.size = w.heap.size + 2) := hstart.2.1
  have HSH : Hid (ShpAt w0 w.heap.size c k r) := hstart.2.2.1
  have HPL : Hid (ShpAt w0 (w.heap.size + 1) 0 0 0) := hstart.2.2.2.1
  have HFR : Hid (∀ j, w0.frozen? ⟨w.heap.size + 1, j, none⟩ = false) := hstart.2.2.2.2
  clear hstart
  have hsh := HSH.out
  unfold ShpAt at hsh
  refine wp_region_held (S := fun W => W.cell? ⟨w.heap.size, 0, none⟩ = some (.int .i64 c) ∧ W.cell? ⟨w.heap.size, 1, none⟩ = some (.int .i64 k) ∧ W.cell? ⟨w.heap.size, 2, none⟩ = some (.int .i64 r)) HMX.out ?_
  have hS0 : (fun W : World => W.cell? ⟨w.heap.size, 0, none⟩ = some (.int .i64 c) ∧ W.cell? ⟨w.heap.size, 1, none⟩ = some (.int .i64 k) ∧ W.cell? ⟨w.heap.size, 2, none⟩ = some (.int .i64 r)) w0.drew := hsh
  change wpAnyH _ _ _ _ _ _ _ _ w0.drew
  clear hsh
  refine held_quiet 0 (v := ?v0) rfl (by kernel_rfl) (fun _ _ _ h => h) (by assumption) rfl ?hy0 ?rest0
  case hy0 => (intro wS hSw; (try dsimp only at hSw); go_simp; try with_reducible rfl)
  try simp only [Act.put, List.setIfInBounds_toArray, List.set_cons_zero, List.set_cons_succ]
  refine held_quiet 1 (v := ?v1) rfl (by kernel_rfl) (fun _ _ _ h => h) (by assumption) rfl ?hy1 ?rest1
  case hy1 => (intro wS hSw; (try dsimp only at hSw); go_simp; try with_reducible rfl)
  try simp only [Act.put, List.setIfInBounds_toArray, List.set_cons_zero, List.set_cons_succ]
  refine held_quiet 4 (v := ?v4) rfl (by kernel_rfl) (fun _ _ _ h => h) (by assumption) rfl ?hy4 ?rest4
  case hy4 => (intro wS hSw; (try dsimp only at hSw); go_simp; try with_reducible rfl)
  try simp only [Act.put, List.setIfInBounds_toArray, List.set_cons_zero, List.set_cons_succ]
  refine held_quiet 5 (v := ?v5) rfl (by kernel_rfl) (fun _ _ _ h => h) (by assumption) rfl ?hy5 ?rest5
  case hy5 => (intro wS hSw; (try dsimp only at hSw); go_simp; try with_reducible rfl)
  try simp only [Act.put, List.setIfInBounds_toArray, List.set_cons_zero, List.set_cons_succ]
  refine held_quiet 8 (v := ?v8) rfl (by kernel_rfl) (fun _ _ _ h => h) (by assumption) rfl ?hy8 ?rest8
  case hy8 => (intro wS hSw; (try dsimp only at hSw); go_simp; try with_reducible rfl)
  try simp only [Act.put, List.setIfInBounds_toArray, List.set_cons_zero, List.set_cons_succ]
  refine held_quiet 9 (v := ?v9) rfl (by kernel_rfl) (fun _ _ _ h => h) (by assumption) rfl ?hy9 ?rest9
  case hy9 => (intro wS hSw; (try dsimp only at hSw); go_simp; try with_reducible rfl)
  try simp only [Act.put, List.setIfInBounds_toArray, List.set_cons_zero, List.set_cons_succ]
  refine held_quiet 10 (v := ?v10) rfl (by kernel_rfl) (fun _ _ _ h => h) (by assumption) rfl ?hy10 ?rest10
  case hy10 => (intro wS hSw; (try dsimp only at hSw); go_simp; try with_reducible rfl)
  try simp only [Act.put, List.setIfInBounds_toArray, List.set_cons_zero, List.set_cons_succ]
  refine held_quiet 11 (v := ?v11) rfl (by kernel_rfl) (fun _ _ _ h => h) (by assumption) rfl ?hy11 ?rest11
  case hy11 => (intro wS hSw; (try dsimp only at hSw); go_simp; try with_reducible rfl)
  try simp only [Act.put, List.setIfInBounds_toArray, List.set_cons_zero, List.set_cons_succ]
  refine held_quiet 12 (v := ?v12) rfl (by kernel_rfl) (fun _ _ _ h => h) (by assumption) rfl ?hy12 ?rest12
  case hy12 => (intro wS hSw; (try dsimp only at hSw); go_simp; try with_reducible rfl)
  try simp only [Act.put, List.setIfInBounds_toArray, List.set_cons_zero, List.set_cons_succ]
  refine held_one 2 rfl (by kernel_rfl) ?_
  go_wp2_with fail
  refine (hD _).mono ?_
  rintro e w1 ⟨rfl, b1⟩
  have B1 : Hid (Below w0.heap.size w0 w1) := (Below.refl _ w0).drew.trans b1
  have hS1 : (fun W : World => W.cell? ⟨w.heap.size, 0, none⟩ = some (.int .i64 c) ∧ W.cell? ⟨w.heap.size, 1, none⟩ = some (.int .i64 k) ∧ W.cell? ⟨w.heap.size, 2, none⟩ = some (.int .i64 r)) w1 := HSH.out.below B1.out (by rw [HSZ.out]; omega)
  clear b1 hS0
  go_wp2
  try refine ⟨hS1, ?_⟩
  refine held_quiet 3 (v := ?v3) rfl (by kernel_rfl) (fun _ _ _ h => h) (by assumption) rfl ?hy3 ?rest3
  case hy3 => (intro wS hSw; (try dsimp only at hSw); go_simp; try with_reducible rfl)
  try simp only [Act.put, List.setIfInBounds_toArray, List.set_cons_zero, List.set_cons_succ]
  refine held_one 6 rfl (by kernel_rfl) ?_
  go_wp2_with fail
  refine (hD _).mono ?_
  rintro e w2 ⟨rfl, b2⟩
  have b3 := below2 B1.out b2
  have hS2 : (fun W : World => W.cell? ⟨w.heap.size, 0, none⟩ = some (.int .i64 c) ∧ W.cell? ⟨w.heap.size, 1, none⟩ = some (.int .i64 k) ∧ W.cell? ⟨w.heap.size, 2, none⟩ = some (.int .i64 r)) w2 := HSH.out.below b3 (by rw [HSZ.out]; omega)
  obtain ⟨p0, p1, p2⟩ := HPL.out.below b3 (by rw [HSZ.out]; omega)
  have f0 : ∀ j, w2.frozen? ⟨w.heap.size + 1, j, none⟩ = false := fun j => by
    rw [b3.frozen (p := ⟨w.heap.size + 1, j, none⟩) (by rw [HSZ.out]; show w.heap.size + 1 < _; omega)]; exact HFR.out j
  have B2 : Hid (Below w0.heap.size w0 w2) := b3
  clear b2 b3 hS1
  go_wp2
  try refine ⟨hS2, ?_⟩
  refine held_quiet 7 (v := ?v7) rfl (by kernel_rfl) (fun _ _ _ h => h) (by assumption) rfl ?hy7 ?rest7
  case hy7 => (intro wS hSw; (try dsimp only at hSw); go_simp; try with_reducible rfl)
  try simp only [Act.put, List.setIfInBounds_toArray, List.set_cons_zero, List.set_cons_succ]
  refine held_quiet 13 (v := ?v13) rfl (by kernel_rfl) (fun _ _ _ h => h) (by assumption) rfl ?hy13 ?rest13
  case hy13 => (intro wS hSw; (try dsimp only at hSw); go_simp; try with_reducible rfl)
  try simp only [Act.put, List.setIfInBounds_toArray, List.set_cons_zero, List.set_cons_succ]
  refine held_one 14 rfl (by kernel_rfl) ?_
  go_wp2
  have HS3 : Hid (ShpAt (((w2.setCell ⟨w.heap.size + 1, 0, none⟩ (.int .i64 a)).setCell ⟨w.heap.size + 1, 1, none⟩ (.int .i64 i)).setCell ⟨w.heap.size + 1, 2, none⟩ (.int .i64 o)) w.heap.size c k r) := ShpAt.other hS2 (by omega) _ _ _
  have HP3 : Hid (ShpAt (((w2.setCell ⟨w.heap.size + 1, 0, none⟩ (.int .i64 a)).setCell ⟨w.heap.size + 1, 1, none⟩ (.int .i64 i)).setCell ⟨w.heap.size + 1, 2, none⟩ (.int .i64 o)) (w.heap.size + 1) a i o) := ShpAt.put ⟨p0, p1, p2⟩ a i o
  have HB3 : Hid (Below w.heap.size w (((w2.setCell ⟨w.heap.size + 1, 0, none⟩ (.int .i64 a)).setCell ⟨w.heap.size + 1, 1, none⟩ (.int .i64 i)).setCell ⟨w.heap.size + 1, 2, none⟩ (.int .i64 o))) :=
    (((below2 HW0.out B2.out).setCell (p := ⟨_, 0, none⟩) (Nat.le_succ _) _).setCell (p := ⟨_, 1, none⟩) (Nat.le_succ _) _).setCell (p := ⟨_, 2, none⟩) (Nat.le_succ _) _
  clear p0 p1 p2 hS2
  generalize (((w2.setCell ⟨w.heap.size + 1, 0, none⟩ (.int .i64 a)).setCell ⟨w.heap.size + 1, 1, none⟩ (.int .i64 i)).setCell ⟨w.heap.size + 1, 2, none⟩ (.int .i64 o)) = w3 at *
  try refine ⟨HS3.out, ?_⟩
  refine held_done (by kernel_rfl) ?_
  obtain ⟨p0, p1, p2⟩ := HP3.out
  go_wp2
  refine bodyPost_ret (v := .agg #[.int .i64 a, .int .i64 i, .int .i64 o]) (by simp [results, asAddr]; go_simp; try rfl) rfl ⟨rfl, HB3.out⟩
end Go.Proofs.Ytfnafoahcllakaa
