/- What the statements of layout have in common: what they show, a geometry that may be. -/
import Derived.Test.YtfnafoahcllakaaRef07c
namespace Go.Proofs.Ytfnafoahcllakaa
open Go.RowKit

set_option maxRecDepth 100000 in
set_option maxHeartbeats 2000000 in
theorem shown7_any (w : World) : Calls Try.prog 29 #[] w fun e w' => e = .returned (.bool true) ∧ Below w.heap.size w w' := by
  have ho : Lay.ok 4 1 5 := by unfold Lay.ok; omega
  have hh : Lay.hasRow 4 1 5 0 := ⟨ho, by omega, by omega⟩
  have hP := fun W => Parity_any 4 1 5 0 W
  have hS := fun W => Size_any 4 1 5 W
  rw [show Lay.parP 4 1 5 0 = 3 from if_pos hh, show Lay.parQ 4 1 5 0 = 0 from if_pos hh] at hP
  rw [show Lay.sizeI 4 1 5 = 10 from if_pos ho] at hS
  clear ho hh
  unfold geoV at *
  go_enter Try.func29, Try.ntmps29
  go_wp2_with fail
  refine (hP _).mono ?_
  rintro e w1 ⟨rfl, b1⟩
  go_wp2_with fail
  refine (hS _).mono ?_
  rintro e w2 ⟨rfl, b2⟩
  go_wp2
  go_ret
  exact ⟨rfl, below2 b1 b2⟩

theorem u8_mod7 (a : Int) (a1 : 0 ≤ a) : a.tmod 7 = a % 7 := Int.tmod_eq_emod_of_nonneg a1
/-- the statements' own geometry -/
theorem good_any (a b d : Int) (a1 : 0 ≤ a ∧ a ≤ 255) (b1 : 0 ≤ b ∧ b ≤ 255) (d1 : 0 ≤ d ∧ d ≤ 255) (w : World) :
    Calls Try.prog 30 #[.int .u8 a, .int .u8 b, .int .u8 d] w fun e w' => e = .returned (geoV (4 + a % 7) (1 + b % 4) (1 + d)) ∧ Below w.heap.size w w' := by
  have e1 : a.tmod 7 = a % 7 := Int.tmod_eq_emod_of_nonneg a1.1
  have e2 : b.tmod 4 = b % 4 := Int.tmod_eq_emod_of_nonneg b1.1
  obtain ⟨x, hx⟩ : ∃ x, a % 7 = x := ⟨_, rfl⟩
  obtain ⟨y, hy⟩ : ∃ y, b % 4 = y := ⟨_, rfl⟩
  have x1 : 0 ≤ x ∧ x < 7 := by omega
  have y1 : 0 ≤ y ∧ y < 4 := by omega
  rw [hx] at e1
  rw [hy] at e2
  rw [hx, hy]
  clear hx hy
  obtain ⟨a0, a9⟩ := a1
  obtain ⟨b0, b9⟩ := b1
  obtain ⟨d0, d9⟩ := d1
  obtain ⟨x0, x9⟩ := x1
  obtain ⟨y0, y9⟩ := y1
  unfold geoV at *
  go_enter Try.func30, Try.ntmps30
  go_wp2
  refine bodyPost_ret (v := .agg #[.int .i64 (4 + x), .int .i64 (1 + y), .int .i64 (1 + d)]) (by simp [results, asAddr]; go_simp; try rfl) rfl ⟨rfl, (Below.refl _ _).alloc (Nat.le_refl _) _⟩
theorem Lay.good_ok (a b d : Int) (d1 : 0 ≤ d ∧ d ≤ 255) : Lay.ok (4 + a % 7) (1 + b % 4) (1 + d) := ⟨by omega, by omega, by omega⟩
/-- a geometry laid behind a call -/
theorem start_at {w w1 : World} (hb : Below w.heap.size w w1) (c k r : Int) (t : TypeId) : Shp w (w1.alloc (.cells #[.int .i64 c, .int .i64 k, .int .i64 r] t)) w1.heap.size c k r :=
  ⟨ShpAt.new w1 c k r t, hb.alloc hb.size _⟩
end Go.Proofs.Ytfnafoahcllakaa
