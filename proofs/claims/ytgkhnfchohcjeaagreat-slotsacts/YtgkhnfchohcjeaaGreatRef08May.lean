/- The walk of the document's own May of a superblock: one walk for each way through it. -/
import Derived.Test.YtgkhnfchohcjeaaGreatMSupA
import Derived.Test.YtgkhnfchohcjeaaGreatMLayC
namespace Go.Proofs.YtgkhnfchohcjeaaGreat
open Go.RowKit

set_option maxRecDepth 100000 in
set_option maxHeartbeats 2000000 in
theorem rmay_zero (uu ev : Nat) (role c k r : Int) (cl : Bool) (b nw g : Int) (M : Int) (hM : max c nw = M) (hu : uu = 0) (w : World) :
    Calls Tryz.prog 46 #[supV ⟨uu, ev, role, c, k, r, cl, b, nw, g⟩] w fun e w' => e = .returned (.bool false) ∧ Below w.heap.size w w' := by
  have hmax := max_run c nw M hM
  have HN : Hid _ := SupAt.new w ⟨uu, ev, role, c, k, r, cl, b, nw, g⟩ 39
  have f_hu : ((uu : Int) == 0) = true := by simp [hu]
  unfold supV
  dsimp only
  clear hM hu
  go_enter Tryz.func46, Tryz.ntmps46
  go_wp2
  go_ret
  exact ⟨rfl, (Below.refl _ _).alloc (Nat.le_refl _) _⟩
set_option maxRecDepth 100000 in
set_option maxHeartbeats 2000000 in
theorem rmay_geo (uu ev : Nat) (role c k r : Int) (cl : Bool) (b nw g : Int) (M : Int) (hM : max c nw = M) (hu : uu ≠ 0) (hk : Lay.checkI c k r ≠ 0) (w : World) :
    Calls Tryz.prog 46 #[supV ⟨uu, ev, role, c, k, r, cl, b, nw, g⟩] w fun e w' => e = .returned (.bool false) ∧ Below w.heap.size w w' := by
  have hmax := max_run c nw M hM
  have HN : Hid _ := SupAt.new w ⟨uu, ev, role, c, k, r, cl, b, nw, g⟩ 39
  have f_hu : ((uu : Int) == 0) = false := by simp; omega
  have HK := fun W => rCheck_any c k r W
  obtain ⟨ck, hck⟩ : ∃ ck, Lay.checkI c k r = ck := ⟨_, rfl⟩
  rw [hck] at HK hk
  have f_hk : (ck != 0) = true := by simp [hk]
  unfold geoV at HK
  unfold supV
  dsimp only
  clear hM hu hk hck
  go_enter Tryz.func46, Tryz.ntmps46
  go_wp2_with fail
  refine (HK _).mono ?_
  rintro e w1 ⟨rfl, hb1⟩
  have HB : Hid (Below w.heap.size w w1) := ((Below.refl w.heap.size w).alloc (Nat.le_refl _) _).trans (hb1.mono (by rw [World.size_alloc]; omega))
  obtain ⟨m0, m1, m2, m3, m4, m5, m6, m7, m8, m9⟩ := SupAt.below (show SupAt _ w.heap.size 0 ⟨uu, ev, role, c, k, r, cl, b, nw, g⟩ from HN.out) hb1 (by rw [World.size_alloc]; omega)
  simp only [Nat.zero_add] at m1 m2 m3 m4 m5 m6 m7 m8 m9
  clear hb1 HN
  go_wp2
  go_ret
  exact ⟨rfl, HB.out⟩
set_option maxRecDepth 100000 in
set_option maxHeartbeats 2000000 in
theorem rmay_low (uu ev : Nat) (role c k r : Int) (cl : Bool) (b nw g : Int) (M : Int) (hM : max c nw = M) (hu : uu ≠ 0) (hk : Lay.checkI c k r = 0) (hn : nw ≠ 0) (hl : nw ≤ c) (w : World) :
    Calls Tryz.prog 46 #[supV ⟨uu, ev, role, c, k, r, cl, b, nw, g⟩] w fun e w' => e = .returned (.bool false) ∧ Below w.heap.size w w' := by
  have hmax := max_run c nw M hM
  have HN : Hid _ := SupAt.new w ⟨uu, ev, role, c, k, r, cl, b, nw, g⟩ 39
  have f_hu : ((uu : Int) == 0) = false := by simp; omega
  have f_hn : (nw != 0) = true := by simp [hn]
  have f_hl : decide (nw ≤ c) = true := decide_eq_true hl
  have HK := fun W => rCheck_any c k r W
  obtain ⟨ck, hck⟩ : ∃ ck, Lay.checkI c k r = ck := ⟨_, rfl⟩
  rw [hck] at HK hk
  have f_hk : (ck != 0) = false := by simp [hk]
  unfold geoV at HK
  unfold supV
  dsimp only
  clear hM hu hk hn hck
  go_enter Tryz.func46, Tryz.ntmps46
  go_wp2_with fail
  refine (HK _).mono ?_
  rintro e w1 ⟨rfl, hb1⟩
  have HB : Hid (Below w.heap.size w w1) := ((Below.refl w.heap.size w).alloc (Nat.le_refl _) _).trans (hb1.mono (by rw [World.size_alloc]; omega))
  obtain ⟨m0, m1, m2, m3, m4, m5, m6, m7, m8, m9⟩ := SupAt.below (show SupAt _ w.heap.size 0 ⟨uu, ev, role, c, k, r, cl, b, nw, g⟩ from HN.out) hb1 (by rw [World.size_alloc]; omega)
  simp only [Nat.zero_add] at m1 m2 m3 m4 m5 m6 m7 m8 m9
  clear hb1 HN
  go_wp2
  go_ret
  exact ⟨rfl, HB.out⟩
set_option maxRecDepth 100000 in
set_option maxHeartbeats 2000000 in
theorem rmay_top (uu ev : Nat) (role c k r : Int) (cl : Bool) (b nw g : Int) (M : Int) (hM : max c nw = M) (hu : uu ≠ 0) (hk : Lay.checkI c k r = 0) (hn : nw ≠ 0) (hl : ¬ nw ≤ c) (ht : 10 < nw) (w : World) :
    Calls Tryz.prog 46 #[supV ⟨uu, ev, role, c, k, r, cl, b, nw, g⟩] w fun e w' => e = .returned (.bool false) ∧ Below w.heap.size w w' := by
  have hmax := max_run c nw M hM
  have HN : Hid _ := SupAt.new w ⟨uu, ev, role, c, k, r, cl, b, nw, g⟩ 39
  have f_hu : ((uu : Int) == 0) = false := by simp; omega
  have f_hn : (nw != 0) = true := by simp [hn]
  have f_hl : decide (nw ≤ c) = false := decide_eq_false hl
  have f_ht : decide (10 < nw) = true := decide_eq_true ht
  have HK := fun W => rCheck_any c k r W
  obtain ⟨ck, hck⟩ : ∃ ck, Lay.checkI c k r = ck := ⟨_, rfl⟩
  rw [hck] at HK hk
  have f_hk : (ck != 0) = false := by simp [hk]
  unfold geoV at HK
  unfold supV
  dsimp only
  clear hM hu hk hn hck
  go_enter Tryz.func46, Tryz.ntmps46
  go_wp2_with fail
  refine (HK _).mono ?_
  rintro e w1 ⟨rfl, hb1⟩
  have HB : Hid (Below w.heap.size w w1) := ((Below.refl w.heap.size w).alloc (Nat.le_refl _) _).trans (hb1.mono (by rw [World.size_alloc]; omega))
  obtain ⟨m0, m1, m2, m3, m4, m5, m6, m7, m8, m9⟩ := SupAt.below (show SupAt _ w.heap.size 0 ⟨uu, ev, role, c, k, r, cl, b, nw, g⟩ from HN.out) hb1 (by rw [World.size_alloc]; omega)
  simp only [Nat.zero_add] at m1 m2 m3 m4 m5 m6 m7 m8 m9
  clear hb1 HN
  go_wp2
  go_ret
  exact ⟨rfl, HB.out⟩
set_option maxRecDepth 100000 in
set_option maxHeartbeats 2000000 in
theorem rmay_sneg (uu ev : Nat) (role c k r : Int) (cl : Bool) (b nw g : Int) (M : Int) (hM : max c nw = M) (hu : uu ≠ 0) (hk : Lay.checkI c k r = 0) (hn : nw = 0) (hr0 : role ≠ 254) (hr : role ≠ 255) (hs : role < 0) (w : World) :
    Calls Tryz.prog 46 #[supV ⟨uu, ev, role, c, k, r, cl, b, nw, g⟩] w fun e w' => e = .returned (.bool false) ∧ Below w.heap.size w w' := by
  have hmax := max_run c nw M hM
  have HN : Hid _ := SupAt.new w ⟨uu, ev, role, c, k, r, cl, b, nw, g⟩ 39
  have f_hu : ((uu : Int) == 0) = false := by simp; omega
  have f_hn : (nw != 0) = false := by simp [hn]
  have f_hr0 : (role != 254) = true := by simp [hr0]
  have f_hr : (role != 255) = true := by simp [hr]
  have f_hs : decide (role < 0) = true := decide_eq_true hs
  have HK := fun W => rCheck_any c k r W
  obtain ⟨ck, hck⟩ : ∃ ck, Lay.checkI c k r = ck := ⟨_, rfl⟩
  rw [hck] at HK hk
  have f_hk : (ck != 0) = false := by simp [hk]
  unfold geoV at HK
  unfold supV
  dsimp only
  clear hM hu hk hn hr0 hr hck
  go_enter Tryz.func46, Tryz.ntmps46
  go_wp2_with fail
  refine (HK _).mono ?_
  rintro e w1 ⟨rfl, hb1⟩
  have HB : Hid (Below w.heap.size w w1) := ((Below.refl w.heap.size w).alloc (Nat.le_refl _) _).trans (hb1.mono (by rw [World.size_alloc]; omega))
  obtain ⟨m0, m1, m2, m3, m4, m5, m6, m7, m8, m9⟩ := SupAt.below (show SupAt _ w.heap.size 0 ⟨uu, ev, role, c, k, r, cl, b, nw, g⟩ from HN.out) hb1 (by rw [World.size_alloc]; omega)
  simp only [Nat.zero_add] at m1 m2 m3 m4 m5 m6 m7 m8 m9
  clear hb1 HN
  go_wp2
  go_ret
  exact ⟨rfl, HB.out⟩
set_option maxRecDepth 100000 in
set_option maxHeartbeats 2000000 in
theorem rmay_sfar (uu ev : Nat) (role c k r : Int) (cl : Bool) (b nw g : Int) (M : Int) (hM : max c nw = M) (hu : uu ≠ 0) (hk : Lay.checkI c k r = 0) (hn : nw = 0) (hr0 : role ≠ 254) (hr : role ≠ 255) (hs : ¬ role < 0) (hm : M ≤ role) (w : World) :
    Calls Tryz.prog 46 #[supV ⟨uu, ev, role, c, k, r, cl, b, nw, g⟩] w fun e w' => e = .returned (.bool false) ∧ Below w.heap.size w w' := by
  have hmax := max_run c nw M hM
  have HN : Hid _ := SupAt.new w ⟨uu, ev, role, c, k, r, cl, b, nw, g⟩ 39
  have f_hu : ((uu : Int) == 0) = false := by simp; omega
  have f_hn : (nw != 0) = false := by simp [hn]
  have f_hr0 : (role != 254) = true := by simp [hr0]
  have f_hr : (role != 255) = true := by simp [hr]
  have f_hs : decide (role < 0) = false := decide_eq_false hs
  have f_hm : decide (M ≤ role) = true := decide_eq_true hm
  have HK := fun W => rCheck_any c k r W
  obtain ⟨ck, hck⟩ : ∃ ck, Lay.checkI c k r = ck := ⟨_, rfl⟩
  rw [hck] at HK hk
  have f_hk : (ck != 0) = false := by simp [hk]
  unfold geoV at HK
  unfold supV
  dsimp only
  clear hM hu hk hn hr0 hr hck
  go_enter Tryz.func46, Tryz.ntmps46
  go_wp2_with fail
  refine (HK _).mono ?_
  rintro e w1 ⟨rfl, hb1⟩
  have HB : Hid (Below w.heap.size w w1) := ((Below.refl w.heap.size w).alloc (Nat.le_refl _) _).trans (hb1.mono (by rw [World.size_alloc]; omega))
  obtain ⟨m0, m1, m2, m3, m4, m5, m6, m7, m8, m9⟩ := SupAt.below (show SupAt _ w.heap.size 0 ⟨uu, ev, role, c, k, r, cl, b, nw, g⟩ from HN.out) hb1 (by rw [World.size_alloc]; omega)
  simp only [Nat.zero_add] at m1 m2 m3 m4 m5 m6 m7 m8 m9
  clear hb1 HN
  go_wp2
  go_ret
  exact ⟨rfl, HB.out⟩
set_option maxRecDepth 100000 in
set_option maxHeartbeats 2000000 in
theorem rmay_sa1 (uu ev : Nat) (role c k r : Int) (cl : Bool) (b nw g : Int) (M : Int) (hM : max c nw = M) (hu : uu ≠ 0) (hk : Lay.checkI c k r = 0) (hn : nw = 0) (hr : role = 254) (hb : ¬ 0 ≤ b) (w : World) :
    Calls Tryz.prog 46 #[supV ⟨uu, ev, role, c, k, r, cl, b, nw, g⟩] w fun e w' => e = .returned (.bool false) ∧ Below w.heap.size w w' := by
  have hmax := max_run c nw M hM
  have HN : Hid _ := SupAt.new w ⟨uu, ev, role, c, k, r, cl, b, nw, g⟩ 39
  have f_hu : ((uu : Int) == 0) = false := by simp; omega
  have f_hn : (nw != 0) = false := by simp [hn]
  have f_hr : (role != 254) = false := by simp [hr]
  have f_hb : decide (0 ≤ b) = false := decide_eq_false hb
  have HK := fun W => rCheck_any c k r W
  obtain ⟨ck, hck⟩ : ∃ ck, Lay.checkI c k r = ck := ⟨_, rfl⟩
  rw [hck] at HK hk
  have f_hk : (ck != 0) = false := by simp [hk]
  unfold geoV at HK
  unfold supV
  dsimp only
  clear hM hu hk hn hr hck
  go_enter Tryz.func46, Tryz.ntmps46
  go_wp2_with fail
  refine (HK _).mono ?_
  rintro e w1 ⟨rfl, hb1⟩
  have HB : Hid (Below w.heap.size w w1) := ((Below.refl w.heap.size w).alloc (Nat.le_refl _) _).trans (hb1.mono (by rw [World.size_alloc]; omega))
  obtain ⟨m0, m1, m2, m3, m4, m5, m6, m7, m8, m9⟩ := SupAt.below (show SupAt _ w.heap.size 0 ⟨uu, ev, role, c, k, r, cl, b, nw, g⟩ from HN.out) hb1 (by rw [World.size_alloc]; omega)
  simp only [Nat.zero_add] at m1 m2 m3 m4 m5 m6 m7 m8 m9
  clear hb1 HN
  go_wp2
  go_ret
  exact ⟨rfl, HB.out⟩
set_option maxRecDepth 100000 in
set_option maxHeartbeats 2000000 in
theorem rmay_sa2 (uu ev : Nat) (role c k r : Int) (cl : Bool) (b nw g : Int) (M : Int) (hM : max c nw = M) (hu : uu ≠ 0) (hk : Lay.checkI c k r = 0) (hn : nw = 0) (hr : role = 254) (hb : 0 ≤ b) (hc : ¬ b ≤ r) (w : World) :
    Calls Tryz.prog 46 #[supV ⟨uu, ev, role, c, k, r, cl, b, nw, g⟩] w fun e w' => e = .returned (.bool false) ∧ Below w.heap.size w w' := by
  have hmax := max_run c nw M hM
  have HN : Hid _ := SupAt.new w ⟨uu, ev, role, c, k, r, cl, b, nw, g⟩ 39
  have f_hu : ((uu : Int) == 0) = false := by simp; omega
  have f_hn : (nw != 0) = false := by simp [hn]
  have f_hr : (role != 254) = false := by simp [hr]
  have f_hb : decide (0 ≤ b) = true := decide_eq_true hb
  have f_hc : decide (b ≤ r) = false := decide_eq_false hc
  have HK := fun W => rCheck_any c k r W
  obtain ⟨ck, hck⟩ : ∃ ck, Lay.checkI c k r = ck := ⟨_, rfl⟩
  rw [hck] at HK hk
  have f_hk : (ck != 0) = false := by simp [hk]
  unfold geoV at HK
  unfold supV
  dsimp only
  clear hM hu hk hn hr hck
  go_enter Tryz.func46, Tryz.ntmps46
  go_wp2_with fail
  refine (HK _).mono ?_
  rintro e w1 ⟨rfl, hb1⟩
  have HB : Hid (Below w.heap.size w w1) := ((Below.refl w.heap.size w).alloc (Nat.le_refl _) _).trans (hb1.mono (by rw [World.size_alloc]; omega))
  obtain ⟨m0, m1, m2, m3, m4, m5, m6, m7, m8, m9⟩ := SupAt.below (show SupAt _ w.heap.size 0 ⟨uu, ev, role, c, k, r, cl, b, nw, g⟩ from HN.out) hb1 (by rw [World.size_alloc]; omega)
  simp only [Nat.zero_add] at m1 m2 m3 m4 m5 m6 m7 m8 m9
  clear hb1 HN
  go_wp2
  go_ret
  exact ⟨rfl, HB.out⟩
set_option maxRecDepth 100000 in
set_option maxHeartbeats 2000000 in
theorem rmay_sa3 (uu ev : Nat) (role c k r : Int) (cl : Bool) (b nw g : Int) (M : Int) (hM : max c nw = M) (hu : uu ≠ 0) (hk : Lay.checkI c k r = 0) (hn : nw = 0) (hr : role = 254) (hb : 0 ≤ b) (hc : b ≤ r) (hg : ¬ 0 ≤ g) (w : World) :
    Calls Tryz.prog 46 #[supV ⟨uu, ev, role, c, k, r, cl, b, nw, g⟩] w fun e w' => e = .returned (.bool false) ∧ Below w.heap.size w w' := by
  have hmax := max_run c nw M hM
  have HN : Hid _ := SupAt.new w ⟨uu, ev, role, c, k, r, cl, b, nw, g⟩ 39
  have f_hu : ((uu : Int) == 0) = false := by simp; omega
  have f_hn : (nw != 0) = false := by simp [hn]
  have f_hr : (role != 254) = false := by simp [hr]
  have f_hb : decide (0 ≤ b) = true := decide_eq_true hb
  have f_hc : decide (b ≤ r) = true := decide_eq_true hc
  have f_hg : decide (0 ≤ g) = false := decide_eq_false hg
  have HK := fun W => rCheck_any c k r W
  obtain ⟨ck, hck⟩ : ∃ ck, Lay.checkI c k r = ck := ⟨_, rfl⟩
  rw [hck] at HK hk
  have f_hk : (ck != 0) = false := by simp [hk]
  unfold geoV at HK
  unfold supV
  dsimp only
  clear hM hu hk hn hr hck
  go_enter Tryz.func46, Tryz.ntmps46
  go_wp2_with fail
  refine (HK _).mono ?_
  rintro e w1 ⟨rfl, hb1⟩
  have HB : Hid (Below w.heap.size w w1) := ((Below.refl w.heap.size w).alloc (Nat.le_refl _) _).trans (hb1.mono (by rw [World.size_alloc]; omega))
  obtain ⟨m0, m1, m2, m3, m4, m5, m6, m7, m8, m9⟩ := SupAt.below (show SupAt _ w.heap.size 0 ⟨uu, ev, role, c, k, r, cl, b, nw, g⟩ from HN.out) hb1 (by rw [World.size_alloc]; omega)
  simp only [Nat.zero_add] at m1 m2 m3 m4 m5 m6 m7 m8 m9
  clear hb1 HN
  go_wp2
  go_ret
  exact ⟨rfl, HB.out⟩
set_option maxRecDepth 100000 in
set_option maxHeartbeats 2000000 in
theorem rmay_sa4 (uu ev : Nat) (role c k r : Int) (cl : Bool) (b nw g : Int) (M : Int) (hM : max c nw = M) (hu : uu ≠ 0) (hk : Lay.checkI c k r = 0) (hn : nw = 0) (hr : role = 254) (hb : 0 ≤ b) (hc : b ≤ r) (hg : 0 ≤ g) (hh : ¬ g ≤ r) (w : World) :
    Calls Tryz.prog 46 #[supV ⟨uu, ev, role, c, k, r, cl, b, nw, g⟩] w fun e w' => e = .returned (.bool false) ∧ Below w.heap.size w w' := by
  have hmax := max_run c nw M hM
  have HN : Hid _ := SupAt.new w ⟨uu, ev, role, c, k, r, cl, b, nw, g⟩ 39
  have f_hu : ((uu : Int) == 0) = false := by simp; omega
  have f_hn : (nw != 0) = false := by simp [hn]
  have f_hr : (role != 254) = false := by simp [hr]
  have f_hb : decide (0 ≤ b) = true := decide_eq_true hb
  have f_hc : decide (b ≤ r) = true := decide_eq_true hc
  have f_hg : decide (0 ≤ g) = true := decide_eq_true hg
  have f_hh : decide (g ≤ r) = false := decide_eq_false hh
  have HK := fun W => rCheck_any c k r W
  obtain ⟨ck, hck⟩ : ∃ ck, Lay.checkI c k r = ck := ⟨_, rfl⟩
  rw [hck] at HK hk
  have f_hk : (ck != 0) = false := by simp [hk]
  unfold geoV at HK
  unfold supV
  dsimp only
  clear hM hu hk hn hr hck
  go_enter Tryz.func46, Tryz.ntmps46
  go_wp2_with fail
  refine (HK _).mono ?_
  rintro e w1 ⟨rfl, hb1⟩
  have HB : Hid (Below w.heap.size w w1) := ((Below.refl w.heap.size w).alloc (Nat.le_refl _) _).trans (hb1.mono (by rw [World.size_alloc]; omega))
  obtain ⟨m0, m1, m2, m3, m4, m5, m6, m7, m8, m9⟩ := SupAt.below (show SupAt _ w.heap.size 0 ⟨uu, ev, role, c, k, r, cl, b, nw, g⟩ from HN.out) hb1 (by rw [World.size_alloc]; omega)
  simp only [Nat.zero_add] at m1 m2 m3 m4 m5 m6 m7 m8 m9
  clear hb1 HN
  go_wp2
  go_ret
  exact ⟨rfl, HB.out⟩
set_option maxRecDepth 100000 in
set_option maxHeartbeats 2000000 in
theorem rmay_sa5 (uu ev : Nat) (role c k r : Int) (cl : Bool) (b nw g : Int) (M : Int) (hM : max c nw = M) (hu : uu ≠ 0) (hk : Lay.checkI c k r = 0) (hn : nw = 0) (hr : role = 254) (hb : 0 ≤ b) (hc : b ≤ r) (hg : 0 ≤ g) (hh : g ≤ r) (w : World) :
    Calls Tryz.prog 46 #[supV ⟨uu, ev, role, c, k, r, cl, b, nw, g⟩] w fun e w' => e = .returned (.bool (g == 0)) ∧ Below w.heap.size w w' := by
  have hmax := max_run c nw M hM
  have HN : Hid _ := SupAt.new w ⟨uu, ev, role, c, k, r, cl, b, nw, g⟩ 39
  have f_hu : ((uu : Int) == 0) = false := by simp; omega
  have f_hn : (nw != 0) = false := by simp [hn]
  have f_hr : (role != 254) = false := by simp [hr]
  have f_hb : decide (0 ≤ b) = true := decide_eq_true hb
  have f_hc : decide (b ≤ r) = true := decide_eq_true hc
  have f_hg : decide (0 ≤ g) = true := decide_eq_true hg
  have f_hh : decide (g ≤ r) = true := decide_eq_true hh
  have HK := fun W => rCheck_any c k r W
  obtain ⟨ck, hck⟩ : ∃ ck, Lay.checkI c k r = ck := ⟨_, rfl⟩
  rw [hck] at HK hk
  have f_hk : (ck != 0) = false := by simp [hk]
  unfold geoV at HK
  obtain ⟨q, hq⟩ : ∃ q, (g == 0) = q := ⟨_, rfl⟩
  unfold supV
  dsimp only
  clear hM hu hk hn hr hck
  go_enter Tryz.func46, Tryz.ntmps46
  go_wp2_with fail
  refine (HK _).mono ?_
  rintro e w1 ⟨rfl, hb1⟩
  have HB : Hid (Below w.heap.size w w1) := ((Below.refl w.heap.size w).alloc (Nat.le_refl _) _).trans (hb1.mono (by rw [World.size_alloc]; omega))
  obtain ⟨m0, m1, m2, m3, m4, m5, m6, m7, m8, m9⟩ := SupAt.below (show SupAt _ w.heap.size 0 ⟨uu, ev, role, c, k, r, cl, b, nw, g⟩ from HN.out) hb1 (by rw [World.size_alloc]; omega)
  simp only [Nat.zero_add] at m1 m2 m3 m4 m5 m6 m7 m8 m9
  clear hb1 HN
  go_wp2
  go_ret
  exact ⟨by rw [hq]; rfl, HB.out⟩
set_option maxRecDepth 100000 in
set_option maxHeartbeats 2000000 in
theorem rmay_sb1 (uu ev : Nat) (role c k r : Int) (cl : Bool) (b nw g : Int) (M : Int) (hM : max c nw = M) (hu : uu ≠ 0) (hk : Lay.checkI c k r = 0) (hn : nw = 0) (hr0 : role ≠ 254) (hr : role = 255) (hb : ¬ 0 ≤ b) (w : World) :
    Calls Tryz.prog 46 #[supV ⟨uu, ev, role, c, k, r, cl, b, nw, g⟩] w fun e w' => e = .returned (.bool false) ∧ Below w.heap.size w w' := by
  have hmax := max_run c nw M hM
  have HN : Hid _ := SupAt.new w ⟨uu, ev, role, c, k, r, cl, b, nw, g⟩ 39
  have f_hu : ((uu : Int) == 0) = false := by simp; omega
  have f_hn : (nw != 0) = false := by simp [hn]
  have f_hr0 : (role != 254) = true := by simp [hr0]
  have f_hr : (role != 255) = false := by simp [hr]
  have f_hb : decide (0 ≤ b) = false := decide_eq_false hb
  have HK := fun W => rCheck_any c k r W
  obtain ⟨ck, hck⟩ : ∃ ck, Lay.checkI c k r = ck := ⟨_, rfl⟩
  rw [hck] at HK hk
  have f_hk : (ck != 0) = false := by simp [hk]
  unfold geoV at HK
  unfold supV
  dsimp only
  clear hM hu hk hn hr0 hr hck
  go_enter Tryz.func46, Tryz.ntmps46
  go_wp2_with fail
  refine (HK _).mono ?_
  rintro e w1 ⟨rfl, hb1⟩
  have HB : Hid (Below w.heap.size w w1) := ((Below.refl w.heap.size w).alloc (Nat.le_refl _) _).trans (hb1.mono (by rw [World.size_alloc]; omega))
  obtain ⟨m0, m1, m2, m3, m4, m5, m6, m7, m8, m9⟩ := SupAt.below (show SupAt _ w.heap.size 0 ⟨uu, ev, role, c, k, r, cl, b, nw, g⟩ from HN.out) hb1 (by rw [World.size_alloc]; omega)
  simp only [Nat.zero_add] at m1 m2 m3 m4 m5 m6 m7 m8 m9
  clear hb1 HN
  go_wp2
  go_ret
  exact ⟨rfl, HB.out⟩
set_option maxRecDepth 100000 in
set_option maxHeartbeats 2000000 in
theorem rmay_sb2 (uu ev : Nat) (role c k r : Int) (cl : Bool) (b nw g : Int) (M : Int) (hM : max c nw = M) (hu : uu ≠ 0) (hk : Lay.checkI c k r = 0) (hn : nw = 0) (hr0 : role ≠ 254) (hr : role = 255) (hb : 0 ≤ b) (hc : ¬ b ≤ r) (w : World) :
    Calls Tryz.prog 46 #[supV ⟨uu, ev, role, c, k, r, cl, b, nw, g⟩] w fun e w' => e = .returned (.bool false) ∧ Below w.heap.size w w' := by
  have hmax := max_run c nw M hM
  have HN : Hid _ := SupAt.new w ⟨uu, ev, role, c, k, r, cl, b, nw, g⟩ 39
  have f_hu : ((uu : Int) == 0) = false := by simp; omega
  have f_hn : (nw != 0) = false := by simp [hn]
  have f_hr0 : (role != 254) = true := by simp [hr0]
  have f_hr : (role != 255) = false := by simp [hr]
  have f_hb : decide (0 ≤ b) = true := decide_eq_true hb
  have f_hc : decide (b ≤ r) = false := decide_eq_false hc
  have HK := fun W => rCheck_any c k r W
  obtain ⟨ck, hck⟩ : ∃ ck, Lay.checkI c k r = ck := ⟨_, rfl⟩
  rw [hck] at HK hk
  have f_hk : (ck != 0) = false := by simp [hk]
  unfold geoV at HK
  unfold supV
  dsimp only
  clear hM hu hk hn hr0 hr hck
  go_enter Tryz.func46, Tryz.ntmps46
  go_wp2_with fail
  refine (HK _).mono ?_
  rintro e w1 ⟨rfl, hb1⟩
  have HB : Hid (Below w.heap.size w w1) := ((Below.refl w.heap.size w).alloc (Nat.le_refl _) _).trans (hb1.mono (by rw [World.size_alloc]; omega))
  obtain ⟨m0, m1, m2, m3, m4, m5, m6, m7, m8, m9⟩ := SupAt.below (show SupAt _ w.heap.size 0 ⟨uu, ev, role, c, k, r, cl, b, nw, g⟩ from HN.out) hb1 (by rw [World.size_alloc]; omega)
  simp only [Nat.zero_add] at m1 m2 m3 m4 m5 m6 m7 m8 m9
  clear hb1 HN
  go_wp2
  go_ret
  exact ⟨rfl, HB.out⟩
set_option maxRecDepth 100000 in
set_option maxHeartbeats 2000000 in
theorem rmay_sb3 (uu ev : Nat) (role c k r : Int) (cl : Bool) (b nw g : Int) (M : Int) (hM : max c nw = M) (hu : uu ≠ 0) (hk : Lay.checkI c k r = 0) (hn : nw = 0) (hr0 : role ≠ 254) (hr : role = 255) (hb : 0 ≤ b) (hc : b ≤ r) (hg : ¬ 0 ≤ g) (w : World) :
    Calls Tryz.prog 46 #[supV ⟨uu, ev, role, c, k, r, cl, b, nw, g⟩] w fun e w' => e = .returned (.bool false) ∧ Below w.heap.size w w' := by
  have hmax := max_run c nw M hM
  have HN : Hid _ := SupAt.new w ⟨uu, ev, role, c, k, r, cl, b, nw, g⟩ 39
  have f_hu : ((uu : Int) == 0) = false := by simp; omega
  have f_hn : (nw != 0) = false := by simp [hn]
  have f_hr0 : (role != 254) = true := by simp [hr0]
  have f_hr : (role != 255) = false := by simp [hr]
  have f_hb : decide (0 ≤ b) = true := decide_eq_true hb
  have f_hc : decide (b ≤ r) = true := decide_eq_true hc
  have f_hg : decide (0 ≤ g) = false := decide_eq_false hg
  have HK := fun W => rCheck_any c k r W
  obtain ⟨ck, hck⟩ : ∃ ck, Lay.checkI c k r = ck := ⟨_, rfl⟩
  rw [hck] at HK hk
  have f_hk : (ck != 0) = false := by simp [hk]
  unfold geoV at HK
  unfold supV
  dsimp only
  clear hM hu hk hn hr0 hr hck
  go_enter Tryz.func46, Tryz.ntmps46
  go_wp2_with fail
  refine (HK _).mono ?_
  rintro e w1 ⟨rfl, hb1⟩
  have HB : Hid (Below w.heap.size w w1) := ((Below.refl w.heap.size w).alloc (Nat.le_refl _) _).trans (hb1.mono (by rw [World.size_alloc]; omega))
  obtain ⟨m0, m1, m2, m3, m4, m5, m6, m7, m8, m9⟩ := SupAt.below (show SupAt _ w.heap.size 0 ⟨uu, ev, role, c, k, r, cl, b, nw, g⟩ from HN.out) hb1 (by rw [World.size_alloc]; omega)
  simp only [Nat.zero_add] at m1 m2 m3 m4 m5 m6 m7 m8 m9
  clear hb1 HN
  go_wp2
  go_ret
  exact ⟨rfl, HB.out⟩
set_option maxRecDepth 100000 in
set_option maxHeartbeats 2000000 in
theorem rmay_sb4 (uu ev : Nat) (role c k r : Int) (cl : Bool) (b nw g : Int) (M : Int) (hM : max c nw = M) (hu : uu ≠ 0) (hk : Lay.checkI c k r = 0) (hn : nw = 0) (hr0 : role ≠ 254) (hr : role = 255) (hb : 0 ≤ b) (hc : b ≤ r) (hg : 0 ≤ g) (hh : ¬ g ≤ r) (w : World) :
    Calls Tryz.prog 46 #[supV ⟨uu, ev, role, c, k, r, cl, b, nw, g⟩] w fun e w' => e = .returned (.bool false) ∧ Below w.heap.size w w' := by
  have hmax := max_run c nw M hM
  have HN : Hid _ := SupAt.new w ⟨uu, ev, role, c, k, r, cl, b, nw, g⟩ 39
  have f_hu : ((uu : Int) == 0) = false := by simp; omega
  have f_hn : (nw != 0) = false := by simp [hn]
  have f_hr0 : (role != 254) = true := by simp [hr0]
  have f_hr : (role != 255) = false := by simp [hr]
  have f_hb : decide (0 ≤ b) = true := decide_eq_true hb
  have f_hc : decide (b ≤ r) = true := decide_eq_true hc
  have f_hg : decide (0 ≤ g) = true := decide_eq_true hg
  have f_hh : decide (g ≤ r) = false := decide_eq_false hh
  have HK := fun W => rCheck_any c k r W
  obtain ⟨ck, hck⟩ : ∃ ck, Lay.checkI c k r = ck := ⟨_, rfl⟩
  rw [hck] at HK hk
  have f_hk : (ck != 0) = false := by simp [hk]
  unfold geoV at HK
  unfold supV
  dsimp only
  clear hM hu hk hn hr0 hr hck
  go_enter Tryz.func46, Tryz.ntmps46
  go_wp2_with fail
  refine (HK _).mono ?_
  rintro e w1 ⟨rfl, hb1⟩
  have HB : Hid (Below w.heap.size w w1) := ((Below.refl w.heap.size w).alloc (Nat.le_refl _) _).trans (hb1.mono (by rw [World.size_alloc]; omega))
  obtain ⟨m0, m1, m2, m3, m4, m5, m6, m7, m8, m9⟩ := SupAt.below (show SupAt _ w.heap.size 0 ⟨uu, ev, role, c, k, r, cl, b, nw, g⟩ from HN.out) hb1 (by rw [World.size_alloc]; omega)
  simp only [Nat.zero_add] at m1 m2 m3 m4 m5 m6 m7 m8 m9
  clear hb1 HN
  go_wp2
  go_ret
  exact ⟨rfl, HB.out⟩
set_option maxRecDepth 100000 in
set_option maxHeartbeats 2000000 in
theorem rmay_sb5 (uu ev : Nat) (role c k r : Int) (cl : Bool) (b nw g : Int) (M : Int) (hM : max c nw = M) (hu : uu ≠ 0) (hk : Lay.checkI c k r = 0) (hn : nw = 0) (hr0 : role ≠ 254) (hr : role = 255) (hb : 0 ≤ b) (hc : b ≤ r) (hg : 0 ≤ g) (hh : g ≤ r) (w : World) :
    Calls Tryz.prog 46 #[supV ⟨uu, ev, role, c, k, r, cl, b, nw, g⟩] w fun e w' => e = .returned (.bool (g == 0)) ∧ Below w.heap.size w w' := by
  have hmax := max_run c nw M hM
  have HN : Hid _ := SupAt.new w ⟨uu, ev, role, c, k, r, cl, b, nw, g⟩ 39
  have f_hu : ((uu : Int) == 0) = false := by simp; omega
  have f_hn : (nw != 0) = false := by simp [hn]
  have f_hr0 : (role != 254) = true := by simp [hr0]
  have f_hr : (role != 255) = false := by simp [hr]
  have f_hb : decide (0 ≤ b) = true := decide_eq_true hb
  have f_hc : decide (b ≤ r) = true := decide_eq_true hc
  have f_hg : decide (0 ≤ g) = true := decide_eq_true hg
  have f_hh : decide (g ≤ r) = true := decide_eq_true hh
  have HK := fun W => rCheck_any c k r W
  obtain ⟨ck, hck⟩ : ∃ ck, Lay.checkI c k r = ck := ⟨_, rfl⟩
  rw [hck] at HK hk
  have f_hk : (ck != 0) = false := by simp [hk]
  unfold geoV at HK
  obtain ⟨q, hq⟩ : ∃ q, (g == 0) = q := ⟨_, rfl⟩
  unfold supV
  dsimp only
  clear hM hu hk hn hr0 hr hck
  go_enter Tryz.func46, Tryz.ntmps46
  go_wp2_with fail
  refine (HK _).mono ?_
  rintro e w1 ⟨rfl, hb1⟩
  have HB : Hid (Below w.heap.size w w1) := ((Below.refl w.heap.size w).alloc (Nat.le_refl _) _).trans (hb1.mono (by rw [World.size_alloc]; omega))
  obtain ⟨m0, m1, m2, m3, m4, m5, m6, m7, m8, m9⟩ := SupAt.below (show SupAt _ w.heap.size 0 ⟨uu, ev, role, c, k, r, cl, b, nw, g⟩ from HN.out) hb1 (by rw [World.size_alloc]; omega)
  simp only [Nat.zero_add] at m1 m2 m3 m4 m5 m6 m7 m8 m9
  clear hb1 HN
  go_wp2
  go_ret
  exact ⟨by rw [hq]; rfl, HB.out⟩
set_option maxRecDepth 100000 in
set_option maxHeartbeats 2000000 in
theorem rmay_sc1 (uu ev : Nat) (role c k r : Int) (cl : Bool) (b nw g : Int) (M : Int) (hM : max c nw = M) (hu : uu ≠ 0) (hk : Lay.checkI c k r = 0) (hn : nw = 0) (hr0 : role ≠ 254) (hr : role ≠ 255) (hs : ¬ role < 0) (hm : ¬ M ≤ role) (hb : ¬ 0 ≤ b) (w : World) :
    Calls Tryz.prog 46 #[supV ⟨uu, ev, role, c, k, r, cl, b, nw, g⟩] w fun e w' => e = .returned (.bool false) ∧ Below w.heap.size w w' := by
  have hmax := max_run c nw M hM
  have HN : Hid _ := SupAt.new w ⟨uu, ev, role, c, k, r, cl, b, nw, g⟩ 39
  have f_hu : ((uu : Int) == 0) = false := by simp; omega
  have f_hn : (nw != 0) = false := by simp [hn]
  have f_hr0 : (role != 254) = true := by simp [hr0]
  have f_hr : (role != 255) = true := by simp [hr]
  have f_hs : decide (role < 0) = false := decide_eq_false hs
  have f_hm : decide (M ≤ role) = false := decide_eq_false hm
  have f_hb : decide (0 ≤ b) = false := decide_eq_false hb
  have HK := fun W => rCheck_any c k r W
  obtain ⟨ck, hck⟩ : ∃ ck, Lay.checkI c k r = ck := ⟨_, rfl⟩
  rw [hck] at HK hk
  have f_hk : (ck != 0) = false := by simp [hk]
  unfold geoV at HK
  unfold supV
  dsimp only
  clear hM hu hk hn hr0 hr hck
  go_enter Tryz.func46, Tryz.ntmps46
  go_wp2_with fail
  refine (HK _).mono ?_
  rintro e w1 ⟨rfl, hb1⟩
  have HB : Hid (Below w.heap.size w w1) := ((Below.refl w.heap.size w).alloc (Nat.le_refl _) _).trans (hb1.mono (by rw [World.size_alloc]; omega))
  obtain ⟨m0, m1, m2, m3, m4, m5, m6, m7, m8, m9⟩ := SupAt.below (show SupAt _ w.heap.size 0 ⟨uu, ev, role, c, k, r, cl, b, nw, g⟩ from HN.out) hb1 (by rw [World.size_alloc]; omega)
  simp only [Nat.zero_add] at m1 m2 m3 m4 m5 m6 m7 m8 m9
  clear hb1 HN
  go_wp2
  go_ret
  exact ⟨rfl, HB.out⟩
set_option maxRecDepth 100000 in
set_option maxHeartbeats 2000000 in
theorem rmay_sc2 (uu ev : Nat) (role c k r : Int) (cl : Bool) (b nw g : Int) (M : Int) (hM : max c nw = M) (hu : uu ≠ 0) (hk : Lay.checkI c k r = 0) (hn : nw = 0) (hr0 : role ≠ 254) (hr : role ≠ 255) (hs : ¬ role < 0) (hm : ¬ M ≤ role) (hb : 0 ≤ b) (hc : ¬ b ≤ r) (w : World) :
    Calls Tryz.prog 46 #[supV ⟨uu, ev, role, c, k, r, cl, b, nw, g⟩] w fun e w' => e = .returned (.bool false) ∧ Below w.heap.size w w' := by
  have hmax := max_run c nw M hM
  have HN : Hid _ := SupAt.new w ⟨uu, ev, role, c, k, r, cl, b, nw, g⟩ 39
  have f_hu : ((uu : Int) == 0) = false := by simp; omega
  have f_hn : (nw != 0) = false := by simp [hn]
  have f_hr0 : (role != 254) = true := by simp [hr0]
  have f_hr : (role != 255) = true := by simp [hr]
  have f_hs : decide (role < 0) = false := decide_eq_false hs
  have f_hm : decide (M ≤ role) = false := decide_eq_false hm
  have f_hb : decide (0 ≤ b) = true := decide_eq_true hb
  have f_hc : decide (b ≤ r) = false := decide_eq_false hc
  have HK := fun W => rCheck_any c k r W
  obtain ⟨ck, hck⟩ : ∃ ck, Lay.checkI c k r = ck := ⟨_, rfl⟩
  rw [hck] at HK hk
  have f_hk : (ck != 0) = false := by simp [hk]
  unfold geoV at HK
  unfold supV
  dsimp only
  clear hM hu hk hn hr0 hr hck
  go_enter Tryz.func46, Tryz.ntmps46
  go_wp2_with fail
  refine (HK _).mono ?_
  rintro e w1 ⟨rfl, hb1⟩
  have HB : Hid (Below w.heap.size w w1) := ((Below.refl w.heap.size w).alloc (Nat.le_refl _) _).trans (hb1.mono (by rw [World.size_alloc]; omega))
  obtain ⟨m0, m1, m2, m3, m4, m5, m6, m7, m8, m9⟩ := SupAt.below (show SupAt _ w.heap.size 0 ⟨uu, ev, role, c, k, r, cl, b, nw, g⟩ from HN.out) hb1 (by rw [World.size_alloc]; omega)
  simp only [Nat.zero_add] at m1 m2 m3 m4 m5 m6 m7 m8 m9
  clear hb1 HN
  go_wp2
  go_ret
  exact ⟨rfl, HB.out⟩
set_option maxRecDepth 100000 in
set_option maxHeartbeats 2000000 in
theorem rmay_sc3 (uu ev : Nat) (role c k r : Int) (cl : Bool) (b nw g : Int) (M : Int) (hM : max c nw = M) (hu : uu ≠ 0) (hk : Lay.checkI c k r = 0) (hn : nw = 0) (hr0 : role ≠ 254) (hr : role ≠ 255) (hs : ¬ role < 0) (hm : ¬ M ≤ role) (hb : 0 ≤ b) (hc : b ≤ r) (hg : ¬ 0 ≤ g) (w : World) :
    Calls Tryz.prog 46 #[supV ⟨uu, ev, role, c, k, r, cl, b, nw, g⟩] w fun e w' => e = .returned (.bool false) ∧ Below w.heap.size w w' := by
  have hmax := max_run c nw M hM
  have HN : Hid _ := SupAt.new w ⟨uu, ev, role, c, k, r, cl, b, nw, g⟩ 39
  have f_hu : ((uu : Int) == 0) = false := by simp; omega
  have f_hn : (nw != 0) = false := by simp [hn]
  have f_hr0 : (role != 254) = true := by simp [hr0]
  have f_hr : (role != 255) = true := by simp [hr]
  have f_hs : decide (role < 0) = false := decide_eq_false hs
  have f_hm : decide (M ≤ role) = false := decide_eq_false hm
  have f_hb : decide (0 ≤ b) = true := decide_eq_true hb
  have f_hc : decide (b ≤ r) = true := decide_eq_true hc
  have f_hg : decide (0 ≤ g) = false := decide_eq_false hg
  have HK := fun W => rCheck_any c k r W
  obtain ⟨ck, hck⟩ : ∃ ck, Lay.checkI c k r = ck := ⟨_, rfl⟩
  rw [hck] at HK hk
  have f_hk : (ck != 0) = false := by simp [hk]
  unfold geoV at HK
  unfold supV
  dsimp only
  clear hM hu hk hn hr0 hr hck
  go_enter Tryz.func46, Tryz.ntmps46
  go_wp2_with fail
  refine (HK _).mono ?_
  rintro e w1 ⟨rfl, hb1⟩
  have HB : Hid (Below w.heap.size w w1) := ((Below.refl w.heap.size w).alloc (Nat.le_refl _) _).trans (hb1.mono (by rw [World.size_alloc]; omega))
  obtain ⟨m0, m1, m2, m3, m4, m5, m6, m7, m8, m9⟩ := SupAt.below (show SupAt _ w.heap.size 0 ⟨uu, ev, role, c, k, r, cl, b, nw, g⟩ from HN.out) hb1 (by rw [World.size_alloc]; omega)
  simp only [Nat.zero_add] at m1 m2 m3 m4 m5 m6 m7 m8 m9
  clear hb1 HN
  go_wp2
  go_ret
  exact ⟨rfl, HB.out⟩
set_option maxRecDepth 100000 in
set_option maxHeartbeats 2000000 in
theorem rmay_sc4 (uu ev : Nat) (role c k r : Int) (cl : Bool) (b nw g : Int) (M : Int) (hM : max c nw = M) (hu : uu ≠ 0) (hk : Lay.checkI c k r = 0) (hn : nw = 0) (hr0 : role ≠ 254) (hr : role ≠ 255) (hs : ¬ role < 0) (hm : ¬ M ≤ role) (hb : 0 ≤ b) (hc : b ≤ r) (hg : 0 ≤ g) (hh : ¬ g ≤ r) (w : World) :
    Calls Tryz.prog 46 #[supV ⟨uu, ev, role, c, k, r, cl, b, nw, g⟩] w fun e w' => e = .returned (.bool false) ∧ Below w.heap.size w w' := by
  have hmax := max_run c nw M hM
  have HN : Hid _ := SupAt.new w ⟨uu, ev, role, c, k, r, cl, b, nw, g⟩ 39
  have f_hu : ((uu : Int) == 0) = false := by simp; omega
  have f_hn : (nw != 0) = false := by simp [hn]
  have f_hr0 : (role != 254) = true := by simp [hr0]
  have f_hr : (role != 255) = true := by simp [hr]
  have f_hs : decide (role < 0) = false := decide_eq_false hs
  have f_hm : decide (M ≤ role) = false := decide_eq_false hm
  have f_hb : decide (0 ≤ b) = true := decide_eq_true hb
  have f_hc : decide (b ≤ r) = true := decide_eq_true hc
  have f_hg : decide (0 ≤ g) = true := decide_eq_true hg
  have f_hh : decide (g ≤ r) = false := decide_eq_false hh
  have HK := fun W => rCheck_any c k r W
  obtain ⟨ck, hck⟩ : ∃ ck, Lay.checkI c k r = ck := ⟨_, rfl⟩
  rw [hck] at HK hk
  have f_hk : (ck != 0) = false := by simp [hk]
  unfold geoV at HK
  unfold supV
  dsimp only
  clear hM hu hk hn hr0 hr hck
  go_enter Tryz.func46, Tryz.ntmps46
  go_wp2_with fail
  refine (HK _).mono ?_
  rintro e w1 ⟨rfl, hb1⟩
  have HB : Hid (Below w.heap.size w w1) := ((Below.refl w.heap.size w).alloc (Nat.le_refl _) _).trans (hb1.mono (by rw [World.size_alloc]; omega))
  obtain ⟨m0, m1, m2, m3, m4, m5, m6, m7, m8, m9⟩ := SupAt.below (show SupAt _ w.heap.size 0 ⟨uu, ev, role, c, k, r, cl, b, nw, g⟩ from HN.out) hb1 (by rw [World.size_alloc]; omega)
  simp only [Nat.zero_add] at m1 m2 m3 m4 m5 m6 m7 m8 m9
  clear hb1 HN
  go_wp2
  go_ret
  exact ⟨rfl, HB.out⟩
set_option maxRecDepth 100000 in
set_option maxHeartbeats 2000000 in
theorem rmay_sc5 (uu ev : Nat) (role c k r : Int) (cl : Bool) (b nw g : Int) (M : Int) (hM : max c nw = M) (hu : uu ≠ 0) (hk : Lay.checkI c k r = 0) (hn : nw = 0) (hr0 : role ≠ 254) (hr : role ≠ 255) (hs : ¬ role < 0) (hm : ¬ M ≤ role) (hb : 0 ≤ b) (hc : b ≤ r) (hg : 0 ≤ g) (hh : g ≤ r) (w : World) :
    Calls Tryz.prog 46 #[supV ⟨uu, ev, role, c, k, r, cl, b, nw, g⟩] w fun e w' => e = .returned (.bool (g == 0)) ∧ Below w.heap.size w w' := by
  have hmax := max_run c nw M hM
  have HN : Hid _ := SupAt.new w ⟨uu, ev, role, c, k, r, cl, b, nw, g⟩ 39
  have f_hu : ((uu : Int) == 0) = false := by simp; omega
  have f_hn : (nw != 0) = false := by simp [hn]
  have f_hr0 : (role != 254) = true := by simp [hr0]
  have f_hr : (role != 255) = true := by simp [hr]
  have f_hs : decide (role < 0) = false := decide_eq_false hs
  have f_hm : decide (M ≤ role) = false := decide_eq_false hm
  have f_hb : decide (0 ≤ b) = true := decide_eq_true hb
  have f_hc : decide (b ≤ r) = true := decide_eq_true hc
  have f_hg : decide (0 ≤ g) = true := decide_eq_true hg
  have f_hh : decide (g ≤ r) = true := decide_eq_true hh
  have HK := fun W => rCheck_any c k r W
  obtain ⟨ck, hck⟩ : ∃ ck, Lay.checkI c k r = ck := ⟨_, rfl⟩
  rw [hck] at HK hk
  have f_hk : (ck != 0) = false := by simp [hk]
  unfold geoV at HK
  obtain ⟨q, hq⟩ : ∃ q, (g == 0) = q := ⟨_, rfl⟩
  unfold supV
  dsimp only
  clear hM hu hk hn hr0 hr hck
  go_enter Tryz.func46, Tryz.ntmps46
  go_wp2_with fail
  refine (HK _).mono ?_
  rintro e w1 ⟨rfl, hb1⟩
  have HB : Hid (Below w.heap.size w w1) := ((Below.refl w.heap.size w).alloc (Nat.le_refl _) _).trans (hb1.mono (by rw [World.size_alloc]; omega))
  obtain ⟨m0, m1, m2, m3, m4, m5, m6, m7, m8, m9⟩ := SupAt.below (show SupAt _ w.heap.size 0 ⟨uu, ev, role, c, k, r, cl, b, nw, g⟩ from HN.out) hb1 (by rw [World.size_alloc]; omega)
  simp only [Nat.zero_add] at m1 m2 m3 m4 m5 m6 m7 m8 m9
  clear hb1 HN
  go_wp2
  go_ret
  exact ⟨by rw [hq]; rfl, HB.out⟩
set_option maxRecDepth 100000 in
set_option maxHeartbeats 2000000 in
theorem rmay_gneg (uu ev : Nat) (role c k r : Int) (cl : Bool) (b nw g : Int) (M : Int) (hM : max c nw = M) (hu : uu ≠ 0) (hk : Lay.checkI c k r = 0) (hn : nw ≠ 0) (hl : ¬ nw ≤ c) (ht : ¬ 10 < nw) (hr0 : role ≠ 254) (hr : role ≠ 255) (hs : role < 0) (w : World) :
    Calls Tryz.prog 46 #[supV ⟨uu, ev, role, c, k, r, cl, b, nw, g⟩] w fun e w' => e = .returned (.bool false) ∧ Below w.heap.size w w' := by
  have hmax := max_run c nw M hM
  have HN : Hid _ := SupAt.new w ⟨uu, ev, role, c, k, r, cl, b, nw, g⟩ 39
  have f_hu : ((uu : Int) == 0) = false := by simp; omega
  have f_hn : (nw != 0) = true := by simp [hn]
  have f_hl : decide (nw ≤ c) = false := decide_eq_false hl
  have f_ht : decide (10 < nw) = false := decide_eq_false ht
  have f_hr0 : (role != 254) = true := by simp [hr0]
  have f_hr : (role != 255) = true := by simp [hr]
  have f_hs : decide (role < 0) = true := decide_eq_true hs
  have HK := fun W => rCheck_any c k r W
  obtain ⟨ck, hck⟩ : ∃ ck, Lay.checkI c k r = ck := ⟨_, rfl⟩
  rw [hck] at HK hk
  have f_hk : (ck != 0) = false := by simp [hk]
  unfold geoV at HK
  unfold supV
  dsimp only
  clear hM hu hk hn hr0 hr hck
  go_enter Tryz.func46, Tryz.ntmps46
  go_wp2_with fail
  refine (HK _).mono ?_
  rintro e w1 ⟨rfl, hb1⟩
  have HB : Hid (Below w.heap.size w w1) := ((Below.refl w.heap.size w).alloc (Nat.le_refl _) _).trans (hb1.mono (by rw [World.size_alloc]; omega))
  obtain ⟨m0, m1, m2, m3, m4, m5, m6, m7, m8, m9⟩ := SupAt.below (show SupAt _ w.heap.size 0 ⟨uu, ev, role, c, k, r, cl, b, nw, g⟩ from HN.out) hb1 (by rw [World.size_alloc]; omega)
  simp only [Nat.zero_add] at m1 m2 m3 m4 m5 m6 m7 m8 m9
  clear hb1 HN
  go_wp2
  go_ret
  exact ⟨rfl, HB.out⟩
set_option maxRecDepth 100000 in
set_option maxHeartbeats 2000000 in
theorem rmay_gfar (uu ev : Nat) (role c k r : Int) (cl : Bool) (b nw g : Int) (M : Int) (hM : max c nw = M) (hu : uu ≠ 0) (hk : Lay.checkI c k r = 0) (hn : nw ≠ 0) (hl : ¬ nw ≤ c) (ht : ¬ 10 < nw) (hr0 : role ≠ 254) (hr : role ≠ 255) (hs : ¬ role < 0) (hm : M ≤ role) (w : World) :
    Calls Tryz.prog 46 #[supV ⟨uu, ev, role, c, k, r, cl, b, nw, g⟩] w fun e w' => e = .returned (.bool false) ∧ Below w.heap.size w w' := by
  have hmax := max_run c nw M hM
  have HN : Hid _ := SupAt.new w ⟨uu, ev, role, c, k, r, cl, b, nw, g⟩ 39
  have f_hu : ((uu : Int) == 0) = false := by simp; omega
  have f_hn : (nw != 0) = true := by simp [hn]
  have f_hl : decide (nw ≤ c) = false := decide_eq_false hl
  have f_ht : decide (10 < nw) = false := decide_eq_false ht
  have f_hr0 : (role != 254) = true := by simp [hr0]
  have f_hr : (role != 255) = true := by simp [hr]
  have f_hs : decide (role < 0) = false := decide_eq_false hs
  have f_hm : decide (M ≤ role) = true := decide_eq_true hm
  have HK := fun W => rCheck_any c k r W
  obtain ⟨ck, hck⟩ : ∃ ck, Lay.checkI c k r = ck := ⟨_, rfl⟩
  rw [hck] at HK hk
  have f_hk : (ck != 0) = false := by simp [hk]
  unfold geoV at HK
  unfold supV
  dsimp only
  clear hM hu hk hn hr0 hr hck
  go_enter Tryz.func46, Tryz.ntmps46
  go_wp2_with fail
  refine (HK _).mono ?_
  rintro e w1 ⟨rfl, hb1⟩
  have HB : Hid (Below w.heap.size w w1) := ((Below.refl w.heap.size w).alloc (Nat.le_refl _) _).trans (hb1.mono (by rw [World.size_alloc]; omega))
  obtain ⟨m0, m1, m2, m3, m4, m5, m6, m7, m8, m9⟩ := SupAt.below (show SupAt _ w.heap.size 0 ⟨uu, ev, role, c, k, r, cl, b, nw, g⟩ from HN.out) hb1 (by rw [World.size_alloc]; omega)
  simp only [Nat.zero_add] at m1 m2 m3 m4 m5 m6 m7 m8 m9
  clear hb1 HN
  go_wp2
  go_ret
  exact ⟨rfl, HB.out⟩
set_option maxRecDepth 100000 in
set_option maxHeartbeats 2000000 in
theorem rmay_ga1 (uu ev : Nat) (role c k r : Int) (cl : Bool) (b nw g : Int) (M : Int) (hM : max c nw = M) (hu : uu ≠ 0) (hk : Lay.checkI c k r = 0) (hn : nw ≠ 0) (hl : ¬ nw ≤ c) (ht : ¬ 10 < nw) (hr : role = 254) (hb : ¬ 0 ≤ b) (w : World) :
    Calls Tryz.prog 46 #[supV ⟨uu, ev, role, c, k, r, cl, b, nw, g⟩] w fun e w' => e = .returned (.bool false) ∧ Below w.heap.size w w' := by
  have hmax := max_run c nw M hM
  have HN : Hid _ := SupAt.new w ⟨uu, ev, role, c, k, r, cl, b, nw, g⟩ 39
  have f_hu : ((uu : Int) == 0) = false := by simp; omega
  have f_hn : (nw != 0) = true := by simp [hn]
  have f_hl : decide (nw ≤ c) = false := decide_eq_false hl
  have f_ht : decide (10 < nw) = false := decide_eq_false ht
  have f_hr : (role != 254) = false := by simp [hr]
  have f_hb : decide (0 ≤ b) = false := decide_eq_false hb
  have HK := fun W => rCheck_any c k r W
  obtain ⟨ck, hck⟩ : ∃ ck, Lay.checkI c k r = ck := ⟨_, rfl⟩
  rw [hck] at HK hk
  have f_hk : (ck != 0) = false := by simp [hk]
  unfold geoV at HK
  unfold supV
  dsimp only
  clear hM hu hk hn hr hck
  go_enter Tryz.func46, Tryz.ntmps46
  go_wp2_with fail
  refine (HK _).mono ?_
  rintro e w1 ⟨rfl, hb1⟩
  have HB : Hid (Below w.heap.size w w1) := ((Below.refl w.heap.size w).alloc (Nat.le_refl _) _).trans (hb1.mono (by rw [World.size_alloc]; omega))
  obtain ⟨m0, m1, m2, m3, m4, m5, m6, m7, m8, m9⟩ := SupAt.below (show SupAt _ w.heap.size 0 ⟨uu, ev, role, c, k, r, cl, b, nw, g⟩ from HN.out) hb1 (by rw [World.size_alloc]; omega)
  simp only [Nat.zero_add] at m1 m2 m3 m4 m5 m6 m7 m8 m9
  clear hb1 HN
  go_wp2
  go_ret
  exact ⟨rfl, HB.out⟩
set_option maxRecDepth 100000 in
set_option maxHeartbeats 2000000 in
theorem rmay_ga2 (uu ev : Nat) (role c k r : Int) (cl : Bool) (b nw g : Int) (M : Int) (hM : max c nw = M) (hu : uu ≠ 0) (hk : Lay.checkI c k r = 0) (hn : nw ≠ 0) (hl : ¬ nw ≤ c) (ht : ¬ 10 < nw) (hr : role = 254) (hb : 0 ≤ b) (hc : ¬ b ≤ r) (w : World) :
    Calls Tryz.prog 46 #[supV ⟨uu, ev, role, c, k, r, cl, b, nw, g⟩] w fun e w' => e = .returned (.bool false) ∧ Below w.heap.size w w' := by
  have hmax := max_run c nw M hM
  have HN : Hid _ := SupAt.new w ⟨uu, ev, role, c, k, r, cl, b, nw, g⟩ 39
  have f_hu : ((uu : Int) == 0) = false := by simp; omega
  have f_hn : (nw != 0) = true := by simp [hn]
  have f_hl : decide (nw ≤ c) = false := decide_eq_false hl
  have f_ht : decide (10 < nw) = false := decide_eq_false ht
  have f_hr : (role != 254) = false := by simp [hr]
  have f_hb : decide (0 ≤ b) = true := decide_eq_true hb
  have f_hc : decide (b ≤ r) = false := decide_eq_false hc
  have HK := fun W => rCheck_any c k r W
  obtain ⟨ck, hck⟩ : ∃ ck, Lay.checkI c k r = ck := ⟨_, rfl⟩
  rw [hck] at HK hk
  have f_hk : (ck != 0) = false := by simp [hk]
  unfold geoV at HK
  unfold supV
  dsimp only
  clear hM hu hk hn hr hck
  go_enter Tryz.func46, Tryz.ntmps46
  go_wp2_with fail
  refine (HK _).mono ?_
  rintro e w1 ⟨rfl, hb1⟩
  have HB : Hid (Below w.heap.size w w1) := ((Below.refl w.heap.size w).alloc (Nat.le_refl _) _).trans (hb1.mono (by rw [World.size_alloc]; omega))
  obtain ⟨m0, m1, m2, m3, m4, m5, m6, m7, m8, m9⟩ := SupAt.below (show SupAt _ w.heap.size 0 ⟨uu, ev, role, c, k, r, cl, b, nw, g⟩ from HN.out) hb1 (by rw [World.size_alloc]; omega)
  simp only [Nat.zero_add] at m1 m2 m3 m4 m5 m6 m7 m8 m9
  clear hb1 HN
  go_wp2
  go_ret
  exact ⟨rfl, HB.out⟩
set_option maxRecDepth 100000 in
set_option maxHeartbeats 2000000 in
theorem rmay_ga3 (uu ev : Nat) (role c k r : Int) (cl : Bool) (b nw g : Int) (M : Int) (hM : max c nw = M) (hu : uu ≠ 0) (hk : Lay.checkI c k r = 0) (hn : nw ≠ 0) (hl : ¬ nw ≤ c) (ht : ¬ 10 < nw) (hr : role = 254) (hb : 0 ≤ b) (hc : b ≤ r) (hg : ¬ 0 ≤ g) (w : World) :
    Calls Tryz.prog 46 #[supV ⟨uu, ev, role, c, k, r, cl, b, nw, g⟩] w fun e w' => e = .returned (.bool false) ∧ Below w.heap.size w w' := by
  have hmax := max_run c nw M hM
  have HN : Hid _ := SupAt.new w ⟨uu, ev, role, c, k, r, cl, b, nw, g⟩ 39
  have f_hu : ((uu : Int) == 0) = false := by simp; omega
  have f_hn : (nw != 0) = true := by simp [hn]
  have f_hl : decide (nw ≤ c) = false := decide_eq_false hl
  have f_ht : decide (10 < nw) = false := decide_eq_false ht
  have f_hr : (role != 254) = false := by simp [hr]
  have f_hb : decide (0 ≤ b) = true := decide_eq_true hb
  have f_hc : decide (b ≤ r) = true := decide_eq_true hc
  have f_hg : decide (0 ≤ g) = false := decide_eq_false hg
  have HK := fun W => rCheck_any c k r W
  obtain ⟨ck, hck⟩ : ∃ ck, Lay.checkI c k r = ck := ⟨_, rfl⟩
  rw [hck] at HK hk
  have f_hk : (ck != 0) = false := by simp [hk]
  unfold geoV at HK
  unfold supV
  dsimp only
  clear hM hu hk hn hr hck
  go_enter Tryz.func46, Tryz.ntmps46
  go_wp2_with fail
  refine (HK _).mono ?_
  rintro e w1 ⟨rfl, hb1⟩
  have HB : Hid (Below w.heap.size w w1) := ((Below.refl w.heap.size w).alloc (Nat.le_refl _) _).trans (hb1.mono (by rw [World.size_alloc]; omega))
  obtain ⟨m0, m1, m2, m3, m4, m5, m6, m7, m8, m9⟩ := SupAt.below (show SupAt _ w.heap.size 0 ⟨uu, ev, role, c, k, r, cl, b, nw, g⟩ from HN.out) hb1 (by rw [World.size_alloc]; omega)
  simp only [Nat.zero_add] at m1 m2 m3 m4 m5 m6 m7 m8 m9
  clear hb1 HN
  go_wp2
  go_ret
  exact ⟨rfl, HB.out⟩
set_option maxRecDepth 100000 in
set_option maxHeartbeats 2000000 in
theorem rmay_ga4 (uu ev : Nat) (role c k r : Int) (cl : Bool) (b nw g : Int) (M : Int) (hM : max c nw = M) (hu : uu ≠ 0) (hk : Lay.checkI c k r = 0) (hn : nw ≠ 0) (hl : ¬ nw ≤ c) (ht : ¬ 10 < nw) (hr : role = 254) (hb : 0 ≤ b) (hc : b ≤ r) (hg : 0 ≤ g) (hh : ¬ g ≤ r) (w : World) :
    Calls Tryz.prog 46 #[supV ⟨uu, ev, role, c, k, r, cl, b, nw, g⟩] w fun e w' => e = .returned (.bool false) ∧ Below w.heap.size w w' := by
  have hmax := max_run c nw M hM
  have HN : Hid _ := SupAt.new w ⟨uu, ev, role, c, k, r, cl, b, nw, g⟩ 39
  have f_hu : ((uu : Int) == 0) = false := by simp; omega
  have f_hn : (nw != 0) = true := by simp [hn]
  have f_hl : decide (nw ≤ c) = false := decide_eq_false hl
  have f_ht : decide (10 < nw) = false := decide_eq_false ht
  have f_hr : (role != 254) = false := by simp [hr]
  have f_hb : decide (0 ≤ b) = true := decide_eq_true hb
  have f_hc : decide (b ≤ r) = true := decide_eq_true hc
  have f_hg : decide (0 ≤ g) = true := decide_eq_true hg
  have f_hh : decide (g ≤ r) = false := decide_eq_false hh
  have HK := fun W => rCheck_any c k r W
  obtain ⟨ck, hck⟩ : ∃ ck, Lay.checkI c k r = ck := ⟨_, rfl⟩
  rw [hck] at HK hk
  have f_hk : (ck != 0) = false := by simp [hk]
  unfold geoV at HK
  unfold supV
  dsimp only
  clear hM hu hk hn hr hck
  go_enter Tryz.func46, Tryz.ntmps46
  go_wp2_with fail
  refine (HK _).mono ?_
  rintro e w1 ⟨rfl, hb1⟩
  have HB : Hid (Below w.heap.size w w1) := ((Below.refl w.heap.size w).alloc (Nat.le_refl _) _).trans (hb1.mono (by rw [World.size_alloc]; omega))
  obtain ⟨m0, m1, m2, m3, m4, m5, m6, m7, m8, m9⟩ := SupAt.below (show SupAt _ w.heap.size 0 ⟨uu, ev, role, c, k, r, cl, b, nw, g⟩ from HN.out) hb1 (by rw [World.size_alloc]; omega)
  simp only [Nat.zero_add] at m1 m2 m3 m4 m5 m6 m7 m8 m9
  clear hb1 HN
  go_wp2
  go_ret
  exact ⟨rfl, HB.out⟩
set_option maxRecDepth 100000 in
set_option maxHeartbeats 2000000 in
theorem rmay_ga5 (uu ev : Nat) (role c k r : Int) (cl : Bool) (b nw g : Int) (M : Int) (hM : max c nw = M) (hu : uu ≠ 0) (hk : Lay.checkI c k r = 0) (hn : nw ≠ 0) (hl : ¬ nw ≤ c) (ht : ¬ 10 < nw) (hr : role = 254) (hb : 0 ≤ b) (hc : b ≤ r) (hg : 0 ≤ g) (hh : g ≤ r) (w : World) :
    Calls Tryz.prog 46 #[supV ⟨uu, ev, role, c, k, r, cl, b, nw, g⟩] w fun e w' => e = .returned (.bool true) ∧ Below w.heap.size w w' := by
  have hmax := max_run c nw M hM
  have HN : Hid _ := SupAt.new w ⟨uu, ev, role, c, k, r, cl, b, nw, g⟩ 39
  have f_hu : ((uu : Int) == 0) = false := by simp; omega
  have f_hn : (nw != 0) = true := by simp [hn]
  have f_hl : decide (nw ≤ c) = false := decide_eq_false hl
  have f_ht : decide (10 < nw) = false := decide_eq_false ht
  have f_hr : (role != 254) = false := by simp [hr]
  have f_hb : decide (0 ≤ b) = true := decide_eq_true hb
  have f_hc : decide (b ≤ r) = true := decide_eq_true hc
  have f_hg : decide (0 ≤ g) = true := decide_eq_true hg
  have f_hh : decide (g ≤ r) = true := decide_eq_true hh
  have HK := fun W => rCheck_any c k r W
  obtain ⟨ck, hck⟩ : ∃ ck, Lay.checkI c k r = ck := ⟨_, rfl⟩
  rw [hck] at HK hk
  have f_hk : (ck != 0) = false := by simp [hk]
  unfold geoV at HK
  unfold supV
  dsimp only
  clear hM hu hk hn hr hck
  go_enter Tryz.func46, Tryz.ntmps46
  go_wp2_with fail
  refine (HK _).mono ?_
  rintro e w1 ⟨rfl, hb1⟩
  have HB : Hid (Below w.heap.size w w1) := ((Below.refl w.heap.size w).alloc (Nat.le_refl _) _).trans (hb1.mono (by rw [World.size_alloc]; omega))
  obtain ⟨m0, m1, m2, m3, m4, m5, m6, m7, m8, m9⟩ := SupAt.below (show SupAt _ w.heap.size 0 ⟨uu, ev, role, c, k, r, cl, b, nw, g⟩ from HN.out) hb1 (by rw [World.size_alloc]; omega)
  simp only [Nat.zero_add] at m1 m2 m3 m4 m5 m6 m7 m8 m9
  clear hb1 HN
  go_wp2
  go_ret
  exact ⟨rfl, HB.out⟩
set_option maxRecDepth 100000 in
set_option maxHeartbeats 2000000 in
theorem rmay_gb1 (uu ev : Nat) (role c k r : Int) (cl : Bool) (b nw g : Int) (M : Int) (hM : max c nw = M) (hu : uu ≠ 0) (hk : Lay.checkI c k r = 0) (hn : nw ≠ 0) (hl : ¬ nw ≤ c) (ht : ¬ 10 < nw) (hr0 : role ≠ 254) (hr : role = 255) (hb : ¬ 0 ≤ b) (w : World) :
    Calls Tryz.prog 46 #[supV ⟨uu, ev, role, c, k, r, cl, b, nw, g⟩] w fun e w' => e = .returned (.bool false) ∧ Below w.heap.size w w' := by
  have hmax := max_run c nw M hM
  have HN : Hid _ := SupAt.new w ⟨uu, ev, role, c, k, r, cl, b, nw, g⟩ 39
  have f_hu : ((uu : Int) == 0) = false := by simp; omega
  have f_hn : (nw != 0) = true := by simp [hn]
  have f_hl : decide (nw ≤ c) = false := decide_eq_false hl
  have f_ht : decide (10 < nw) = false := decide_eq_false ht
  have f_hr0 : (role != 254) = true := by simp [hr0]
  have f_hr : (role != 255) = false := by simp [hr]
  have f_hb : decide (0 ≤ b) = false := decide_eq_false hb
  have HK := fun W => rCheck_any c k r W
  obtain ⟨ck, hck⟩ : ∃ ck, Lay.checkI c k r = ck := ⟨_, rfl⟩
  rw [hck] at HK hk
  have f_hk : (ck != 0) = false := by simp [hk]
  unfold geoV at HK
  unfold supV
  dsimp only
  clear hM hu hk hn hr0 hr hck
  go_enter Tryz.func46, Tryz.ntmps46
  go_wp2_with fail
  refine (HK _).mono ?_
  rintro e w1 ⟨rfl, hb1⟩
  have HB : Hid (Below w.heap.size w w1) := ((Below.refl w.heap.size w).alloc (Nat.le_refl _) _).trans (hb1.mono (by rw [World.size_alloc]; omega))
  obtain ⟨m0, m1, m2, m3, m4, m5, m6, m7, m8, m9⟩ := SupAt.below (show SupAt _ w.heap.size 0 ⟨uu, ev, role, c, k, r, cl, b, nw, g⟩ from HN.out) hb1 (by rw [World.size_alloc]; omega)
  simp only [Nat.zero_add] at m1 m2 m3 m4 m5 m6 m7 m8 m9
  clear hb1 HN
  go_wp2
  go_ret
  exact ⟨rfl, HB.out⟩
set_option maxRecDepth 100000 in
set_option maxHeartbeats 2000000 in
theorem rmay_gb2 (uu ev : Nat) (role c k r : Int) (cl : Bool) (b nw g : Int) (M : Int) (hM : max c nw = M) (hu : uu ≠ 0) (hk : Lay.checkI c k r = 0) (hn : nw ≠ 0) (hl : ¬ nw ≤ c) (ht : ¬ 10 < nw) (hr0 : role ≠ 254) (hr : role = 255) (hb : 0 ≤ b) (hc : ¬ b ≤ r) (w : World) :
    Calls Tryz.prog 46 #[supV ⟨uu, ev, role, c, k, r, cl, b, nw, g⟩] w fun e w' => e = .returned (.bool false) ∧ Below w.heap.size w w' := by
  have hmax := max_run c nw M hM
  have HN : Hid _ := SupAt.new w ⟨uu, ev, role, c, k, r, cl, b, nw, g⟩ 39
  have f_hu : ((uu : Int) == 0) = false := by simp; omega
  have f_hn : (nw != 0) = true := by simp [hn]
  have f_hl : decide (nw ≤ c) = false := decide_eq_false hl
  have f_ht : decide (10 < nw) = false := decide_eq_false ht
  have f_hr0 : (role != 254) = true := by simp [hr0]
  have f_hr : (role != 255) = false := by simp [hr]
  have f_hb : decide (0 ≤ b) = true := decide_eq_true hb
  have f_hc : decide (b ≤ r) = false := decide_eq_false hc
  have HK := fun W => rCheck_any c k r W
  obtain ⟨ck, hck⟩ : ∃ ck, Lay.checkI c k r = ck := ⟨_, rfl⟩
  rw [hck] at HK hk
  have f_hk : (ck != 0) = false := by simp [hk]
  unfold geoV at HK
  unfold supV
  dsimp only
  clear hM hu hk hn hr0 hr hck
  go_enter Tryz.func46, Tryz.ntmps46
  go_wp2_with fail
  refine (HK _).mono ?_
  rintro e w1 ⟨rfl, hb1⟩
  have HB : Hid (Below w.heap.size w w1) := ((Below.refl w.heap.size w).alloc (Nat.le_refl _) _).trans (hb1.mono (by rw [World.size_alloc]; omega))
  obtain ⟨m0, m1, m2, m3, m4, m5, m6, m7, m8, m9⟩ := SupAt.below (show SupAt _ w.heap.size 0 ⟨uu, ev, role, c, k, r, cl, b, nw, g⟩ from HN.out) hb1 (by rw [World.size_alloc]; omega)
  simp only [Nat.zero_add] at m1 m2 m3 m4 m5 m6 m7 m8 m9
  clear hb1 HN
  go_wp2
  go_ret
  exact ⟨rfl, HB.out⟩
set_option maxRecDepth 100000 in
set_option maxHeartbeats 2000000 in
theorem rmay_gb3 (uu ev : Nat) (role c k r : Int) (cl : Bool) (b nw g : Int) (M : Int) (hM : max c nw = M) (hu : uu ≠ 0) (hk : Lay.checkI c k r = 0) (hn : nw ≠ 0) (hl : ¬ nw ≤ c) (ht : ¬ 10 < nw) (hr0 : role ≠ 254) (hr : role = 255) (hb : 0 ≤ b) (hc : b ≤ r) (hg : ¬ 0 ≤ g) (w : World) :
    Calls Tryz.prog 46 #[supV ⟨uu, ev, role, c, k, r, cl, b, nw, g⟩] w fun e w' => e = .returned (.bool false) ∧ Below w.heap.size w w' := by
  have hmax := max_run c nw M hM
  have HN : Hid _ := SupAt.new w ⟨uu, ev, role, c, k, r, cl, b, nw, g⟩ 39
  have f_hu : ((uu : Int) == 0) = false := by simp; omega
  have f_hn : (nw != 0) = true := by simp [hn]
  have f_hl : decide (nw ≤ c) = false := decide_eq_false hl
  have f_ht : decide (10 < nw) = false := decide_eq_false ht
  have f_hr0 : (role != 254) = true := by simp [hr0]
  have f_hr : (role != 255) = false := by simp [hr]
  have f_hb : decide (0 ≤ b) = true := decide_eq_true hb
  have f_hc : decide (b ≤ r) = true := decide_eq_true hc
  have f_hg : decide (0 ≤ g) = false := decide_eq_false hg
  have HK := fun W => rCheck_any c k r W
  obtain ⟨ck, hck⟩ : ∃ ck, Lay.checkI c k r = ck := ⟨_, rfl⟩
  rw [hck] at HK hk
  have f_hk : (ck != 0) = false := by simp [hk]
  unfold geoV at HK
  unfold supV
  dsimp only
  clear hM hu hk hn hr0 hr hck
  go_enter Tryz.func46, Tryz.ntmps46
  go_wp2_with fail
  refine (HK _).mono ?_
  rintro e w1 ⟨rfl, hb1⟩
  have HB : Hid (Below w.heap.size w w1) := ((Below.refl w.heap.size w).alloc (Nat.le_refl _) _).trans (hb1.mono (by rw [World.size_alloc]; omega))
  obtain ⟨m0, m1, m2, m3, m4, m5, m6, m7, m8, m9⟩ := SupAt.below (show SupAt _ w.heap.size 0 ⟨uu, ev, role, c, k, r, cl, b, nw, g⟩ from HN.out) hb1 (by rw [World.size_alloc]; omega)
  simp only [Nat.zero_add] at m1 m2 m3 m4 m5 m6 m7 m8 m9
  clear hb1 HN
  go_wp2
  go_ret
  exact ⟨rfl, HB.out⟩
set_option maxRecDepth 100000 in
set_option maxHeartbeats 2000000 in
theorem rmay_gb4 (uu ev : Nat) (role c k r : Int) (cl : Bool) (b nw g : Int) (M : Int) (hM : max c nw = M) (hu : uu ≠ 0) (hk : Lay.checkI c k r = 0) (hn : nw ≠ 0) (hl : ¬ nw ≤ c) (ht : ¬ 10 < nw) (hr0 : role ≠ 254) (hr : role = 255) (hb : 0 ≤ b) (hc : b ≤ r) (hg : 0 ≤ g) (hh : ¬ g ≤ r) (w : World) :
    Calls Tryz.prog 46 #[supV ⟨uu, ev, role, c, k, r, cl, b, nw, g⟩] w fun e w' => e = .returned (.bool false) ∧ Below w.heap.size w w' := by
  have hmax := max_run c nw M hM
  have HN : Hid _ := SupAt.new w ⟨uu, ev, role, c, k, r, cl, b, nw, g⟩ 39
  have f_hu : ((uu : Int) == 0) = false := by simp; omega
  have f_hn : (nw != 0) = true := by simp [hn]
  have f_hl : decide (nw ≤ c) = false := decide_eq_false hl
  have f_ht : decide (10 < nw) = false := decide_eq_false ht
  have f_hr0 : (role != 254) = true := by simp [hr0]
  have f_hr : (role != 255) = false := by simp [hr]
  have f_hb : decide (0 ≤ b) = true := decide_eq_true hb
  have f_hc : decide (b ≤ r) = true := decide_eq_true hc
  have f_hg : decide (0 ≤ g) = true := decide_eq_true hg
  have f_hh : decide (g ≤ r) = false := decide_eq_false hh
  have HK := fun W => rCheck_any c k r W
  obtain ⟨ck, hck⟩ : ∃ ck, Lay.checkI c k r = ck := ⟨_, rfl⟩
  rw [hck] at HK hk
  have f_hk : (ck != 0) = false := by simp [hk]
  unfold geoV at HK
  unfold supV
  dsimp only
  clear hM hu hk hn hr0 hr hck
  go_enter Tryz.func46, Tryz.ntmps46
  go_wp2_with fail
  refine (HK _).mono ?_
  rintro e w1 ⟨rfl, hb1⟩
  have HB : Hid (Below w.heap.size w w1) := ((Below.refl w.heap.size w).alloc (Nat.le_refl _) _).trans (hb1.mono (by rw [World.size_alloc]; omega))
  obtain ⟨m0, m1, m2, m3, m4, m5, m6, m7, m8, m9⟩ := SupAt.below (show SupAt _ w.heap.size 0 ⟨uu, ev, role, c, k, r, cl, b, nw, g⟩ from HN.out) hb1 (by rw [World.size_alloc]; omega)
  simp only [Nat.zero_add] at m1 m2 m3 m4 m5 m6 m7 m8 m9
  clear hb1 HN
  go_wp2
  go_ret
  exact ⟨rfl, HB.out⟩
set_option maxRecDepth 100000 in
set_option maxHeartbeats 2000000 in
theorem rmay_gb5 (uu ev : Nat) (role c k r : Int) (cl : Bool) (b nw g : Int) (M : Int) (hM : max c nw = M) (hu : uu ≠ 0) (hk : Lay.checkI c k r = 0) (hn : nw ≠ 0) (hl : ¬ nw ≤ c) (ht : ¬ 10 < nw) (hr0 : role ≠ 254) (hr : role = 255) (hb : 0 ≤ b) (hc : b ≤ r) (hg : 0 ≤ g) (hh : g ≤ r) (w : World) :
    Calls Tryz.prog 46 #[supV ⟨uu, ev, role, c, k, r, cl, b, nw, g⟩] w fun e w' => e = .returned (.bool true) ∧ Below w.heap.size w w' := by
  have hmax := max_run c nw M hM
  have HN : Hid _ := SupAt.new w ⟨uu, ev, role, c, k, r, cl, b, nw, g⟩ 39
  have f_hu : ((uu : Int) == 0) = false := by simp; omega
  have f_hn : (nw != 0) = true := by simp [hn]
  have f_hl : decide (nw ≤ c) = false := decide_eq_false hl
  have f_ht : decide (10 < nw) = false := decide_eq_false ht
  have f_hr0 : (role != 254) = true := by simp [hr0]
  have f_hr : (role != 255) = false := by simp [hr]
  have f_hb : decide (0 ≤ b) = true := decide_eq_true hb
  have f_hc : decide (b ≤ r) = true := decide_eq_true hc
  have f_hg : decide (0 ≤ g) = true := decide_eq_true hg
  have f_hh : decide (g ≤ r) = true := decide_eq_true hh
  have HK := fun W => rCheck_any c k r W
  obtain ⟨ck, hck⟩ : ∃ ck, Lay.checkI c k r = ck := ⟨_, rfl⟩
  rw [hck] at HK hk
  have f_hk : (ck != 0) = false := by simp [hk]
  unfold geoV at HK
  unfold supV
  dsimp only
  clear hM hu hk hn hr0 hr hck
  go_enter Tryz.func46, Tryz.ntmps46
  go_wp2_with fail
  refine (HK _).mono ?_
  rintro e w1 ⟨rfl, hb1⟩
  have HB : Hid (Below w.heap.size w w1) := ((Below.refl w.heap.size w).alloc (Nat.le_refl _) _).trans (hb1.mono (by rw [World.size_alloc]; omega))
  obtain ⟨m0, m1, m2, m3, m4, m5, m6, m7, m8, m9⟩ := SupAt.below (show SupAt _ w.heap.size 0 ⟨uu, ev, role, c, k, r, cl, b, nw, g⟩ from HN.out) hb1 (by rw [World.size_alloc]; omega)
  simp only [Nat.zero_add] at m1 m2 m3 m4 m5 m6 m7 m8 m9
  clear hb1 HN
  go_wp2
  go_ret
  exact ⟨rfl, HB.out⟩
set_option maxRecDepth 100000 in
set_option maxHeartbeats 2000000 in
theorem rmay_gc1 (uu ev : Nat) (role c k r : Int) (cl : Bool) (b nw g : Int) (M : Int) (hM : max c nw = M) (hu : uu ≠ 0) (hk : Lay.checkI c k r = 0) (hn : nw ≠ 0) (hl : ¬ nw ≤ c) (ht : ¬ 10 < nw) (hr0 : role ≠ 254) (hr : role ≠ 255) (hs : ¬ role < 0) (hm : ¬ M ≤ role) (hb : ¬ 0 ≤ b) (w : World) :
    Calls Tryz.prog 46 #[supV ⟨uu, ev, role, c, k, r, cl, b, nw, g⟩] w fun e w' => e = .returned (.bool false) ∧ Below w.heap.size w w' := by
  have hmax := max_run c nw M hM
  have HN : Hid _ := SupAt.new w ⟨uu, ev, role, c, k, r, cl, b, nw, g⟩ 39
  have f_hu : ((uu : Int) == 0) = false := by simp; omega
  have f_hn : (nw != 0) = true := by simp [hn]
  have f_hl : decide (nw ≤ c) = false := decide_eq_false hl
  have f_ht : decide (10 < nw) = false := decide_eq_false ht
  have f_hr0 : (role != 254) = true := by simp [hr0]
  have f_hr : (role != 255) = true := by simp [hr]
  have f_hs : decide (role < 0) = false := decide_eq_false hs
  have f_hm : decide (M ≤ role) = false := decide_eq_false hm
  have f_hb : decide (0 ≤ b) = false := decide_eq_false hb
  have HK := fun W => rCheck_any c k r W
  obtain ⟨ck, hck⟩ : ∃ ck, Lay.checkI c k r = ck := ⟨_, rfl⟩
  rw [hck] at HK hk
  have f_hk : (ck != 0) = false := by simp [hk]
  unfold geoV at HK
  unfold supV
  dsimp only
  clear hM hu hk hn hr0 hr hck
  go_enter Tryz.func46, Tryz.ntmps46
  go_wp2_with fail
  refine (HK _).mono ?_
  rintro e w1 ⟨rfl, hb1⟩
  have HB : Hid (Below w.heap.size w w1) := ((Below.refl w.heap.size w).alloc (Nat.le_refl _) _).trans (hb1.mono (by rw [World.size_alloc]; omega))
  obtain ⟨m0, m1, m2, m3, m4, m5, m6, m7, m8, m9⟩ := SupAt.below (show SupAt _ w.heap.size 0 ⟨uu, ev, role, c, k, r, cl, b, nw, g⟩ from HN.out) hb1 (by rw [World.size_alloc]; omega)
  simp only [Nat.zero_add] at m1 m2 m3 m4 m5 m6 m7 m8 m9
  clear hb1 HN
  go_wp2
  go_ret
  exact ⟨rfl, HB.out⟩
set_option maxRecDepth 100000 in
set_option maxHeartbeats 2000000 in
theorem rmay_gc2 (uu ev : Nat) (role c k r : Int) (cl : Bool) (b nw g : Int) (M : Int) (hM : max c nw = M) (hu : uu ≠ 0) (hk : Lay.checkI c k r = 0) (hn : nw ≠ 0) (hl : ¬ nw ≤ c) (ht : ¬ 10 < nw) (hr0 : role ≠ 254) (hr : role ≠ 255) (hs : ¬ role < 0) (hm : ¬ M ≤ role) (hb : 0 ≤ b) (hc : ¬ b ≤ r) (w : World) :
    Calls Tryz.prog 46 #[supV ⟨uu, ev, role, c, k, r, cl, b, nw, g⟩] w fun e w' => e = .returned (.bool false) ∧ Below w.heap.size w w' := by
  have hmax := max_run c nw M hM
  have HN : Hid _ := SupAt.new w ⟨uu, ev, role, c, k, r, cl, b, nw, g⟩ 39
  have f_hu : ((uu : Int) == 0) = false := by simp; omega
  have f_hn : (nw != 0) = true := by simp [hn]
  have f_hl : decide (nw ≤ c) = false := decide_eq_false hl
  have f_ht : decide (10 < nw) = false := decide_eq_false ht
  have f_hr0 : (role != 254) = true := by simp [hr0]
  have f_hr : (role != 255) = true := by simp [hr]
  have f_hs : decide (role < 0) = false := decide_eq_false hs
  have f_hm : decide (M ≤ role) = false := decide_eq_false hm
  have f_hb : decide (0 ≤ b) = true := decide_eq_true hb
  have f_hc : decide (b ≤ r) = false := decide_eq_false hc
  have HK := fun W => rCheck_any c k r W
  obtain ⟨ck, hck⟩ : ∃ ck, Lay.checkI c k r = ck := ⟨_, rfl⟩
  rw [hck] at HK hk
  have f_hk : (ck != 0) = false := by simp [hk]
  unfold geoV at HK
  unfold supV
  dsimp only
  clear hM hu hk hn hr0 hr hck
  go_enter Tryz.func46, Tryz.ntmps46
  go_wp2_with fail
  refine (HK _).mono ?_
  rintro e w1 ⟨rfl, hb1⟩
  have HB : Hid (Below w.heap.size w w1) := ((Below.refl w.heap.size w).alloc (Nat.le_refl _) _).trans (hb1.mono (by rw [World.size_alloc]; omega))
  obtain ⟨m0, m1, m2, m3, m4, m5, m6, m7, m8, m9⟩ := SupAt.below (show SupAt _ w.heap.size 0 ⟨uu, ev, role, c, k, r, cl, b, nw, g⟩ from HN.out) hb1 (by rw [World.size_alloc]; omega)
  simp only [Nat.zero_add] at m1 m2 m3 m4 m5 m6 m7 m8 m9
  clear hb1 HN
  go_wp2
  go_ret
  exact ⟨rfl, HB.out⟩
set_option maxRecDepth 100000 in
set_option maxHeartbeats 2000000 in
theorem rmay_gc3 (uu ev : Nat) (role c k r : Int) (cl : Bool) (b nw g : Int) (M : Int) (hM : max c nw = M) (hu : uu ≠ 0) (hk : Lay.checkI c k r = 0) (hn : nw ≠ 0) (hl : ¬ nw ≤ c) (ht : ¬ 10 < nw) (hr0 : role ≠ 254) (hr : role ≠ 255) (hs : ¬ role < 0) (hm : ¬ M ≤ role) (hb : 0 ≤ b) (hc : b ≤ r) (hg : ¬ 0 ≤ g) (w : World) :
    Calls Tryz.prog 46 #[supV ⟨uu, ev, role, c, k, r, cl, b, nw, g⟩] w fun e w' => e = .returned (.bool false) ∧ Below w.heap.size w w' := by
  have hmax := max_run c nw M hM
  have HN : Hid _ := SupAt.new w ⟨uu, ev, role, c, k, r, cl, b, nw, g⟩ 39
  have f_hu : ((uu : Int) == 0) = false := by simp; omega
  have f_hn : (nw != 0) = true := by simp [hn]
  have f_hl : decide (nw ≤ c) = false := decide_eq_false hl
  have f_ht : decide (10 < nw) = false := decide_eq_false ht
  have f_hr0 : (role != 254) = true := by simp [hr0]
  have f_hr : (role != 255) = true := by simp [hr]
  have f_hs : decide (role < 0) = false := decide_eq_false hs
  have f_hm : decide (M ≤ role) = false := decide_eq_false hm
  have f_hb : decide (0 ≤ b) = true := decide_eq_true hb
  have f_hc : decide (b ≤ r) = true := decide_eq_true hc
  have f_hg : decide (0 ≤ g) = false := decide_eq_false hg
  have HK := fun W => rCheck_any c k r W
  obtain ⟨ck, hck⟩ : ∃ ck, Lay.checkI c k r = ck := ⟨_, rfl⟩
  rw [hck] at HK hk
  have f_hk : (ck != 0) = false := by simp [hk]
  unfold geoV at HK
  unfold supV
  dsimp only
  clear hM hu hk hn hr0 hr hck
  go_enter Tryz.func46, Tryz.ntmps46
  go_wp2_with fail
  refine (HK _).mono ?_
  rintro e w1 ⟨rfl, hb1⟩
  have HB : Hid (Below w.heap.size w w1) := ((Below.refl w.heap.size w).alloc (Nat.le_refl _) _).trans (hb1.mono (by rw [World.size_alloc]; omega))
  obtain ⟨m0, m1, m2, m3, m4, m5, m6, m7, m8, m9⟩ := SupAt.below (show SupAt _ w.heap.size 0 ⟨uu, ev, role, c, k, r, cl, b, nw, g⟩ from HN.out) hb1 (by rw [World.size_alloc]; omega)
  simp only [Nat.zero_add] at m1 m2 m3 m4 m5 m6 m7 m8 m9
  clear hb1 HN
  go_wp2
  go_ret
  exact ⟨rfl, HB.out⟩
set_option maxRecDepth 100000 in
set_option maxHeartbeats 2000000 in
theorem rmay_gc4 (uu ev : Nat) (role c k r : Int) (cl : Bool) (b nw g : Int) (M : Int) (hM : max c nw = M) (hu : uu ≠ 0) (hk : Lay.checkI c k r = 0) (hn : nw ≠ 0) (hl : ¬ nw ≤ c) (ht : ¬ 10 < nw) (hr0 : role ≠ 254) (hr : role ≠ 255) (hs : ¬ role < 0) (hm : ¬ M ≤ role) (hb : 0 ≤ b) (hc : b ≤ r) (hg : 0 ≤ g) (hh : ¬ g ≤ r) (w : World) :
    Calls Tryz.prog 46 #[supV ⟨uu, ev, role, c, k, r, cl, b, nw, g⟩] w fun e w' => e = .returned (.bool false) ∧ Below w.heap.size w w' := by
  have hmax := max_run c nw M hM
  have HN : Hid _ := SupAt.new w ⟨uu, ev, role, c, k, r, cl, b, nw, g⟩ 39
  have f_hu : ((uu : Int) == 0) = false := by simp; omega
  have f_hn : (nw != 0) = true := by simp [hn]
  have f_hl : decide (nw ≤ c) = false := decide_eq_false hl
  have f_ht : decide (10 < nw) = false := decide_eq_false ht
  have f_hr0 : (role != 254) = true := by simp [hr0]
  have f_hr : (role != 255) = true := by simp [hr]
  have f_hs : decide (role < 0) = false := decide_eq_false hs
  have f_hm : decide (M ≤ role) = false := decide_eq_false hm
  have f_hb : decide (0 ≤ b) = true := decide_eq_true hb
  have f_hc : decide (b ≤ r) = true := decide_eq_true hc
  have f_hg : decide (0 ≤ g) = true := decide_eq_true hg
  have f_hh : decide (g ≤ r) = false := decide_eq_false hh
  have HK := fun W => rCheck_any c k r W
  obtain ⟨ck, hck⟩ : ∃ ck, Lay.checkI c k r = ck := ⟨_, rfl⟩
  rw [hck] at HK hk
  have f_hk : (ck != 0) = false := by simp [hk]
  unfold geoV at HK
  unfold supV
  dsimp only
  clear hM hu hk hn hr0 hr hck
  go_enter Tryz.func46, Tryz.ntmps46
  go_wp2_with fail
  refine (HK _).mono ?_
  rintro e w1 ⟨rfl, hb1⟩
  have HB : Hid (Below w.heap.size w w1) := ((Below.refl w.heap.size w).alloc (Nat.le_refl _) _).trans (hb1.mono (by rw [World.size_alloc]; omega))
  obtain ⟨m0, m1, m2, m3, m4, m5, m6, m7, m8, m9⟩ := SupAt.below (show SupAt _ w.heap.size 0 ⟨uu, ev, role, c, k, r, cl, b, nw, g⟩ from HN.out) hb1 (by rw [World.size_alloc]; omega)
  simp only [Nat.zero_add] at m1 m2 m3 m4 m5 m6 m7 m8 m9
  clear hb1 HN
  go_wp2
  go_ret
  exact ⟨rfl, HB.out⟩
set_option maxRecDepth 100000 in
set_option maxHeartbeats 2000000 in
theorem rmay_gc5 (uu ev : Nat) (role c k r : Int) (cl : Bool) (b nw g : Int) (M : Int) (hM : max c nw = M) (hu : uu ≠ 0) (hk : Lay.checkI c k r = 0) (hn : nw ≠ 0) (hl : ¬ nw ≤ c) (ht : ¬ 10 < nw) (hr0 : role ≠ 254) (hr : role ≠ 255) (hs : ¬ role < 0) (hm : ¬ M ≤ role) (hb : 0 ≤ b) (hc : b ≤ r) (hg : 0 ≤ g) (hh : g ≤ r) (w : World) :
    Calls Tryz.prog 46 #[supV ⟨uu, ev, role, c, k, r, cl, b, nw, g⟩] w fun e w' => e = .returned (.bool true) ∧ Below w.heap.size w w' := by
  have hmax := max_run c nw M hM
  have HN : Hid _ := SupAt.new w ⟨uu, ev, role, c, k, r, cl, b, nw, g⟩ 39
  have f_hu : ((uu : Int) == 0) = false := by simp; omega
  have f_hn : (nw != 0) = true := by simp [hn]
  have f_hl : decide (nw ≤ c) = false := decide_eq_false hl
  have f_ht : decide (10 < nw) = false := decide_eq_false ht
  have f_hr0 : (role != 254) = true := by simp [hr0]
  have f_hr : (role != 255) = true := by simp [hr]
  have f_hs : decide (role < 0) = false := decide_eq_false hs
  have f_hm : decide (M ≤ role) = false := decide_eq_false hm
  have f_hb : decide (0 ≤ b) = true := decide_eq_true hb
  have f_hc : decide (b ≤ r) = true := decide_eq_true hc
  have f_hg : decide (0 ≤ g) = true := decide_eq_true hg
  have f_hh : decide (g ≤ r) = true := decide_eq_true hh
  have HK := fun W => rCheck_any c k r W
  obtain ⟨ck, hck⟩ : ∃ ck, Lay.checkI c k r = ck := ⟨_, rfl⟩
  rw [hck] at HK hk
  have f_hk : (ck != 0) = false := by simp [hk]
  unfold geoV at HK
  unfold supV
  dsimp only
  clear hM hu hk hn hr0 hr hck
  go_enter Tryz.func46, Tryz.ntmps46
  go_wp2_with fail
  refine (HK _).mono ?_
  rintro e w1 ⟨rfl, hb1⟩
  have HB : Hid (Below w.heap.size w w1) := ((Below.refl w.heap.size w).alloc (Nat.le_refl _) _).trans (hb1.mono (by rw [World.size_alloc]; omega))
  obtain ⟨m0, m1, m2, m3, m4, m5, m6, m7, m8, m9⟩ := SupAt.below (show SupAt _ w.heap.size 0 ⟨uu, ev, role, c, k, r, cl, b, nw, g⟩ from HN.out) hb1 (by rw [World.size_alloc]; omega)
  simp only [Nat.zero_add] at m1 m2 m3 m4 m5 m6 m7 m8 m9
  clear hb1 HN
  go_wp2
  go_ret
  exact ⟨rfl, HB.out⟩
theorem rMay_any (s : Su) (w : World) :
    Calls Tryz.prog 46 #[supV s] w fun e w' => e = .returned (.bool (Sup.mayB s)) ∧ Below w.heap.size w w' := by
  obtain ⟨uu, ev, role, c, k, r, cl, b, nw, g⟩ := s
  obtain ⟨M, hM⟩ : ∃ M, max c nw = M := ⟨_, rfl⟩
  have E : Sup.mayB ⟨uu, ev, role, c, k, r, cl, b, nw, g⟩ = (decide (uu ≠ 0) && decide (Lay.checkI c k r = 0) && (decide (nw = 0) || (!decide (nw ≤ c) && !decide (10 < nw))) && (decide (role = 254) || decide (role = 255) || (!decide (role < 0) && !decide (M ≤ role))) && (decide (0 ≤ b) && decide (b ≤ r) && decide (0 ≤ g) && decide (g ≤ r)) && (!decide (nw = 0) || decide (g = 0))) := by
    unfold Sup.mayB Sup.may Lay.checkI
    by_cases ho : Lay.ok c k r
    · obtain ⟨⟨c1, c2⟩, ⟨k1, k2⟩, r1, r2⟩ := id ho
      rw [Bool.eq_iff_iff]
      simp [ho]
      omega
    · simp [ho]
  by_cases hu : uu = 0
  · rw [show Sup.mayB ⟨uu, ev, role, c, k, r, cl, b, nw, g⟩ = false by rw [E]; simp [hu]]; exact rmay_zero uu ev role c k r cl b nw g M hM hu w
  by_cases hk : Lay.checkI c k r = 0
  case neg => rw [show Sup.mayB ⟨uu, ev, role, c, k, r, cl, b, nw, g⟩ = false by rw [E]; simp [hk]]; exact rmay_geo uu ev role c k r cl b nw g M hM hu hk w
  by_cases hn : nw = 0
  · by_cases hr : role = 254
    · by_cases hb : 0 ≤ b
      case neg => rw [show Sup.mayB ⟨uu, ev, role, c, k, r, cl, b, nw, g⟩ = false by rw [E]; simp [hb]]; exact rmay_sa1 uu ev role c k r cl b nw g M hM hu hk hn hr hb w
      by_cases hc : b ≤ r
      case neg => rw [show Sup.mayB ⟨uu, ev, role, c, k, r, cl, b, nw, g⟩ = false by rw [E]; simp [hc]]; exact rmay_sa2 uu ev role c k r cl b nw g M hM hu hk hn hr hb hc w
      by_cases hg : 0 ≤ g
      case neg => rw [show Sup.mayB ⟨uu, ev, role, c, k, r, cl, b, nw, g⟩ = false by rw [E]; simp [hg]]; exact rmay_sa3 uu ev role c k r cl b nw g M hM hu hk hn hr hb hc hg w
      by_cases hh : g ≤ r
      case neg => rw [show Sup.mayB ⟨uu, ev, role, c, k, r, cl, b, nw, g⟩ = false by rw [E]; simp [hh]]; exact rmay_sa4 uu ev role c k r cl b nw g M hM hu hk hn hr hb hc hg hh w
      rw [show Sup.mayB ⟨uu, ev, role, c, k, r, cl, b, nw, g⟩ = (g == 0) by rw [E]; simp [hu, hk, hn, hr, hb, hc, hg, hh]; try rfl]; exact rmay_sa5 uu ev role c k r cl b nw g M hM hu hk hn hr hb hc hg hh w
    by_cases hr5 : role = 255
    · have hr0 := hr; have hr := hr5
      by_cases hb : 0 ≤ b
      case neg => rw [show Sup.mayB ⟨uu, ev, role, c, k, r, cl, b, nw, g⟩ = false by rw [E]; simp [hb]]; exact rmay_sb1 uu ev role c k r cl b nw g M hM hu hk hn hr0 hr hb w
      by_cases hc : b ≤ r
      case neg => rw [show Sup.mayB ⟨uu, ev, role, c, k, r, cl, b, nw, g⟩ = false by rw [E]; simp [hc]]; exact rmay_sb2 uu ev role c k r cl b nw g M hM hu hk hn hr0 hr hb hc w
      by_cases hg : 0 ≤ g
      case neg => rw [show Sup.mayB ⟨uu, ev, role, c, k, r, cl, b, nw, g⟩ = false by rw [E]; simp [hg]]; exact rmay_sb3 uu ev role c k r cl b nw g M hM hu hk hn hr0 hr hb hc hg w
      by_cases hh : g ≤ r
      case neg => rw [show Sup.mayB ⟨uu, ev, role, c, k, r, cl, b, nw, g⟩ = false by rw [E]; simp [hh]]; exact rmay_sb4 uu ev role c k r cl b nw g M hM hu hk hn hr0 hr hb hc hg hh w
      rw [show Sup.mayB ⟨uu, ev, role, c, k, r, cl, b, nw, g⟩ = (g == 0) by rw [E]; simp [hu, hk, hn, hr, hb, hc, hg, hh]; try rfl]; exact rmay_sb5 uu ev role c k r cl b nw g M hM hu hk hn hr0 hr hb hc hg hh w
    by_cases hs : role < 0
    · rw [show Sup.mayB ⟨uu, ev, role, c, k, r, cl, b, nw, g⟩ = false by rw [E]; simp [hr, hr5, hs]]; exact rmay_sneg uu ev role c k r cl b nw g M hM hu hk hn hr hr5 hs w
    by_cases hm : M ≤ role
    · rw [show Sup.mayB ⟨uu, ev, role, c, k, r, cl, b, nw, g⟩ = false by rw [E]; simp [hr, hr5, hm]]; exact rmay_sfar uu ev role c k r cl b nw g M hM hu hk hn hr hr5 hs hm w
    by_cases hb : 0 ≤ b
    case neg => rw [show Sup.mayB ⟨uu, ev, role, c, k, r, cl, b, nw, g⟩ = false by rw [E]; simp [hb]]; exact rmay_sc1 uu ev role c k r cl b nw g M hM hu hk hn hr hr5 hs hm hb w
    by_cases hc : b ≤ r
    case neg => rw [show Sup.mayB ⟨uu, ev, role, c, k, r, cl, b, nw, g⟩ = false by rw [E]; simp [hc]]; exact rmay_sc2 uu ev role c k r cl b nw g M hM hu hk hn hr hr5 hs hm hb hc w
    by_cases hg : 0 ≤ g
    case neg => rw [show Sup.mayB ⟨uu, ev, role, c, k, r, cl, b, nw, g⟩ = false by rw [E]; simp [hg]]; exact rmay_sc3 uu ev role c k r cl b nw g M hM hu hk hn hr hr5 hs hm hb hc hg w
    by_cases hh : g ≤ r
    case neg => rw [show Sup.mayB ⟨uu, ev, role, c, k, r, cl, b, nw, g⟩ = false by rw [E]; simp [hh]]; exact rmay_sc4 uu ev role c k r cl b nw g M hM hu hk hn hr hr5 hs hm hb hc hg hh w
    rw [show Sup.mayB ⟨uu, ev, role, c, k, r, cl, b, nw, g⟩ = (g == 0) by rw [E]; simp [hu, hk, hn, hs, hm, hb, hc, hg, hh]; try rfl]; exact rmay_sc5 uu ev role c k r cl b nw g M hM hu hk hn hr hr5 hs hm hb hc hg hh w
  by_cases hl : nw ≤ c
  · rw [show Sup.mayB ⟨uu, ev, role, c, k, r, cl, b, nw, g⟩ = false by rw [E]; simp [hn, hl]]; exact rmay_low uu ev role c k r cl b nw g M hM hu hk hn hl w
  by_cases ht : 10 < nw
  · rw [show Sup.mayB ⟨uu, ev, role, c, k, r, cl, b, nw, g⟩ = false by rw [E]; simp [hn, ht]]; exact rmay_top uu ev role c k r cl b nw g M hM hu hk hn hl ht w
  by_cases hr : role = 254
  · by_cases hb : 0 ≤ b
    case neg => rw [show Sup.mayB ⟨uu, ev, role, c, k, r, cl, b, nw, g⟩ = false by rw [E]; simp [hb]]; exact rmay_ga1 uu ev role c k r cl b nw g M hM hu hk hn hl ht hr hb w
    by_cases hc : b ≤ r
    case neg => rw [show Sup.mayB ⟨uu, ev, role, c, k, r, cl, b, nw, g⟩ = false by rw [E]; simp [hc]]; exact rmay_ga2 uu ev role c k r cl b nw g M hM hu hk hn hl ht hr hb hc w
    by_cases hg : 0 ≤ g
    case neg => rw [show Sup.mayB ⟨uu, ev, role, c, k, r, cl, b, nw, g⟩ = false by rw [E]; simp [hg]]; exact rmay_ga3 uu ev role c k r cl b nw g M hM hu hk hn hl ht hr hb hc hg w
    by_cases hh : g ≤ r
    case neg => rw [show Sup.mayB ⟨uu, ev, role, c, k, r, cl, b, nw, g⟩ = false by rw [E]; simp [hh]]; exact rmay_ga4 uu ev role c k r cl b nw g M hM hu hk hn hl ht hr hb hc hg hh w
    rw [show Sup.mayB ⟨uu, ev, role, c, k, r, cl, b, nw, g⟩ = true by rw [E]; simp [hu, hk, hn, hl, ht, hr, hb, hc, hg, hh]]; exact rmay_ga5 uu ev role c k r cl b nw g M hM hu hk hn hl ht hr hb hc hg hh w
  by_cases hr5 : role = 255
  · have hr0 := hr; have hr := hr5
    by_cases hb : 0 ≤ b
    case neg => rw [show Sup.mayB ⟨uu, ev, role, c, k, r, cl, b, nw, g⟩ = false by rw [E]; simp [hb]]; exact rmay_gb1 uu ev role c k r cl b nw g M hM hu hk hn hl ht hr0 hr hb w
    by_cases hc : b ≤ r
    case neg => rw [show Sup.mayB ⟨uu, ev, role, c, k, r, cl, b, nw, g⟩ = false by rw [E]; simp [hc]]; exact rmay_gb2 uu ev role c k r cl b nw g M hM hu hk hn hl ht hr0 hr hb hc w
    by_cases hg : 0 ≤ g
    case neg => rw [show Sup.mayB ⟨uu, ev, role, c, k, r, cl, b, nw, g⟩ = false by rw [E]; simp [hg]]; exact rmay_gb3 uu ev role c k r cl b nw g M hM hu hk hn hl ht hr0 hr hb hc hg w
    by_cases hh : g ≤ r
    case neg => rw [show Sup.mayB ⟨uu, ev, role, c, k, r, cl, b, nw, g⟩ = false by rw [E]; simp [hh]]; exact rmay_gb4 uu ev role c k r cl b nw g M hM hu hk hn hl ht hr0 hr hb hc hg hh w
    rw [show Sup.mayB ⟨uu, ev, role, c, k, r, cl, b, nw, g⟩ = true by rw [E]; simp [hu, hk, hn, hl, ht, hr, hb, hc, hg, hh]]; exact rmay_gb5 uu ev role c k r cl b nw g M hM hu hk hn hl ht hr0 hr hb hc hg hh w
  by_cases hs : role < 0
  · rw [show Sup.mayB ⟨uu, ev, role, c, k, r, cl, b, nw, g⟩ = false by rw [E]; simp [hr, hr5, hs]]; exact rmay_gneg uu ev role c k r cl b nw g M hM hu hk hn hl ht hr hr5 hs w
  by_cases hm : M ≤ role
  · rw [show Sup.mayB ⟨uu, ev, role, c, k, r, cl, b, nw, g⟩ = false by rw [E]; simp [hr, hr5, hm]]; exact rmay_gfar uu ev role c k r cl b nw g M hM hu hk hn hl ht hr hr5 hs hm w
  by_cases hb : 0 ≤ b
  case neg => rw [show Sup.mayB ⟨uu, ev, role, c, k, r, cl, b, nw, g⟩ = false by rw [E]; simp [hb]]; exact rmay_gc1 uu ev role c k r cl b nw g M hM hu hk hn hl ht hr hr5 hs hm hb w
  by_cases hc : b ≤ r
  case neg => rw [show Sup.mayB ⟨uu, ev, role, c, k, r, cl, b, nw, g⟩ = false by rw [E]; simp [hc]]; exact rmay_gc2 uu ev role c k r cl b nw g M hM hu hk hn hl ht hr hr5 hs hm hb hc w
  by_cases hg : 0 ≤ g
  case neg => rw [show Sup.mayB ⟨uu, ev, role, c, k, r, cl, b, nw, g⟩ = false by rw [E]; simp [hg]]; exact rmay_gc3 uu ev role c k r cl b nw g M hM hu hk hn hl ht hr hr5 hs hm hb hc hg w
  by_cases hh : g ≤ r
  case neg => rw [show Sup.mayB ⟨uu, ev, role, c, k, r, cl, b, nw, g⟩ = false by rw [E]; simp [hh]]; exact rmay_gc4 uu ev role c k r cl b nw g M hM hu hk hn hl ht hr hr5 hs hm hb hc hg hh w
  rw [show Sup.mayB ⟨uu, ev, role, c, k, r, cl, b, nw, g⟩ = true by rw [E]; simp [hu, hk, hn, hl, ht, hs, hm, hb, hc, hg, hh]]; exact rmay_gc5 uu ev role c k r cl b nw g M hM hu hk hn hl ht hr hr5 hs hm hb hc hg hh w
end Go.Proofs.YtgkhnfchohcjeaaGreat
