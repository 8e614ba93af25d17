/- The walks of the program's steps: a column told by P, by Q, two by both. -/
import Derived.Test.YtjephdeolifbpaaRwBlank
import Derived.Test.YtjephdeolifbpaaSynSum
namespace Go.Proofs.Ytjephdeolifbpaa
open Go.RowKit

/-- While a row is filled: its header lies in a box, its texts are F. -/
structure RowAt (w0 W : World) (Bx g n : Nat) (F : Nat → ByteArray) : Prop where
  low : Below w0.heap.size w0 W
  box : W.cell? ⟨Bx, 0, none⟩ = some (.slice (some ⟨g, 0, none⟩) n n)
  own : W.ownsRow w0.heap.size 9 1 (.slice (some ⟨g, 0, none⟩) n n) n (textVals n F)
  fits : Fits 1048576 n F
theorem RowAt.below {w0 W W' : World} {Bx g n : Nat} {F : Nat → ByteArray} (h : RowAt w0 W Bx g n F) (hb : Below W.heap.size W W') : RowAt w0 W' Bx g n F :=
  ⟨h.low.trans (hb.mono h.low.size), (hb.cell (p := ⟨Bx, 0, none⟩) (World.block_lt_of_cell? W _ h.box)).trans h.box, ownsRow_below h.own hb, h.fits⟩
theorem RowAt.drew {w0 W : World} {Bx g n : Nat} {F : Nat → ByteArray} (h : RowAt w0 W Bx g n F) : RowAt w0 W.drew Bx g n F := h.below (Below.refl _ W).drew
theorem RowAt.row {w0 W : World} {Bx g n : Nat} {F : Nat → ByteArray} (h : RowAt w0 W Bx g n F) : RowS W (some ⟨g, 0, none⟩) n F := by
  obtain ⟨a, c, e, r, _⟩ := RowS.of_owns h.own
  cases e; exact r
theorem RowAt.cell {w0 W : World} {Bx g n : Nat} {F : Nat → ByteArray} (h : RowAt w0 W Bx g n F) {j : Nat} (hj : j < n) : W.cell? ⟨g, j, none⟩ = some (.string (F j)) := by rw [h.own.cellAt j (by omega)]; exact textVals_at F hj
theorem RowAt.frozen {w0 W : World} {Bx g n : Nat} {F : Nat → ByteArray} (h : RowAt w0 W Bx g n F) (j : Nat) : W.frozen? ⟨g, j, none⟩ = false := h.own.frozenAt j
theorem RowAt.set {w0 W : World} {Bx g n : Nat} {F : Nat → ByteArray} (h : RowAt w0 W Bx g n F) {j : Nat} (hj : j < n) (t : ByteArray) (ht : t.size ≤ 1048576) : RowAt w0 (W.setCell ⟨g, j, none⟩ (.string t)) Bx g n (Gfm.upd F j t) := by
  have hg : w0.heap.size ≤ g := owns_low h.own
  have hne : g ≠ Bx := fun e => by
    have h0 := h.cell (j := 0) (by omega)
    rw [e, h.box] at h0; cases h0
  refine ⟨h.low.setCell (p := ⟨g, j, none⟩) hg _, ?_, ?_, h.fits.upd ht⟩
  · rw [World.cell?_setCell_other _ _ _ _ (fun e => hne (by injection e))]; exact h.box
  · have := (h.own.stored j (.string t)).1
    rw [textVals_set] at this
    exact this

set_option maxRecDepth 100000 in
set_option maxHeartbeats 2000000 in
theorem byP_any (m n : Nat) (hmn : m + 2 = n) (hn : n ≤ 1000) (w0 W : World) (Bx g at_ : Nat) (F : Nat → ByteArray) (h : RowAt w0 W Bx g n F) (ha : at_ < n) :
    Calls Try.prog 39 #[.int .i64 (at_ : Nat), .pointer (some ⟨Bx, 0, none⟩)] W fun e W' => e = .returned (.tuple #[]) ∧ RowAt w0 W' Bx g n (Gfm.upd F at_ (sumP m F)) := by
  have HA : Hid (RowAt w0 W Bx g n F) := h
  have hS := fun (W' : World) (hb : Below W.heap.size W W') => Sum_some m F (by omega) (by rw [hmn]; exact h.fits) (some ⟨g, 0, none⟩) n (by omega) W' (by rw [hmn]; exact (h.below hb).row)
  have hP : (sumP m F).size ≤ 1048576 := Fits.sumP (by rw [hmn]; exact h.fits)
  rw [hmn] at hS
  obtain ⟨p, hp⟩ : ∃ p, sumP m F = p := ⟨_, rfl⟩
  obtain ⟨q, hq⟩ : ∃ q, sumQ m F = q := ⟨_, rfl⟩
  rw [hp, hq] at hS
  rw [hp] at hP
  rw [hp]
  have HP : Hid (p.size ≤ 1048576) := hP
  have hbx := h.box
  have HMX : Hid (Try.prog.follows .mixedOrders = true) := by show _ = _; kernel_rfl
  have hai : (at_ : Int) < (n : Int) := by omega
  clear h hp hq hP hmn
  go_enter Try.func39, Try.ntmps39
  go_wp2_with fail
  refine wp_region_held (S := fun W => W.cell? ⟨Bx, 0, none⟩ = some (.slice (some ⟨g, 0, none⟩) n n)) HMX.out ?_
  have hS0 : (fun W : World => W.cell? ⟨Bx, 0, none⟩ = some (.slice (some ⟨g, 0, none⟩) n n)) W.drew := hbx
  change wpAnyH _ _ _ _ _ _ _ _ W.drew
  refine held_quiet 0 (v := ?v0) rfl (by kernel_rfl) (fun _ _ _ h => h) (by assumption) rfl ?hy0 ?rest0
  case hy0 => (intro wS hSw; (try dsimp only at hSw); go_simp; try with_reducible rfl)
  try simp only [Act.put, List.setIfInBounds_toArray, List.set_cons_zero, List.set_cons_succ]
  refine held_quiet 1 (v := ?v1) rfl (by kernel_rfl) (fun _ _ _ h => h) (by assumption) rfl ?hy1 ?rest1
  case hy1 => (intro wS hSw; (try dsimp only at hSw); go_simp; try with_reducible rfl)
  try simp only [Act.put, List.setIfInBounds_toArray, List.set_cons_zero, List.set_cons_succ]
  refine held_quiet 2 (v := ?v2) rfl (by kernel_rfl) (fun _ _ _ h => h) (by assumption) rfl ?hy2 ?rest2
  case hy2 => (intro wS hSw; (try dsimp only at hSw); go_simp; try with_reducible rfl)
  try simp only [Act.put, List.setIfInBounds_toArray, List.set_cons_zero, List.set_cons_succ]
  refine held_one 3 rfl (by kernel_rfl) ?_
  go_wp2_with fail
  refine (hS W.drew (Below.refl _ W).drew).mono ?_
  rintro e w1 ⟨rfl, b1⟩
  have h1 := HA.out.drew.below b1
  have H1 : Hid (RowAt w0 w1 Bx g n F) := h1
  have hS1 : (fun W : World => W.cell? ⟨Bx, 0, none⟩ = some (.slice (some ⟨g, 0, none⟩) n n)) w1 := h1.box
  have hc1 := h1.cell ha
  have hf1 := h1.frozen at_
  clear h1 b1 hS
  go_wp2
  try refine ⟨hS1, ?_⟩
  refine held_quiet 4 (v := ?v4) rfl (by kernel_rfl) (fun _ _ _ h => h) (by assumption) rfl ?hy4 ?rest4
  case hy4 => (intro wS hSw; (try dsimp only at hSw); go_simp; try with_reducible rfl)
  try simp only [Act.put, List.setIfInBounds_toArray, List.set_cons_zero, List.set_cons_succ]
  refine held_quiet 5 (v := ?v5) rfl (by kernel_rfl) (fun _ _ _ h => h) (by assumption) rfl ?hy5 ?rest5
  case hy5 => (intro wS hSw; (try dsimp only at hSw); go_simp; try with_reducible rfl)
  try simp only [Act.put, List.setIfInBounds_toArray, List.set_cons_zero, List.set_cons_succ]
  refine held_quiet 6 (v := ?v6) rfl (by kernel_rfl) (fun _ _ _ h => h) (by assumption) rfl ?hy6 ?rest6
  case hy6 => (intro wS hSw; (try dsimp only at hSw); go_simp; try with_reducible rfl)
  try simp only [Act.put, List.setIfInBounds_toArray, List.set_cons_zero, List.set_cons_succ]
  refine held_quiet 7 (v := ?v7) rfl (by kernel_rfl) (fun _ _ _ h => h) (by assumption) rfl ?hy7 ?rest7
  case hy7 => (intro wS hSw; (try dsimp only at hSw); go_simp; try with_reducible rfl)
  try simp only [Act.put, List.setIfInBounds_toArray, List.set_cons_zero, List.set_cons_succ]
  refine held_one 8 rfl (by kernel_rfl) ?_
  go_wp2
  have H2 := H1.out.set ha p HP.out
  have hS2 : (fun W : World => W.cell? ⟨Bx, 0, none⟩ = some (.slice (some ⟨g, 0, none⟩) n n)) (w1.setCell ⟨g, at_, none⟩ (.string p)) := H2.box
  try refine ⟨hS2, ?_⟩
  refine held_done (by kernel_rfl) ?_
  go_wp2
  go_end0
  exact ⟨rfl, H2⟩

set_option maxRecDepth 100000 in
set_option maxHeartbeats 2000000 in
theorem byQ_any (m n : Nat) (hmn : m + 2 = n) (hn : n ≤ 1000) (w0 W : World) (Bx g at_ : Nat) (F : Nat → ByteArray) (h : RowAt w0 W Bx g n F) (ha : at_ < n) :
    Calls Try.prog 41 #[.int .i64 (at_ : Nat), .pointer (some ⟨Bx, 0, none⟩)] W fun e W' => e = .returned (.tuple #[]) ∧ RowAt w0 W' Bx g n (Gfm.upd F at_ (Gfm.timesB (sumQ m F) (Gfm.powI 2 (-(at_ : Int))))) := by
  have HA : Hid (RowAt w0 W Bx g n F) := h
  have hS := fun (W' : World) (hb : Below W.heap.size W W') => Sum_some m F (by omega) (by rw [hmn]; exact h.fits) (some ⟨g, 0, none⟩) n (by omega) W' (by rw [hmn]; exact (h.below hb).row)
  have hQ : (sumQ m F).size ≤ 1048576 := Fits.sumQ (by rw [hmn]; exact h.fits)
  rw [hmn] at hS
  obtain ⟨p, hp⟩ : ∃ p, sumP m F = p := ⟨_, rfl⟩
  obtain ⟨q, hq⟩ : ∃ q, sumQ m F = q := ⟨_, rfl⟩
  rw [hp, hq] at hS
  rw [hq] at hQ
  rw [hq]
  have hxl := Gfm.powI_lt 2 (-(at_ : Int))
  have hE := fun W => Exp_int (-(at_ : Int)) W
  obtain ⟨x, hx⟩ : ∃ x, Gfm.powI 2 (-(at_ : Int)) = x := ⟨_, rfl⟩
  rw [hx] at hxl hE
  rw [hx]
  have hT := fun W => Times_any q x (by omega) hxl W
  have HR : Hid ((Gfm.timesB q x).size ≤ 1048576) := by show _ ≤ _; rw [Gfm.timesB_size]; exact hQ
  have hbx := h.box
  have HMX : Hid (Try.prog.follows .mixedOrders = true) := by show _ = _; kernel_rfl
  have hai : (at_ : Int) < (n : Int) := by omega
  clear h hp hq hQ hmn hx
  go_enter Try.func41, Try.ntmps41
  go_wp2_with fail
  refine (hS W (Below.refl _ W)).mono ?_
  rintro e w1 ⟨rfl, b1⟩
  have h1 := HA.out.below b1
  have H1 : Hid (RowAt w0 w1 Bx g n F) := h1
  have hbx1 := h1.box
  clear h1 b1 hS hbx
  go_wp2_with fail
  refine wp_region_held (S := fun W => W.cell? ⟨Bx, 0, none⟩ = some (.slice (some ⟨g, 0, none⟩) n n)) HMX.out ?_
  have hS0 : (fun W : World => W.cell? ⟨Bx, 0, none⟩ = some (.slice (some ⟨g, 0, none⟩) n n)) w1.drew := hbx1
  change wpAnyH _ _ _ _ _ _ _ _ w1.drew
  refine held_quiet 0 (v := ?v0) rfl (by kernel_rfl) (fun _ _ _ h => h) (by assumption) rfl ?hy0 ?rest0
  case hy0 => (intro wS hSw; (try dsimp only at hSw); go_simp; try with_reducible rfl)
  try simp only [Act.put, List.setIfInBounds_toArray, List.set_cons_zero, List.set_cons_succ]
  refine held_quiet 1 (v := ?v1) rfl (by kernel_rfl) (fun _ _ _ h => h) (by assumption) rfl ?hy1 ?rest1
  case hy1 => (intro wS hSw; (try dsimp only at hSw); go_simp; try with_reducible rfl)
  try simp only [Act.put, List.setIfInBounds_toArray, List.set_cons_zero, List.set_cons_succ]
  refine held_quiet 2 (v := ?v2) rfl (by kernel_rfl) (fun _ _ _ h => h) (by assumption) rfl ?hy2 ?rest2
  case hy2 => (intro wS hSw; (try dsimp only at hSw); go_simp; try with_reducible rfl)
  try simp only [Act.put, List.setIfInBounds_toArray, List.set_cons_zero, List.set_cons_succ]
  refine held_quiet 3 (v := ?v3) rfl (by kernel_rfl) (fun _ _ _ h => h) (by assumption) rfl ?hy3 ?rest3
  case hy3 => (intro wS hSw; (try dsimp only at hSw); go_simp; try with_reducible rfl)
  try simp only [Act.put, List.setIfInBounds_toArray, List.set_cons_zero, List.set_cons_succ]
  refine held_quiet 4 (v := ?v4) rfl (by kernel_rfl) (fun _ _ _ h => h) (by assumption) rfl ?hy4 ?rest4
  case hy4 => (intro wS hSw; (try dsimp only at hSw); go_simp; try with_reducible rfl)
  try simp only [Act.put, List.setIfInBounds_toArray, List.set_cons_zero, List.set_cons_succ]
  refine held_one 5 rfl (by kernel_rfl) ?_
  go_wp2_with fail
  refine (hE _).mono ?_
  rintro e w2 ⟨rfl, hw2⟩
  subst w2
  go_wp2
  try refine ⟨hS0, ?_⟩
  refine held_one 6 rfl (by kernel_rfl) ?_
  go_wp2_with fail
  refine (hT _).mono ?_
  rintro e w2 ⟨rfl, b2⟩
  have h2 := H1.out.drew.below b2
  have H2 : Hid (RowAt w0 w2 Bx g n F) := h2
  have hS2 : (fun W : World => W.cell? ⟨Bx, 0, none⟩ = some (.slice (some ⟨g, 0, none⟩) n n)) w2 := h2.box
  have hc2 := h2.cell ha
  have hf2 := h2.frozen at_
  clear h2 b2 hE hT
  go_wp2
  try refine ⟨hS2, ?_⟩
  refine held_quiet 7 (v := ?v7) rfl (by kernel_rfl) (fun _ _ _ h => h) (by assumption) rfl ?hy7 ?rest7
  case hy7 => (intro wS hSw; (try dsimp only at hSw); go_simp; try with_reducible rfl)
  try simp only [Act.put, List.setIfInBounds_toArray, List.set_cons_zero, List.set_cons_succ]
  refine held_one 8 rfl (by kernel_rfl) ?_
  go_wp2
  have H3 := H2.out.set ha (Gfm.timesB q x) HR.out
  have hS3 : (fun W : World => W.cell? ⟨Bx, 0, none⟩ = some (.slice (some ⟨g, 0, none⟩) n n)) (w2.setCell ⟨g, at_, none⟩ (.string (Gfm.timesB q x))) := H3.box
  try refine ⟨hS3, ?_⟩
  refine held_done (by kernel_rfl) ?_
  go_wp2
  go_end0
  exact ⟨rfl, H3⟩

/-- what the one at x is, when the one at y is lost too -/
def Rf.apartF (m : Nat) (F : Nat → ByteArray) (x y : Nat) : ByteArray := Gfm.timesB (Gfm.xorB (sumQ m F) (Gfm.timesB (sumP m F) (Gfm.pE y))) (Gfm.inv (Gfm.pE x ^^^ Gfm.pE y))

set_option maxRecDepth 100000 in
set_option maxHeartbeats 2000000 in
theorem apart_any (m n : Nat) (hmn : m + 2 = n) (hn : n ≤ 1000) (w0 W : World) (Bx g x y : Nat) (F : Nat → ByteArray) (h : RowAt w0 W Bx g n F) :
    Calls Try.prog 45 #[.slice (some ⟨g, 0, none⟩) n n, .int .i64 (x : Nat), .int .i64 (y : Nat)] W fun e W' => e = .returned (.string (Rf.apartF m F x y)) ∧ Below W.heap.size W W' := by
  have hS := Sum_some m F (by omega) (by rw [hmn]; exact h.fits) (some ⟨g, 0, none⟩) n (by omega) W (by rw [hmn]; exact h.row)
  have hP : (sumP m F).size ≤ 1048576 := Fits.sumP (by rw [hmn]; exact h.fits)
  have hQ : (sumQ m F).size ≤ 1048576 := Fits.sumQ (by rw [hmn]; exact h.fits)
  have HD : Hid (Rf.apartF m F x y = Gfm.timesB (Gfm.xorB (sumQ m F) (Gfm.timesB (sumP m F) (Gfm.pE y))) (Gfm.inv (Gfm.pE x ^^^ Gfm.pE y))) := rfl
  rw [hmn] at hS
  have hE1 : ∀ W, Calls Try.prog 43 #[.int .i64 (x : Int)] W fun e w' => e = .returned (.int .u8 (Gfm.pE x : Nat)) ∧ w' = W := fun W => Exp_int (x : Int) W
  have hE2 : ∀ W, Calls Try.prog 43 #[.int .i64 (y : Int)] W fun e w' => e = .returned (.int .u8 (Gfm.pE y : Nat)) ∧ w' = W := fun W => Exp_int (y : Int) W
  have l1 := Gfm.pE_lt x
  have l2 := Gfm.pE_lt y
  obtain ⟨p, hp⟩ : ∃ p, sumP m F = p := ⟨_, rfl⟩
  obtain ⟨q, hq⟩ : ∃ q, sumQ m F = q := ⟨_, rfl⟩
  obtain ⟨a, ha⟩ : ∃ a, Gfm.pE x = a := ⟨_, rfl⟩
  obtain ⟨b, hb⟩ : ∃ b, Gfm.pE y = b := ⟨_, rfl⟩
  obtain ⟨R, hR⟩ : ∃ R, Rf.apartF m F x y = R := ⟨_, rfl⟩
  rw [hR, hp, hq, ha, hb] at HD
  rw [hp, hq] at hS
  rw [hp] at hP
  rw [hq] at hQ
  rw [ha] at hE1 l1
  rw [hb] at hE2 l2
  rw [hR]
  have hT1 := fun W => Times_any p b (by omega) l2 W
  have hX := fun W => Xor_any q (Gfm.timesB p b) (by unfold maxLen; omega) (by rw [Gfm.timesB_size]; unfold maxLen; omega) W
  have xab := u8_xor_nat a b l1 l2
  have xl := Nat.xor_lt_two_pow (n := 8) l1 l2
  obtain ⟨c, hc⟩ : ∃ c, a ^^^ b = c := ⟨_, rfl⟩
  rw [hc] at xab xl HD
  have hI := fun W => Inv_any c xl W
  have il := Gfm.inv_lt c
  obtain ⟨d, hd⟩ : ∃ d, Gfm.inv c = d := ⟨_, rfl⟩
  rw [hd] at hI il HD
  have hT2 := fun W => Times_any (Gfm.xorB q (Gfm.timesB p b)) d (by rw [Gfm.xorB_size, Gfm.timesB_size]; omega) il W
  obtain ⟨z, hz⟩ : ∃ z, Gfm.nz c = z := ⟨_, rfl⟩
  rw [hz] at hI
  clear h hp hq hP hQ hmn ha hb hR hc hd hz
  go_enter Try.func45, Try.ntmps45
  go_wp2_with fail
  refine hS.mono ?_
  rintro e w1 ⟨rfl, b1⟩
  clear hS
  go_wp2_with fail
  refine (hE2 _).mono ?_
  rintro e w2 ⟨rfl, hw⟩
  subst w2
  go_wp2_with fail
  refine (hT1 _).mono ?_
  rintro e w2 ⟨rfl, b2⟩
  clear hT1
  obtain ⟨t1, ht1⟩ : ∃ t, Gfm.timesB p b = t := ⟨_, rfl⟩
  rw [ht1] at hX hT2 HD
  rw [ht1]
  clear ht1
  go_wp2_with fail
  refine (hX _).mono ?_
  rintro e w3 ⟨rfl, b3⟩
  clear hX
  obtain ⟨t2, ht2⟩ : ∃ t, Gfm.xorB q t1 = t := ⟨_, rfl⟩
  rw [ht2] at hT2 HD
  rw [ht2]
  clear ht2
  go_wp2_with fail
  refine (hE1 _).mono ?_
  rintro e w4 ⟨rfl, hw⟩
  subst w4
  go_wp2_with fail
  refine (hE2 _).mono ?_
  rintro e w4 ⟨rfl, hw⟩
  subst w4
  go_wp2_with fail
  refine (hI _).mono ?_
  rintro e w4 ⟨rfl, hw⟩
  subst w4
  go_wp2_with fail
  refine (hT2 _).mono ?_
  rintro e w4 ⟨rfl, b4⟩
  go_wp2
  go_ret
  exact ⟨ret_string HD.out.symm, below4 b1 b2 b3 b4⟩
end Go.Proofs.Ytjephdeolifbpaa
