import Derived.Test.YtdgkhjgnjfgnlaaGreatMRwB
import Derived.Test.YtdgkhjgnjfgnlaaGreatMRwC
namespace Go.Proofs.YtdgkhjgnjfgnlaaGreat
open Go.RowKit
namespace Rf
open Gfm
def stepP (m : Nat) (F : Nat → ByteArray) (x : Nat) : Nat → ByteArray := upd F x (sumP m F)
def stepQ (m : Nat) (F : Nat → ByteArray) (x : Nat) : Nat → ByteArray := upd F x (timesB (sumQ m F) (powI 2 (-(x : Int))))
def stepA (m : Nat) (F : Nat → ByteArray) (x y : Nat) : Nat → ByteArray := upd F x (apartF m F x y)
def stepR (m : Nat) (F : Nat → ByteArray) (x : Nat) : Nat → ByteArray := upd F x (addF m (qT F))
end Rf
theorem apart_size {B m : Nat} {F : Nat → ByteArray} (h : Fits B (m + 2) F) (x y : Nat) : (Rf.apartF m F x y).size ≤ B := by
 have h1 := h.sumP
 have h2 := h.sumQ
 unfold Rf.apartF
 rw [Gfm.timesB_size, Gfm.xorB_size, Gfm.timesB_size]
 omega
set_option maxRecDepth 100000 in
set_option maxHeartbeats 4000000 in
theorem refill_p (m n : Nat) (hmn : m + 2 = n) (hn : n ≤ 1000) (w0 W : World) (g : Nat) (F : Nat → ByteArray) (hlow : Below w0.heap.size w0 W) (own : W.ownsRow w0.heap.size 9 1 (.slice (some ⟨g, 0, none⟩) n n) n (textVals n F)) (fits : Fits 1048576 n F)
  (ln : Nat) (b : Option Addr) (capb : Nat) (lo hi : Nat) (_hlo : lo < n) (hhi : hi < n)
  (hMin : ∀ W', Below W.heap.size W W' → Calls Tryz.prog 112 #[.slice b ln capb] W' fun e w' => e = .returned (.int .i64 (lo : Nat)) ∧ w' = W')
  (hMax : ∀ W', Below W.heap.size W W' → Calls Tryz.prog 113 #[.slice b ln capb] W' fun e w' => e = .returned (.int .i64 (hi : Nat)) ∧ w' = W')
  (hK : ∀ W', Below W.heap.size W W' → Calls Tryz.prog 119 #[.slice b ln capb, .int .i64 (m : Nat)] W' fun e w' => e = .returned (.agg #[.int .i64 0, .int .i64 3]) ∧ Below W'.heap.size W' w') :
  Calls Tryz.prog 81 #[.slice (some ⟨g, 0, none⟩) n n, .slice b ln capb] W fun e W' => e = .returned (.tuple #[]) ∧ W'.ownsRow w0.heap.size 9 1 (.slice (some ⟨g, 0, none⟩) n n) n (textVals n (Rf.stepP m (F) hi)) ∧ Below w0.heap.size w0 W' := by
 have hsz0 := hlow.size
 have A0 : RowAt w0 (W.alloc (.cells #[.slice (some ⟨g, 0, none⟩) n n] 40)) W.heap.size g n F :=
  ⟨hlow.alloc hsz0 _, by rw [World.cell?_alloc_mark]; rfl, own.alloc _, fits⟩
 have hB0 : Below W.heap.size W (W.alloc (.cells #[.slice (some ⟨g, 0, none⟩) n n] 40)) := (Below.refl _ W).alloc (Nat.le_refl _) _
 have hmi := hMin _ hB0
 have hma := hMax _ hB0
 have hki := hK _ hB0
 have bp := fun a b' W => buildPair a b' W
 have ep := fun a b' c d W => eqPair a b' c d W
 have e1 : (n : Int) - 2 = (m : Int) := by omega
 have HA0 : Hid (RowAt w0 (W.alloc (.cells #[.slice (some ⟨g, 0, none⟩) n n] 40)) W.heap.size g n F) := A0
 have HMN : Hid (m + 2 = n) := hmn
 have HMX : Hid (Tryz.prog.follows .mixedOrders = true) := by show _ = _; kernel_rfl
 have hbx0 := A0.box
 clear own fits hlow hMin hMax hK A0 hB0 hmn
 go_enter Tryz.func81, Tryz.ntmps81
 go_wp2_with fail
 refine hmi.mono ?_
 rintro e w1 ⟨rfl, hw⟩
 subst w1
 go_wp2_with fail
 refine hma.mono ?_
 rintro e w1 ⟨rfl, hw⟩
 subst w1
 go_wp2_with fail
 refine hki.mono ?_
 rintro e w1 ⟨rfl, b1⟩
 have h1 := HA0.out.below b1
 have H1 : Hid (RowAt w0 w1 W.heap.size g n F) := h1
 have b2 : Below w1.heap.size w1 (w1.alloc (.cells #[.int .i64 0, .int .i64 3] 143)) := (Below.refl _ w1).alloc (Nat.le_refl _) _
 have H2 : Hid (RowAt w0 (w1.alloc (.cells #[.int .i64 0, .int .i64 3] 143)) W.heap.size g n F) := h1.below b2
 clear hmi hma hki h1 b1 b2 HA0 hbx0
 go_wp2_with fail
 refine (byP_any m n HMN.out hn w0 _ W.heap.size g hi _ H2.out hhi).mono ?_
 rintro e w3 ⟨rfl, h3⟩
 have H3 : Hid (RowAt w0 w3 W.heap.size g n (Rf.stepP m (F) hi)) := h3
 clear h3
 go_wp2_with fail
 go_end0
 exact ⟨rfl, H3.out.own, H3.out.low⟩
set_option maxRecDepth 100000 in
set_option maxHeartbeats 4000000 in
theorem refill_pp (m n : Nat) (hmn : m + 2 = n) (hn : n ≤ 1000) (w0 W : World) (g : Nat) (F : Nat → ByteArray) (hlow : Below w0.heap.size w0 W) (own : W.ownsRow w0.heap.size 9 1 (.slice (some ⟨g, 0, none⟩) n n) n (textVals n F)) (fits : Fits 1048576 n F)
  (ln : Nat) (b : Option Addr) (capb : Nat) (lo hi : Nat) (_hlo : lo < n) (hhi : hi < n)
  (hMin : ∀ W', Below W.heap.size W W' → Calls Tryz.prog 112 #[.slice b ln capb] W' fun e w' => e = .returned (.int .i64 (lo : Nat)) ∧ w' = W')
  (hMax : ∀ W', Below W.heap.size W W' → Calls Tryz.prog 113 #[.slice b ln capb] W' fun e w' => e = .returned (.int .i64 (hi : Nat)) ∧ w' = W')
  (hK : ∀ W', Below W.heap.size W W' → Calls Tryz.prog 119 #[.slice b ln capb, .int .i64 (m : Nat)] W' fun e w' => e = .returned (.agg #[.int .i64 1, .int .i64 3]) ∧ Below W'.heap.size W' w') :
  Calls Tryz.prog 81 #[.slice (some ⟨g, 0, none⟩) n n, .slice b ln capb] W fun e W' => e = .returned (.tuple #[]) ∧ W'.ownsRow w0.heap.size 9 1 (.slice (some ⟨g, 0, none⟩) n n) n (textVals n (Rf.stepP m (F) hi)) ∧ Below w0.heap.size w0 W' := by
 have hsz0 := hlow.size
 have A0 : RowAt w0 (W.alloc (.cells #[.slice (some ⟨g, 0, none⟩) n n] 40)) W.heap.size g n F :=
  ⟨hlow.alloc hsz0 _, by rw [World.cell?_alloc_mark]; rfl, own.alloc _, fits⟩
 have hB0 : Below W.heap.size W (W.alloc (.cells #[.slice (some ⟨g, 0, none⟩) n n] 40)) := (Below.refl _ W).alloc (Nat.le_refl _) _
 have hmi := hMin _ hB0
 have hma := hMax _ hB0
 have hki := hK _ hB0
 have bp := fun a b' W => buildPair a b' W
 have ep := fun a b' c d W => eqPair a b' c d W
 have e1 : (n : Int) - 2 = (m : Int) := by omega
 have HA0 : Hid (RowAt w0 (W.alloc (.cells #[.slice (some ⟨g, 0, none⟩) n n] 40)) W.heap.size g n F) := A0
 have HMN : Hid (m + 2 = n) := hmn
 have HMX : Hid (Tryz.prog.follows .mixedOrders = true) := by show _ = _; kernel_rfl
 have hbx0 := A0.box
 clear own fits hlow hMin hMax hK A0 hB0 hmn
 go_enter Tryz.func81, Tryz.ntmps81
 go_wp2_with fail
 refine hmi.mono ?_
 rintro e w1 ⟨rfl, hw⟩
 subst w1
 go_wp2_with fail
 refine hma.mono ?_
 rintro e w1 ⟨rfl, hw⟩
 subst w1
 go_wp2_with fail
 refine hki.mono ?_
 rintro e w1 ⟨rfl, b1⟩
 have h1 := HA0.out.below b1
 have H1 : Hid (RowAt w0 w1 W.heap.size g n F) := h1
 have b2 : Below w1.heap.size w1 (w1.alloc (.cells #[.int .i64 1, .int .i64 3] 143)) := (Below.refl _ w1).alloc (Nat.le_refl _) _
 have H2 : Hid (RowAt w0 (w1.alloc (.cells #[.int .i64 1, .int .i64 3] 143)) W.heap.size g n F) := h1.below b2
 clear hmi hma hki h1 b1 b2 HA0 hbx0
 go_wp2_with fail
 refine (byP_any m n HMN.out hn w0 _ W.heap.size g hi _ H2.out hhi).mono ?_
 rintro e w3 ⟨rfl, h3⟩
 have H3 : Hid (RowAt w0 w3 W.heap.size g n (Rf.stepP m (F) hi)) := h3
 clear h3
 go_wp2_with fail
 go_end0
 exact ⟨rfl, H3.out.own, H3.out.low⟩
set_option maxRecDepth 100000 in
set_option maxHeartbeats 4000000 in
theorem refill_q (m n : Nat) (hmn : m + 2 = n) (hn : n ≤ 1000) (w0 W : World) (g : Nat) (F : Nat → ByteArray) (hlow : Below w0.heap.size w0 W) (own : W.ownsRow w0.heap.size 9 1 (.slice (some ⟨g, 0, none⟩) n n) n (textVals n F)) (fits : Fits 1048576 n F)
  (ln : Nat) (b : Option Addr) (capb : Nat) (lo hi : Nat) (_hlo : lo < n) (hhi : hi < n)
  (hMin : ∀ W', Below W.heap.size W W' → Calls Tryz.prog 112 #[.slice b ln capb] W' fun e w' => e = .returned (.int .i64 (lo : Nat)) ∧ w' = W')
  (hMax : ∀ W', Below W.heap.size W W' → Calls Tryz.prog 113 #[.slice b ln capb] W' fun e w' => e = .returned (.int .i64 (hi : Nat)) ∧ w' = W')
  (hK : ∀ W', Below W.heap.size W W' → Calls Tryz.prog 119 #[.slice b ln capb, .int .i64 (m : Nat)] W' fun e w' => e = .returned (.agg #[.int .i64 2, .int .i64 3]) ∧ Below W'.heap.size W' w') :
  Calls Tryz.prog 81 #[.slice (some ⟨g, 0, none⟩) n n, .slice b ln capb] W fun e W' => e = .returned (.tuple #[]) ∧ W'.ownsRow w0.heap.size 9 1 (.slice (some ⟨g, 0, none⟩) n n) n (textVals n (Rf.stepR m (F) hi)) ∧ Below w0.heap.size w0 W' := by
 have hsz0 := hlow.size
 have A0 : RowAt w0 (W.alloc (.cells #[.slice (some ⟨g, 0, none⟩) n n] 40)) W.heap.size g n F :=
  ⟨hlow.alloc hsz0 _, by rw [World.cell?_alloc_mark]; rfl, own.alloc _, fits⟩
 have hB0 : Below W.heap.size W (W.alloc (.cells #[.slice (some ⟨g, 0, none⟩) n n] 40)) := (Below.refl _ W).alloc (Nat.le_refl _) _
 have hmi := hMin _ hB0
 have hma := hMax _ hB0
 have hki := hK _ hB0
 have bp := fun a b' W => buildPair a b' W
 have ep := fun a b' c d W => eqPair a b' c d W
 have e1 : (n : Int) - 2 = (m : Int) := by omega
 have HA0 : Hid (RowAt w0 (W.alloc (.cells #[.slice (some ⟨g, 0, none⟩) n n] 40)) W.heap.size g n F) := A0
 have HMN : Hid (m + 2 = n) := hmn
 have HMX : Hid (Tryz.prog.follows .mixedOrders = true) := by show _ = _; kernel_rfl
 have hbx0 := A0.box
 clear own fits hlow hMin hMax hK A0 hB0 hmn
 go_enter Tryz.func81, Tryz.ntmps81
 go_wp2_with fail
 refine hmi.mono ?_
 rintro e w1 ⟨rfl, hw⟩
 subst w1
 go_wp2_with fail
 refine hma.mono ?_
 rintro e w1 ⟨rfl, hw⟩
 subst w1
 go_wp2_with fail
 refine hki.mono ?_
 rintro e w1 ⟨rfl, b1⟩
 have h1 := HA0.out.below b1
 have H1 : Hid (RowAt w0 w1 W.heap.size g n F) := h1
 have b2 : Below w1.heap.size w1 (w1.alloc (.cells #[.int .i64 2, .int .i64 3] 143)) := (Below.refl _ w1).alloc (Nat.le_refl _) _
 have H2 : Hid (RowAt w0 (w1.alloc (.cells #[.int .i64 2, .int .i64 3] 143)) W.heap.size g n F) := h1.below b2
 clear hmi hma hki h1 b1 b2 HA0 hbx0
 go_wp2_with fail
 have hS0 : (fun W' : World => W'.cell? ⟨W.heap.size, 0, none⟩ = some (.slice (some ⟨g, 0, none⟩) n n)) (w1.alloc (.cells #[.int .i64 2, .int .i64 3] 143)).drew := H2.out.drew.box
 have hsl := fun W' => run_slice_to (some ⟨g, 0, none⟩) n n m (by have := HMN.out; omega) W'
 have hC := Q_any m (F) (by omega) (H2.out.fits.mono (by have := HMN.out; omega)) (some ⟨g, 0, none⟩) n (w1.alloc (.cells #[.int .i64 2, .int .i64 3] 143)).drew (H2.out.drew.row.mono (by have := HMN.out; omega) fun _ _ => rfl)
 have hTS : (Gfm.addF m (Gfm.qT (F))).size ≤ 1048576 := ((H2.out.fits.mono (by have := HMN.out; omega)).qT).add
 obtain ⟨tx, htx⟩ : ∃ tx, Gfm.addF m (Gfm.qT (F)) = tx := ⟨_, rfl⟩
 have HTX : Hid (Gfm.addF m (Gfm.qT (F)) = tx) := htx
 rw [htx] at hC hTS
 have hxi : (hi : Int) < (n : Int) := by omega
 clear htx
 refine wp_region_held (S := fun W' => W'.cell? ⟨W.heap.size, 0, none⟩ = some (.slice (some ⟨g, 0, none⟩) n n)) HMX.out ?_
 change wpAnyH _ _ _ _ _ _ _ _ (w1.alloc (.cells #[.int .i64 2, .int .i64 3] 143)).drew
 refine held_quiet 0 (v := ?v0q1) rfl (by kernel_rfl) (fun _ _ _ h => h) (by assumption) rfl ?hy0q1 ?rest0q1
 case hy0q1 => (intro wS hSw; (try dsimp only at hSw); go_simp; try with_reducible rfl)
 try simp only [Act.put, List.setIfInBounds_toArray, List.set_cons_zero, List.set_cons_succ]
 refine held_quiet 1 (v := ?v1q2) rfl (by kernel_rfl) (fun _ _ _ h => h) (by assumption) rfl ?hy1q2 ?rest1q2
 case hy1q2 => (intro wS hSw; (try dsimp only at hSw); go_simp; try with_reducible rfl)
 try simp only [Act.put, List.setIfInBounds_toArray, List.set_cons_zero, List.set_cons_succ]
 refine held_quiet 2 (v := ?v2q3) rfl (by kernel_rfl) (fun _ _ _ h => h) (by assumption) rfl ?hy2q3 ?rest2q3
 case hy2q3 => (intro wS hSw; (try dsimp only at hSw); go_simp; try with_reducible rfl)
 try simp only [Act.put, List.setIfInBounds_toArray, List.set_cons_zero, List.set_cons_succ]
 refine held_quiet 3 (v := ?v3q4) rfl (by kernel_rfl) (fun _ _ _ h => h) (by assumption) rfl ?hy3q4 ?rest3q4
 case hy3q4 => (intro wS hSw; (try dsimp only at hSw); go_simp; try with_reducible rfl)
 try simp only [Act.put, List.setIfInBounds_toArray, List.set_cons_zero, List.set_cons_succ]
 refine held_quiet 4 (v := ?v4q5) rfl (by kernel_rfl) (fun _ _ _ h => h) (by assumption) rfl ?hy4q5 ?rest4q5
 case hy4q5 => (intro wS hSw; (try dsimp only at hSw); go_simp; try with_reducible rfl)
 try simp only [Act.put, List.setIfInBounds_toArray, List.set_cons_zero, List.set_cons_succ]
 refine held_one 5 rfl (by kernel_rfl) ?_
 go_wp2_with fail
 refine hC.mono ?_
 rintro e w3 ⟨rfl, b3⟩
 have h3 := H2.out.drew.below b3
 have I3 : Hid (RowAt w0 w3 W.heap.size g n (F)) := h3
 have hS3 : (fun W' : World => W'.cell? ⟨W.heap.size, 0, none⟩ = some (.slice (some ⟨g, 0, none⟩) n n)) w3 := h3.box
 have hc3 := h3.cell hhi
 have hf3 := h3.frozen hi
 clear hC h3 b3
 go_wp2
 try refine ⟨hS3, ?_⟩
 refine held_quiet 6 (v := ?v6q6) rfl (by kernel_rfl) (fun _ _ _ h => h) (by assumption) rfl ?hy6q6 ?rest6q6
 case hy6q6 => (intro wS hSw; (try dsimp only at hSw); go_simp; try with_reducible rfl)
 try simp only [Act.put, List.setIfInBounds_toArray, List.set_cons_zero, List.set_cons_succ]
 refine held_one 7 rfl (by kernel_rfl) ?_
 go_wp2
 have J3 := I3.out.set hhi tx hTS
 have K3 : (fun W' : World => W'.cell? ⟨W.heap.size, 0, none⟩ = some (.slice (some ⟨g, 0, none⟩) n n)) (w3.setCell ⟨g, hi, none⟩ (.string tx)) := J3.box
 try refine ⟨K3, ?_⟩
 refine held_done (by kernel_rfl) ?_
 have L3 : Hid (RowAt w0 (w3.setCell ⟨g, hi, none⟩ (.string tx)) W.heap.size g n (Gfm.upd (F) hi (Gfm.addF m (Gfm.qT (F))))) := by
  show RowAt _ _ _ _ _ _; rw [HTX.out]; exact J3
 clear J3 hc3 hf3 hTS
 go_wp2_with fail
 go_end0
 exact ⟨rfl, L3.out.own, L3.out.low⟩
set_option maxRecDepth 100000 in
set_option maxHeartbeats 4000000 in
theorem refill_dp (m n : Nat) (hmn : m + 2 = n) (hn : n ≤ 1000) (w0 W : World) (g : Nat) (F : Nat → ByteArray) (hlow : Below w0.heap.size w0 W) (own : W.ownsRow w0.heap.size 9 1 (.slice (some ⟨g, 0, none⟩) n n) n (textVals n F)) (fits : Fits 1048576 n F)
  (ln : Nat) (b : Option Addr) (capb : Nat) (lo hi : Nat) (hlo : lo < n) (hhi : hi < n)
  (hMin : ∀ W', Below W.heap.size W W' → Calls Tryz.prog 112 #[.slice b ln capb] W' fun e w' => e = .returned (.int .i64 (lo : Nat)) ∧ w' = W')
  (hMax : ∀ W', Below W.heap.size W W' → Calls Tryz.prog 113 #[.slice b ln capb] W' fun e w' => e = .returned (.int .i64 (hi : Nat)) ∧ w' = W')
  (hK : ∀ W', Below W.heap.size W W' → Calls Tryz.prog 119 #[.slice b ln capb, .int .i64 (m : Nat)] W' fun e w' => e = .returned (.agg #[.int .i64 0, .int .i64 1]) ∧ Below W'.heap.size W' w') :
  Calls Tryz.prog 81 #[.slice (some ⟨g, 0, none⟩) n n, .slice b ln capb] W fun e W' => e = .returned (.tuple #[]) ∧ W'.ownsRow w0.heap.size 9 1 (.slice (some ⟨g, 0, none⟩) n n) n (textVals n (Rf.stepP m (Rf.stepQ m (F) lo) hi)) ∧ Below w0.heap.size w0 W' := by
 have hsz0 := hlow.size
 have A0 : RowAt w0 (W.alloc (.cells #[.slice (some ⟨g, 0, none⟩) n n] 40)) W.heap.size g n F :=
  ⟨hlow.alloc hsz0 _, by rw [World.cell?_alloc_mark]; rfl, own.alloc _, fits⟩
 have hB0 : Below W.heap.size W (W.alloc (.cells #[.slice (some ⟨g, 0, none⟩) n n] 40)) := (Below.refl _ W).alloc (Nat.le_refl _) _
 have hmi := hMin _ hB0
 have hma := hMax _ hB0
 have hki := hK _ hB0
 have bp := fun a b' W => buildPair a b' W
 have ep := fun a b' c d W => eqPair a b' c d W
 have e1 : (n : Int) - 2 = (m : Int) := by omega
 have HA0 : Hid (RowAt w0 (W.alloc (.cells #[.slice (some ⟨g, 0, none⟩) n n] 40)) W.heap.size g n F) := A0
 have HMN : Hid (m + 2 = n) := hmn
 have HMX : Hid (Tryz.prog.follows .mixedOrders = true) := by show _ = _; kernel_rfl
 have hbx0 := A0.box
 clear own fits hlow hMin hMax hK A0 hB0 hmn
 go_enter Tryz.func81, Tryz.ntmps81
 go_wp2_with fail
 refine hmi.mono ?_
 rintro e w1 ⟨rfl, hw⟩
 subst w1
 go_wp2_with fail
 refine hma.mono ?_
 rintro e w1 ⟨rfl, hw⟩
 subst w1
 go_wp2_with fail
 refine hki.mono ?_
 rintro e w1 ⟨rfl, b1⟩
 have h1 := HA0.out.below b1
 have H1 : Hid (RowAt w0 w1 W.heap.size g n F) := h1
 have b2 : Below w1.heap.size w1 (w1.alloc (.cells #[.int .i64 0, .int .i64 1] 143)) := (Below.refl _ w1).alloc (Nat.le_refl _) _
 have H2 : Hid (RowAt w0 (w1.alloc (.cells #[.int .i64 0, .int .i64 1] 143)) W.heap.size g n F) := h1.below b2
 clear hmi hma hki h1 b1 b2 HA0 hbx0
 go_wp2_with fail
 refine (byQ_any m n HMN.out hn w0 _ W.heap.size g lo _ H2.out hlo).mono ?_
 rintro e w3 ⟨rfl, h3⟩
 have H3 : Hid (RowAt w0 w3 W.heap.size g n (Rf.stepQ m (F) lo)) := h3
 clear h3
 go_wp2_with fail
 refine (byP_any m n HMN.out hn w0 _ W.heap.size g hi _ H3.out hhi).mono ?_
 rintro e w4 ⟨rfl, h4⟩
 have H4 : Hid (RowAt w0 w4 W.heap.size g n (Rf.stepP m (Rf.stepQ m (F) lo) hi)) := h4
 clear h4
 go_wp2_with fail
 go_end0
 exact ⟨rfl, H4.out.own, H4.out.low⟩
set_option maxRecDepth 100000 in
set_option maxHeartbeats 4000000 in
theorem refill_dq (m n : Nat) (hmn : m + 2 = n) (hn : n ≤ 1000) (w0 W : World) (g : Nat) (F : Nat → ByteArray) (hlow : Below w0.heap.size w0 W) (own : W.ownsRow w0.heap.size 9 1 (.slice (some ⟨g, 0, none⟩) n n) n (textVals n F)) (fits : Fits 1048576 n F)
  (ln : Nat) (b : Option Addr) (capb : Nat) (lo hi : Nat) (hlo : lo < n) (hhi : hi < n)
  (hMin : ∀ W', Below W.heap.size W W' → Calls Tryz.prog 112 #[.slice b ln capb] W' fun e w' => e = .returned (.int .i64 (lo : Nat)) ∧ w' = W')
  (hMax : ∀ W', Below W.heap.size W W' → Calls Tryz.prog 113 #[.slice b ln capb] W' fun e w' => e = .returned (.int .i64 (hi : Nat)) ∧ w' = W')
  (hK : ∀ W', Below W.heap.size W W' → Calls Tryz.prog 119 #[.slice b ln capb, .int .i64 (m : Nat)] W' fun e w' => e = .returned (.agg #[.int .i64 0, .int .i64 2]) ∧ Below W'.heap.size W' w') :
  Calls Tryz.prog 81 #[.slice (some ⟨g, 0, none⟩) n n, .slice b ln capb] W fun e W' => e = .returned (.tuple #[]) ∧ W'.ownsRow w0.heap.size 9 1 (.slice (some ⟨g, 0, none⟩) n n) n (textVals n (Rf.stepR m (Rf.stepP m (F) lo) hi)) ∧ Below w0.heap.size w0 W' := by
 have hsz0 := hlow.size
 have A0 : RowAt w0 (W.alloc (.cells #[.slice (some ⟨g, 0, none⟩) n n] 40)) W.heap.size g n F :=
  ⟨hlow.alloc hsz0 _, by rw [World.cell?_alloc_mark]; rfl, own.alloc _, fits⟩
 have hB0 : Below W.heap.size W (W.alloc (.cells #[.slice (some ⟨g, 0, none⟩) n n] 40)) := (Below.refl _ W).alloc (Nat.le_refl _) _
 have hmi := hMin _ hB0
 have hma := hMax _ hB0
 have hki := hK _ hB0
 have bp := fun a b' W => buildPair a b' W
 have ep := fun a b' c d W => eqPair a b' c d W
 have e1 : (n : Int) - 2 = (m : Int) := by omega
 have HA0 : Hid (RowAt w0 (W.alloc (.cells #[.slice (some ⟨g, 0, none⟩) n n] 40)) W.heap.size g n F) := A0
 have HMN : Hid (m + 2 = n) := hmn
 have HMX : Hid (Tryz.prog.follows .mixedOrders = true) := by show _ = _; kernel_rfl
 have hbx0 := A0.box
 clear own fits hlow hMin hMax hK A0 hB0 hmn
 go_enter Tryz.func81, Tryz.ntmps81
 go_wp2_with fail
 refine hmi.mono ?_
 rintro e w1 ⟨rfl, hw⟩
 subst w1
 go_wp2_with fail
 refine hma.mono ?_
 rintro e w1 ⟨rfl, hw⟩
 subst w1
 go_wp2_with fail
 refine hki.mono ?_
 rintro e w1 ⟨rfl, b1⟩
 have h1 := HA0.out.below b1
 have H1 : Hid (RowAt w0 w1 W.heap.size g n F) := h1
 have b2 : Below w1.heap.size w1 (w1.alloc (.cells #[.int .i64 0, .int .i64 2] 143)) := (Below.refl _ w1).alloc (Nat.le_refl _) _
 have H2 : Hid (RowAt w0 (w1.alloc (.cells #[.int .i64 0, .int .i64 2] 143)) W.heap.size g n F) := h1.below b2
 clear hmi hma hki h1 b1 b2 HA0 hbx0
 go_wp2_with fail
 refine (byP_any m n HMN.out hn w0 _ W.heap.size g lo _ H2.out hlo).mono ?_
 rintro e w3 ⟨rfl, h3⟩
 have H3 : Hid (RowAt w0 w3 W.heap.size g n (Rf.stepP m (F) lo)) := h3
 clear h3
 go_wp2_with fail
 have hS0 : (fun W' : World => W'.cell? ⟨W.heap.size, 0, none⟩ = some (.slice (some ⟨g, 0, none⟩) n n)) (w3).drew := H3.out.drew.box
 have hsl := fun W' => run_slice_to (some ⟨g, 0, none⟩) n n m (by have := HMN.out; omega) W'
 have hC := Q_any m (Rf.stepP m (F) lo) (by omega) (H3.out.fits.mono (by have := HMN.out; omega)) (some ⟨g, 0, none⟩) n (w3).drew (H3.out.drew.row.mono (by have := HMN.out; omega) fun _ _ => rfl)
 have hTS : (Gfm.addF m (Gfm.qT (Rf.stepP m (F) lo))).size ≤ 1048576 := ((H3.out.fits.mono (by have := HMN.out; omega)).qT).add
 obtain ⟨tx, htx⟩ : ∃ tx, Gfm.addF m (Gfm.qT (Rf.stepP m (F) lo)) = tx := ⟨_, rfl⟩
 have HTX : Hid (Gfm.addF m (Gfm.qT (Rf.stepP m (F) lo)) = tx) := htx
 rw [htx] at hC hTS
 have hxi : (hi : Int) < (n : Int) := by omega
 clear htx
 refine wp_region_held (S := fun W' => W'.cell? ⟨W.heap.size, 0, none⟩ = some (.slice (some ⟨g, 0, none⟩) n n)) HMX.out ?_
 change wpAnyH _ _ _ _ _ _ _ _ (w3).drew
 refine held_quiet 0 (v := ?v0q7) rfl (by kernel_rfl) (fun _ _ _ h => h) (by assumption) rfl ?hy0q7 ?rest0q7
 case hy0q7 => (intro wS hSw; (try dsimp only at hSw); go_simp; try with_reducible rfl)
 try simp only [Act.put, List.setIfInBounds_toArray, List.set_cons_zero, List.set_cons_succ]
 refine held_quiet 1 (v := ?v1q8) rfl (by kernel_rfl) (fun _ _ _ h => h) (by assumption) rfl ?hy1q8 ?rest1q8
 case hy1q8 => (intro wS hSw; (try dsimp only at hSw); go_simp; try with_reducible rfl)
 try simp only [Act.put, List.setIfInBounds_toArray, List.set_cons_zero, List.set_cons_succ]
 refine held_quiet 2 (v := ?v2q9) rfl (by kernel_rfl) (fun _ _ _ h => h) (by assumption) rfl ?hy2q9 ?rest2q9
 case hy2q9 => (intro wS hSw; (try dsimp only at hSw); go_simp; try with_reducible rfl)
 try simp only [Act.put, List.setIfInBounds_toArray, List.set_cons_zero, List.set_cons_succ]
 refine held_quiet 3 (v := ?v3q10) rfl (by kernel_rfl) (fun _ _ _ h => h) (by assumption) rfl ?hy3q10 ?rest3q10
 case hy3q10 => (intro wS hSw; (try dsimp only at hSw); go_simp; try with_reducible rfl)
 try simp only [Act.put, List.setIfInBounds_toArray, List.set_cons_zero, List.set_cons_succ]
 refine held_quiet 4 (v := ?v4q11) rfl (by kernel_rfl) (fun _ _ _ h => h) (by assumption) rfl ?hy4q11 ?rest4q11
 case hy4q11 => (intro wS hSw; (try dsimp only at hSw); go_simp; try with_reducible rfl)
 try simp only [Act.put, List.setIfInBounds_toArray, List.set_cons_zero, List.set_cons_succ]
 refine held_one 5 rfl (by kernel_rfl) ?_
 go_wp2_with fail
 refine hC.mono ?_
 rintro e w4 ⟨rfl, b4⟩
 have h4 := H3.out.drew.below b4
 have I4 : Hid (RowAt w0 w4 W.heap.size g n (Rf.stepP m (F) lo)) := h4
 have hS4 : (fun W' : World => W'.cell? ⟨W.heap.size, 0, none⟩ = some (.slice (some ⟨g, 0, none⟩) n n)) w4 := h4.box
 have hc4 := h4.cell hhi
 have hf4 := h4.frozen hi
 clear hC h4 b4
 go_wp2
 try refine ⟨hS4, ?_⟩
 refine held_quiet 6 (v := ?v6q12) rfl (by kernel_rfl) (fun _ _ _ h => h) (by assumption) rfl ?hy6q12 ?rest6q12
 case hy6q12 => (intro wS hSw; (try dsimp only at hSw); go_simp; try with_reducible rfl)
 try simp only [Act.put, List.setIfInBounds_toArray, List.set_cons_zero, List.set_cons_succ]
 refine held_one 7 rfl (by kernel_rfl) ?_
 go_wp2
 have J4 := I4.out.set hhi tx hTS
 have K4 : (fun W' : World => W'.cell? ⟨W.heap.size, 0, none⟩ = some (.slice (some ⟨g, 0, none⟩) n n)) (w4.setCell ⟨g, hi, none⟩ (.string tx)) := J4.box
 try refine ⟨K4, ?_⟩
 refine held_done (by kernel_rfl) ?_
 have L4 : Hid (RowAt w0 (w4.setCell ⟨g, hi, none⟩ (.string tx)) W.heap.size g n (Gfm.upd (Rf.stepP m (F) lo) hi (Gfm.addF m (Gfm.qT (Rf.stepP m (F) lo))))) := by
  show RowAt _ _ _ _ _ _; rw [HTX.out]; exact J4
 clear J4 hc4 hf4 hTS
 go_wp2_with fail
 go_end0
 exact ⟨rfl, L4.out.own, L4.out.low⟩
set_option maxRecDepth 100000 in
set_option maxHeartbeats 4000000 in
theorem refill_pq (m n : Nat) (hmn : m + 2 = n) (hn : n ≤ 1000) (w0 W : World) (g : Nat) (F : Nat → ByteArray) (hlow : Below w0.heap.size w0 W) (own : W.ownsRow w0.heap.size 9 1 (.slice (some ⟨g, 0, none⟩) n n) n (textVals n F)) (fits : Fits 1048576 n F)
  (ln : Nat) (b : Option Addr) (capb : Nat) (lo hi : Nat) (hlo : lo < n) (hhi : hi < n)
  (hMin : ∀ W', Below W.heap.size W W' → Calls Tryz.prog 112 #[.slice b ln capb] W' fun e w' => e = .returned (.int .i64 (lo : Nat)) ∧ w' = W')
  (hMax : ∀ W', Below W.heap.size W W' → Calls Tryz.prog 113 #[.slice b ln capb] W' fun e w' => e = .returned (.int .i64 (hi : Nat)) ∧ w' = W')
  (hK : ∀ W', Below W.heap.size W W' → Calls Tryz.prog 119 #[.slice b ln capb, .int .i64 (m : Nat)] W' fun e w' => e = .returned (.agg #[.int .i64 1, .int .i64 2]) ∧ Below W'.heap.size W' w') :
  Calls Tryz.prog 81 #[.slice (some ⟨g, 0, none⟩) n n, .slice b ln capb] W fun e W' => e = .returned (.tuple #[]) ∧ W'.ownsRow w0.heap.size 9 1 (.slice (some ⟨g, 0, none⟩) n n) n (textVals n (Rf.stepR m (Rf.stepP m (F) lo) hi)) ∧ Below w0.heap.size w0 W' := by
 have hsz0 := hlow.size
 have A0 : RowAt w0 (W.alloc (.cells #[.slice (some ⟨g, 0, none⟩) n n] 40)) W.heap.size g n F :=
  ⟨hlow.alloc hsz0 _, by rw [World.cell?_alloc_mark]; rfl, own.alloc _, fits⟩
 have hB0 : Below W.heap.size W (W.alloc (.cells #[.slice (some ⟨g, 0, none⟩) n n] 40)) := (Below.refl _ W).alloc (Nat.le_refl _) _
 have hmi := hMin _ hB0
 have hma := hMax _ hB0
 have hki := hK _ hB0
 have bp := fun a b' W => buildPair a b' W
 have ep := fun a b' c d W => eqPair a b' c d W
 have e1 : (n : Int) - 2 = (m : Int) := by omega
 have HA0 : Hid (RowAt w0 (W.alloc (.cells #[.slice (some ⟨g, 0, none⟩) n n] 40)) W.heap.size g n F) := A0
 have HMN : Hid (m + 2 = n) := hmn
 have HMX : Hid (Tryz.prog.follows .mixedOrders = true) := by show _ = _; kernel_rfl
 have hbx0 := A0.box
 clear own fits hlow hMin hMax hK A0 hB0 hmn
 go_enter Tryz.func81, Tryz.ntmps81
 go_wp2_with fail
 refine hmi.mono ?_
 rintro e w1 ⟨rfl, hw⟩
 subst w1
 go_wp2_with fail
 refine hma.mono ?_
 rintro e w1 ⟨rfl, hw⟩
 subst w1
 go_wp2_with fail
 refine hki.mono ?_
 rintro e w1 ⟨rfl, b1⟩
 have h1 := HA0.out.below b1
 have H1 : Hid (RowAt w0 w1 W.heap.size g n F) := h1
 have b2 : Below w1.heap.size w1 (w1.alloc (.cells #[.int .i64 1, .int .i64 2] 143)) := (Below.refl _ w1).alloc (Nat.le_refl _) _
 have H2 : Hid (RowAt w0 (w1.alloc (.cells #[.int .i64 1, .int .i64 2] 143)) W.heap.size g n F) := h1.below b2
 clear hmi hma hki h1 b1 b2 HA0 hbx0
 go_wp2_with fail
 refine (byP_any m n HMN.out hn w0 _ W.heap.size g lo _ H2.out hlo).mono ?_
 rintro e w3 ⟨rfl, h3⟩
 have H3 : Hid (RowAt w0 w3 W.heap.size g n (Rf.stepP m (F) lo)) := h3
 clear h3
 go_wp2_with fail
 have hS0 : (fun W' : World => W'.cell? ⟨W.heap.size, 0, none⟩ = some (.slice (some ⟨g, 0, none⟩) n n)) (w3).drew := H3.out.drew.box
 have hsl := fun W' => run_slice_to (some ⟨g, 0, none⟩) n n m (by have := HMN.out; omega) W'
 have hC := Q_any m (Rf.stepP m (F) lo) (by omega) (H3.out.fits.mono (by have := HMN.out; omega)) (some ⟨g, 0, none⟩) n (w3).drew (H3.out.drew.row.mono (by have := HMN.out; omega) fun _ _ => rfl)
 have hTS : (Gfm.addF m (Gfm.qT (Rf.stepP m (F) lo))).size ≤ 1048576 := ((H3.out.fits.mono (by have := HMN.out; omega)).qT).add
 obtain ⟨tx, htx⟩ : ∃ tx, Gfm.addF m (Gfm.qT (Rf.stepP m (F) lo)) = tx := ⟨_, rfl⟩
 have HTX : Hid (Gfm.addF m (Gfm.qT (Rf.stepP m (F) lo)) = tx) := htx
 rw [htx] at hC hTS
 have hxi : (hi : Int) < (n : Int) := by omega
 clear htx
 refine wp_region_held (S := fun W' => W'.cell? ⟨W.heap.size, 0, none⟩ = some (.slice (some ⟨g, 0, none⟩) n n)) HMX.out ?_
 change wpAnyH _ _ _ _ _ _ _ _ (w3).drew
 refine held_quiet 0 (v := ?v0q13) rfl (by kernel_rfl) (fun _ _ _ h => h) (by assumption) rfl ?hy0q13 ?rest0q13
 case hy0q13 => (intro wS hSw; (try dsimp only at hSw); go_simp; try with_reducible rfl)
 try simp only [Act.put, List.setIfInBounds_toArray, List.set_cons_zero, List.set_cons_succ]
 refine held_quiet 1 (v := ?v1q14) rfl (by kernel_rfl) (fun _ _ _ h => h) (by assumption) rfl ?hy1q14 ?rest1q14
 case hy1q14 => (intro wS hSw; (try dsimp only at hSw); go_simp; try with_reducible rfl)
 try simp only [Act.put, List.setIfInBounds_toArray, List.set_cons_zero, List.set_cons_succ]
 refine held_quiet 2 (v := ?v2q15) rfl (by kernel_rfl) (fun _ _ _ h => h) (by assumption) rfl ?hy2q15 ?rest2q15
 case hy2q15 => (intro wS hSw; (try dsimp only at hSw); go_simp; try with_reducible rfl)
 try simp only [Act.put, List.setIfInBounds_toArray, List.set_cons_zero, List.set_cons_succ]
 refine held_quiet 3 (v := ?v3q16) rfl (by kernel_rfl) (fun _ _ _ h => h) (by assumption) rfl ?hy3q16 ?rest3q16
 case hy3q16 => (intro wS hSw; (try dsimp only at hSw); go_simp; try with_reducible rfl)
 try simp only [Act.put, List.setIfInBounds_toArray, List.set_cons_zero, List.set_cons_succ]
 refine held_quiet 4 (v := ?v4q17) rfl (by kernel_rfl) (fun _ _ _ h => h) (by assumption) rfl ?hy4q17 ?rest4q17
 case hy4q17 => (intro wS hSw; (try dsimp only at hSw); go_simp; try with_reducible rfl)
 try simp only [Act.put, List.setIfInBounds_toArray, List.set_cons_zero, List.set_cons_succ]
 refine held_one 5 rfl (by kernel_rfl) ?_
 go_wp2_with fail
 refine hC.mono ?_
 rintro e w4 ⟨rfl, b4⟩
 have h4 := H3.out.drew.below b4
 have I4 : Hid (RowAt w0 w4 W.heap.size g n (Rf.stepP m (F) lo)) := h4
 have hS4 : (fun W' : World => W'.cell? ⟨W.heap.size, 0, none⟩ = some (.slice (some ⟨g, 0, none⟩) n n)) w4 := h4.box
 have hc4 := h4.cell hhi
 have hf4 := h4.frozen hi
 clear hC h4 b4
 go_wp2
 try refine ⟨hS4, ?_⟩
 refine held_quiet 6 (v := ?v6q18) rfl (by kernel_rfl) (fun _ _ _ h => h) (by assumption) rfl ?hy6q18 ?rest6q18
 case hy6q18 => (intro wS hSw; (try dsimp only at hSw); go_simp; try with_reducible rfl)
 try simp only [Act.put, List.setIfInBounds_toArray, List.set_cons_zero, List.set_cons_succ]
 refine held_one 7 rfl (by kernel_rfl) ?_
 go_wp2
 have J4 := I4.out.set hhi tx hTS
 have K4 : (fun W' : World => W'.cell? ⟨W.heap.size, 0, none⟩ = some (.slice (some ⟨g, 0, none⟩) n n)) (w4.setCell ⟨g, hi, none⟩ (.string tx)) := J4.box
 try refine ⟨K4, ?_⟩
 refine held_done (by kernel_rfl) ?_
 have L4 : Hid (RowAt w0 (w4.setCell ⟨g, hi, none⟩ (.string tx)) W.heap.size g n (Gfm.upd (Rf.stepP m (F) lo) hi (Gfm.addF m (Gfm.qT (Rf.stepP m (F) lo))))) := by
  show RowAt _ _ _ _ _ _; rw [HTX.out]; exact J4
 clear J4 hc4 hf4 hTS
 go_wp2_with fail
 go_end0
 exact ⟨rfl, L4.out.own, L4.out.low⟩
set_option maxRecDepth 100000 in
set_option maxHeartbeats 4000000 in
theorem refill_dd (m n : Nat) (hmn : m + 2 = n) (hn : n ≤ 1000) (w0 W : World) (g : Nat) (F : Nat → ByteArray) (hlow : Below w0.heap.size w0 W) (own : W.ownsRow w0.heap.size 9 1 (.slice (some ⟨g, 0, none⟩) n n) n (textVals n F)) (fits : Fits 1048576 n F)
  (ln : Nat) (b : Option Addr) (capb : Nat) (lo hi : Nat) (hlo : lo < n) (hhi : hi < n)
  (hMin : ∀ W', Below W.heap.size W W' → Calls Tryz.prog 112 #[.slice b ln capb] W' fun e w' => e = .returned (.int .i64 (lo : Nat)) ∧ w' = W')
  (hMax : ∀ W', Below W.heap.size W W' → Calls Tryz.prog 113 #[.slice b ln capb] W' fun e w' => e = .returned (.int .i64 (hi : Nat)) ∧ w' = W')
  (hK : ∀ W', Below W.heap.size W W' → Calls Tryz.prog 119 #[.slice b ln capb, .int .i64 (m : Nat)] W' fun e w' => e = .returned (.agg #[.int .i64 0, .int .i64 0]) ∧ Below W'.heap.size W' w') :
  Calls Tryz.prog 81 #[.slice (some ⟨g, 0, none⟩) n n, .slice b ln capb] W fun e W' => e = .returned (.tuple #[]) ∧ W'.ownsRow w0.heap.size 9 1 (.slice (some ⟨g, 0, none⟩) n n) n (textVals n (Rf.stepP m (Rf.stepA m (F) lo hi) hi)) ∧ Below w0.heap.size w0 W' := by
 have hsz0 := hlow.size
 have A0 : RowAt w0 (W.alloc (.cells #[.slice (some ⟨g, 0, none⟩) n n] 40)) W.heap.size g n F :=
  ⟨hlow.alloc hsz0 _, by rw [World.cell?_alloc_mark]; rfl, own.alloc _, fits⟩
 have hB0 : Below W.heap.size W (W.alloc (.cells #[.slice (some ⟨g, 0, none⟩) n n] 40)) := (Below.refl _ W).alloc (Nat.le_refl _) _
 have hmi := hMin _ hB0
 have hma := hMax _ hB0
 have hki := hK _ hB0
 have bp := fun a b' W => buildPair a b' W
 have ep := fun a b' c d W => eqPair a b' c d W
 have e1 : (n : Int) - 2 = (m : Int) := by omega
 have HA0 : Hid (RowAt w0 (W.alloc (.cells #[.slice (some ⟨g, 0, none⟩) n n] 40)) W.heap.size g n F) := A0
 have HMN : Hid (m + 2 = n) := hmn
 have HMX : Hid (Tryz.prog.follows .mixedOrders = true) := by show _ = _; kernel_rfl
 have hbx0 := A0.box
 clear own fits hlow hMin hMax hK A0 hB0 hmn
 go_enter Tryz.func81, Tryz.ntmps81
 go_wp2_with fail
 refine hmi.mono ?_
 rintro e w1 ⟨rfl, hw⟩
 subst w1
 go_wp2_with fail
 refine hma.mono ?_
 rintro e w1 ⟨rfl, hw⟩
 subst w1
 go_wp2_with fail
 refine hki.mono ?_
 rintro e w1 ⟨rfl, b1⟩
 have h1 := HA0.out.below b1
 have H1 : Hid (RowAt w0 w1 W.heap.size g n F) := h1
 have b2 : Below w1.heap.size w1 (w1.alloc (.cells #[.int .i64 0, .int .i64 0] 143)) := (Below.refl _ w1).alloc (Nat.le_refl _) _
 have H2 : Hid (RowAt w0 (w1.alloc (.cells #[.int .i64 0, .int .i64 0] 143)) W.heap.size g n F) := h1.below b2
 clear hmi hma hki h1 b1 b2 HA0 hbx0
 go_wp2_with fail
 have hS0 : (fun W' : World => W'.cell? ⟨W.heap.size, 0, none⟩ = some (.slice (some ⟨g, 0, none⟩) n n)) (w1.alloc (.cells #[.int .i64 0, .int .i64 0] 143)).drew := H2.out.drew.box
 have hC := apart_any m n HMN.out hn w0 _ W.heap.size g lo hi F H2.out.drew
 have hTS : (Rf.apartF m F lo hi).size ≤ 1048576 := apart_size (by rw [HMN.out]; exact H2.out.fits) lo hi
 obtain ⟨tx, htx⟩ : ∃ tx, Rf.apartF m F lo hi = tx := ⟨_, rfl⟩
 have HTX : Hid (Rf.apartF m F lo hi = tx) := htx
 rw [htx] at hC hTS
 have hxi : (lo : Int) < (n : Int) := by omega
 clear htx
 refine wp_region_held (S := fun W' => W'.cell? ⟨W.heap.size, 0, none⟩ = some (.slice (some ⟨g, 0, none⟩) n n)) HMX.out ?_
 change wpAnyH _ _ _ _ _ _ _ _ (w1.alloc (.cells #[.int .i64 0, .int .i64 0] 143)).drew
 refine held_quiet 0 (v := ?v0q19) rfl (by kernel_rfl) (fun _ _ _ h => h) (by assumption) rfl ?hy0q19 ?rest0q19
 case hy0q19 => (intro wS hSw; (try dsimp only at hSw); go_simp; try with_reducible rfl)
 try simp only [Act.put, List.setIfInBounds_toArray, List.set_cons_zero, List.set_cons_succ]
 refine held_quiet 1 (v := ?v1q20) rfl (by kernel_rfl) (fun _ _ _ h => h) (by assumption) rfl ?hy1q20 ?rest1q20
 case hy1q20 => (intro wS hSw; (try dsimp only at hSw); go_simp; try with_reducible rfl)
 try simp only [Act.put, List.setIfInBounds_toArray, List.set_cons_zero, List.set_cons_succ]
 refine held_quiet 2 (v := ?v2q21) rfl (by kernel_rfl) (fun _ _ _ h => h) (by assumption) rfl ?hy2q21 ?rest2q21
 case hy2q21 => (intro wS hSw; (try dsimp only at hSw); go_simp; try with_reducible rfl)
 try simp only [Act.put, List.setIfInBounds_toArray, List.set_cons_zero, List.set_cons_succ]
 refine held_quiet 3 (v := ?v3q22) rfl (by kernel_rfl) (fun _ _ _ h => h) (by assumption) rfl ?hy3q22 ?rest3q22
 case hy3q22 => (intro wS hSw; (try dsimp only at hSw); go_simp; try with_reducible rfl)
 try simp only [Act.put, List.setIfInBounds_toArray, List.set_cons_zero, List.set_cons_succ]
 refine held_quiet 4 (v := ?v4q23) rfl (by kernel_rfl) (fun _ _ _ h => h) (by assumption) rfl ?hy4q23 ?rest4q23
 case hy4q23 => (intro wS hSw; (try dsimp only at hSw); go_simp; try with_reducible rfl)
 try simp only [Act.put, List.setIfInBounds_toArray, List.set_cons_zero, List.set_cons_succ]
 refine held_one 5 rfl (by kernel_rfl) ?_
 go_wp2_with fail
 refine hC.mono ?_
 rintro e w3 ⟨rfl, b3⟩
 have h3 := H2.out.drew.below b3
 have I3 : Hid (RowAt w0 w3 W.heap.size g n (F)) := h3
 have hS3 : (fun W' : World => W'.cell? ⟨W.heap.size, 0, none⟩ = some (.slice (some ⟨g, 0, none⟩) n n)) w3 := h3.box
 have hc3 := h3.cell hlo
 have hf3 := h3.frozen lo
 clear hC h3 b3
 go_wp2
 try refine ⟨hS3, ?_⟩
 refine held_quiet 6 (v := ?v6q24) rfl (by kernel_rfl) (fun _ _ _ h => h) (by assumption) rfl ?hy6q24 ?rest6q24
 case hy6q24 => (intro wS hSw; (try dsimp only at hSw); go_simp; try with_reducible rfl)
 try simp only [Act.put, List.setIfInBounds_toArray, List.set_cons_zero, List.set_cons_succ]
 refine held_one 7 rfl (by kernel_rfl) ?_
 go_wp2
 have J3 := I3.out.set hlo tx hTS
 have K3 : (fun W' : World => W'.cell? ⟨W.heap.size, 0, none⟩ = some (.slice (some ⟨g, 0, none⟩) n n)) (w3.setCell ⟨g, lo, none⟩ (.string tx)) := J3.box
 try refine ⟨K3, ?_⟩
 refine held_done (by kernel_rfl) ?_
 have L3 : Hid (RowAt w0 (w3.setCell ⟨g, lo, none⟩ (.string tx)) W.heap.size g n (Gfm.upd (F) lo (Rf.apartF m F lo hi))) := by
  show RowAt _ _ _ _ _ _; rw [HTX.out]; exact J3
 clear J3 hc3 hf3 hTS
 go_wp2_with fail
 have L3' : Hid (RowAt w0 (w3.setCell ⟨g, lo, none⟩ (.string tx)) W.heap.size g n (Rf.stepA m F lo hi)) := L3.out
 refine (byP_any m n HMN.out hn w0 _ W.heap.size g hi _ L3'.out hhi).mono ?_
 rintro e w4 ⟨rfl, h4⟩
 have H4 : Hid (RowAt w0 w4 W.heap.size g n (Rf.stepP m (Rf.stepA m (F) lo hi) hi)) := h4
 clear h4
 go_wp2_with fail
 go_end0
 exact ⟨rfl, H4.out.own, H4.out.low⟩
end Go.Proofs.YtdgkhjgnjfgnlaaGreat
namespace Go.Proofs.YtdgkhjgnjfgnlaaGreat.Rf
open Gfm
theorem col_upd (F : Nat → ByteArray) (j : Nat) (x : ByteArray) (t : Nat) : col (upd F j x) t = upd (col F t) j (byt x t) := by
 funext i
 unfold col upd
 split <;> rfl
theorem byt_sumP (m : Nat) (F : Nat → ByteArray) (t : Nat) : byt (sumP m F) t = synP m (col F t) := by
 unfold sumP synP col; rw [byt_xor, byt_addF, UInt8.xor_comm]
theorem byt_sumQ (m : Nat) (F : Nat → ByteArray) (t : Nat) : byt (sumQ m F) t = synQ m (col F t) := by
 unfold sumQ synQ col; rw [byt_xor, byt_addQ, UInt8.xor_comm]
theorem byt_Q (m : Nat) (F : Nat → ByteArray) (t : Nat) : byt (addF m (qT F)) t = xorN m fun i => mulU (col F t i) (pE i) := by rw [byt_addQ]; rfl
theorem inv_pE (d : Nat) : powI 2 (-(d : Int)) = inv (pE d) := by
 rw [powI_ne _ (by decide), pE_pw]
 unfold inv
 rw [pw_mul (by decide), pw_mod (by decide) (by decide) (d * 254)]
 congr 1
 omega
theorem byt_solve1 (m d : Nat) (F : Nat → ByteArray) (t : Nat) : byt (timesB (sumQ m F) (powI 2 (-(d : Int)))) t = solve1 d (synQ m (col F t)) := by
 rw [byt_times, byt_sumQ, inv_pE]; rfl
theorem byt_apart (m x y : Nat) (F : Nat → ByteArray) (t : Nat) : byt (apartF m F x y) t = solve2 x y (synP m (col F t)) (synQ m (col F t)) := by
 unfold apartF solve2
 rw [byt_times, byt_xor, byt_times, byt_sumQ, byt_sumP]
theorem solve2_turn {d e : Nat} (h : d ≠ e) (hd : d < 16) (he : e < 16) (p q : UInt8) : solve2 e d p q = solve2 d e p q ^^^ p := by
 have h1 := (solve2_iff (Ne.symm h) he hd (solve2 e d p q) p q).2 rfl
 have h2 : (solve2 e d p q ^^^ p) ^^^ p = solve2 e d p q := by rw [UInt8.xor_assoc, UInt8.xor_self, UInt8.xor_zero]
 have h3 : mulU (solve2 e d p q ^^^ p) (pE d) ^^^ mulU ((solve2 e d p q ^^^ p) ^^^ p) (pE e) = q := by rw [h2, UInt8.xor_comm]; exact h1
 have h4 := (solve2_iff h hd he (solve2 e d p q ^^^ p) p q).1 h3
 rw [← h4, h2]
def Lev (s n : Nat) (F : Nat → ByteArray) : Prop := ∀ i, i < n → (F i).size = s
theorem Lev.upd {s n j : Nat} {F : Nat → ByteArray} (h : Lev s n F) {x : ByteArray} (hx : x.size = s) : Lev s n (upd F j x) := fun i hi => by
 by_cases e : i = j
 ·subst e; rw [upd_same]; exact hx
 ·rw [upd_other _ _ e]; exact h i hi
theorem Lev.max {s m : Nat} {f : Nat → Nat} (hm : 1 ≤ m) (h : ∀ i, i < m → f i = s) : maxN m f = s :=
 Nat.le_antisymm (maxN_le fun i hi => by rw [h i hi]; exact Nat.le_refl _) (by have := le_maxN f (k := 0) (n := m) (by omega); rw [h 0 (by omega)] at this; exact this)
theorem Lev.sumP {s m : Nat} {F : Nat → ByteArray} (hm : 1 ≤ m) (h : Lev s (m + 2) F) : (sumP m F).size = s := by
 unfold Go.Proofs.YtdgkhjgnjfgnlaaGreat.sumP
 rw [xorB_size, addF_size, Lev.max hm fun i hi => h i (by omega), h m (by omega)]; omega
theorem Lev.sumQ {s m : Nat} {F : Nat → ByteArray} (hm : 1 ≤ m) (h : Lev s (m + 2) F) : (sumQ m F).size = s := by
 unfold Go.Proofs.YtdgkhjgnjfgnlaaGreat.sumQ
 rw [xorB_size, addF_size, Lev.max hm fun i hi => by rw [qT_size]; exact h i (by omega), h (m + 1) (by omega)]; omega
theorem Lev.Q {s m : Nat} {F : Nat → ByteArray} (hm : 1 ≤ m) (h : Lev s (m + 2) F) : (addF m (qT F)).size = s := by
 rw [addF_size, Lev.max hm fun i hi => by rw [qT_size]; exact h i (by omega)]
theorem Lev.stepP {s m : Nat} {F : Nat → ByteArray} (hm : 1 ≤ m) (h : Lev s (m + 2) F) (x : Nat) : Lev s (m + 2) (stepP m F x) := Lev.upd h (Lev.sumP hm h)
theorem Lev.stepQ {s m : Nat} {F : Nat → ByteArray} (hm : 1 ≤ m) (h : Lev s (m + 2) F) (x : Nat) : Lev s (m + 2) (stepQ m F x) := Lev.upd h (by rw [timesB_size]; exact Lev.sumQ hm h)
theorem Lev.stepR {s m : Nat} {F : Nat → ByteArray} (hm : 1 ≤ m) (h : Lev s (m + 2) F) (x : Nat) : Lev s (m + 2) (stepR m F x) := Lev.upd h (Lev.Q hm h)
theorem Lev.stepA {s m : Nat} {F : Nat → ByteArray} (hm : 1 ≤ m) (h : Lev s (m + 2) F) (x y : Nat) : Lev s (m + 2) (stepA m F x y) := Lev.upd h (by
 unfold apartF
 rw [timesB_size, xorB_size, timesB_size, Lev.sumQ hm h, Lev.sumP hm h]; omega)
theorem Lev.blank {s n ln : Nat} {f : Nat → ByteArray} {L : Nat → Int} (h : ∀ i, i < n → hasF ln L (i : Int) = false → (f i).size = s) : Lev s n (blankF f ln L s) := fun i hi => by
 cases e : hasF ln L (i : Int) with
 | true => rw [blankF_lost e, zeroT_size]
 | false => rw [blankF_kept e]; exact h i hi e
theorem col_blank (f : Nat → ByteArray) (ln : Nat) (L : Nat → Int) (s t : Nat) : col (blankF f ln L s) t = atB f ln L t := by
 funext i
 unfold col
 cases e : hasF ln L (i : Int) with
 | true => rw [blankF_lost e, zeroT_byt, atB_lost e]
 | false => rw [blankF_kept e, atB_kept e]
theorem upd_turn {α : Type} (b : Nat → α) {d e : Nat} (h : d ≠ e) (x y : α) : upd (upd b d x) e y = upd (upd b e y) d x := by
 funext i
 unfold upd
 by_cases h1 : i = d <;> by_cases h2 : i = e
 ·omega
 ·simp [h1, h]
 ·simp [h2, Ne.symm h]
 ·simp [h1, h2]
theorem done_of {m ln s : Nat} {f R : Nat → ByteArray} {L : Nat → Int} (e : szF f ln L (m + 2) = (s : Int)) (hR : Lev s (m + 2) R)
  (hb : ∀ t, col R t = fillB m (atB f ln L t) (lostD m ln L) (hasF ln L (m : Int)) (hasF ln L ((m : Int) + 1))) : ∀ i, i < m + 2 → R i = fillF (m + 2) f ln L i := by
 intro i hi
 refine byt_ext (by rw [fillF_size e, hR i hi]) fun t => ?_
 by_cases ht : t < s
 ·rw [fillF_byt e ht, rowsR_eq, ← hb t]; rfl
 ·rw [byt_past (by rw [hR i hi]; omega), byt_past (by rw [fillF_size e]; omega)]
section
variable {m ln s : Nat} {f : Nat → ByteArray} {L : Nat → Int}
theorem synP_upd {b : Nat → UInt8} {d : Nat} (hd : d < m) (h0 : b d = 0) (v : UInt8) : synP m (upd b d v) = synP m b ^^^ v := by
 rw [synP_set (b := b) hd (fun i _ hne => upd_other _ _ hne) (upd_other _ _ (by omega)), upd_same, h0, UInt8.zero_xor]
theorem done_p (hm : 1 ≤ m) (e : szF f ln L (m + 2) = (s : Int)) (hs : ∀ i, i < m + 2 → hasF ln L (i : Int) = false → (f i).size = s) {d : Nat} (hD : lostD m ln L = [d]) (hp : hasF ln L (m : Int) = false) (hq : hasF ln L ((m : Int) + 1) = false) :
  ∀ i, i < m + 2 → stepP m (blankF f ln L s) d i = fillF (m + 2) f ln L i := by
 refine done_of e (Lev.stepP hm (Lev.blank hs) d) fun t => ?_
 rw [hD, hp, hq]
 unfold stepP fillB
 rw [col_upd, byt_sumP, col_blank, fixPQ_ff]; rfl
theorem done_pp (hm : 1 ≤ m) (e : szF f ln L (m + 2) = (s : Int)) (hs : ∀ i, i < m + 2 → hasF ln L (i : Int) = false → (f i).size = s) (hD : lostD m ln L = []) (hp : hasF ln L (m : Int) = true) (hq : hasF ln L ((m : Int) + 1) = false) :
  ∀ i, i < m + 2 → stepP m (blankF f ln L s) m i = fillF (m + 2) f ln L i := by
 refine done_of e (Lev.stepP hm (Lev.blank hs) m) fun t => ?_
 rw [hD, hp, hq]
 unfold stepP fillB
 rw [col_upd, byt_sumP, col_blank, fixPQ_tf]
 show _ = upd (atB f ln L t) m (atB f ln L t m ^^^ synP m (atB f ln L t))
 rw [atB_lost hp, UInt8.zero_xor]
theorem done_q (hm : 1 ≤ m) (e : szF f ln L (m + 2) = (s : Int)) (hs : ∀ i, i < m + 2 → hasF ln L (i : Int) = false → (f i).size = s) (hD : lostD m ln L = []) (hp : hasF ln L (m : Int) = false) (hq : hasF ln L ((m : Int) + 1) = true) :
  ∀ i, i < m + 2 → stepR m (blankF f ln L s) (m + 1) i = fillF (m + 2) f ln L i := by
 have hq' : hasF ln L ((m + 1 : Nat) : Int) = true := by rw [show ((m + 1 : Nat) : Int) = (m : Int) + 1 from by omega]; exact hq
 refine done_of e (Lev.stepR hm (Lev.blank hs) (m + 1)) fun t => ?_
 rw [hD, hp, hq]
 unfold stepR fillB
 rw [col_upd, byt_Q, col_blank, fixPQ_ft]
 show _ = upd (atB f ln L t) (m + 1) (atB f ln L t (m + 1) ^^^ synQ m (atB f ln L t))
 unfold synQ
 rw [atB_lost hq', UInt8.zero_xor, UInt8.zero_xor]
theorem done_dp (hm : 1 ≤ m) (e : szF f ln L (m + 2) = (s : Int)) (hs : ∀ i, i < m + 2 → hasF ln L (i : Int) = false → (f i).size = s) {d : Nat} (hd : d < m) (hD : lostD m ln L = [d]) (hp : hasF ln L (m : Int) = true) (hq : hasF ln L ((m : Int) + 1) = false) :
  ∀ i, i < m + 2 → stepP m (stepQ m (blankF f ln L s) d) m i = fillF (m + 2) f ln L i := by
 refine done_of e (Lev.stepP hm (Lev.stepQ hm (Lev.blank hs) d) m) fun t => ?_
 rw [hD, hp, hq]
 unfold stepP fillB
 rw [col_upd, byt_sumP, fixPQ_tf]
 unfold stepQ
 rw [col_upd, byt_solve1, col_blank]
 show _ = upd (upd (atB f ln L t) d (solve1 d (synQ m (atB f ln L t)))) m (upd (atB f ln L t) d (solve1 d (synQ m (atB f ln L t))) m ^^^ _)
 rw [upd_other _ (i := m) (k := d) _ (by omega), atB_lost hp, UInt8.zero_xor]; rfl
theorem done_dq (hm : 1 ≤ m) (e : szF f ln L (m + 2) = (s : Int)) (hs : ∀ i, i < m + 2 → hasF ln L (i : Int) = false → (f i).size = s) {d : Nat} (hd : d < m) (hD : lostD m ln L = [d]) (hp : hasF ln L (m : Int) = false) (hq : hasF ln L ((m : Int) + 1) = true) :
  ∀ i, i < m + 2 → stepR m (stepP m (blankF f ln L s) d) (m + 1) i = fillF (m + 2) f ln L i := by
 have hq' : hasF ln L ((m + 1 : Nat) : Int) = true := by rw [show ((m + 1 : Nat) : Int) = (m : Int) + 1 from by omega]; exact hq
 refine done_of e (Lev.stepR hm (Lev.stepP hm (Lev.blank hs) d) (m + 1)) fun t => ?_
 rw [hD, hp, hq]
 unfold stepR fillB
 rw [col_upd, byt_Q, fixPQ_ft]
 unfold stepP
 rw [col_upd, byt_sumP, col_blank]
 show _ = upd (upd (atB f ln L t) d (synP m (atB f ln L t))) (m + 1) (upd (atB f ln L t) d (synP m (atB f ln L t)) (m + 1) ^^^ synQ m (upd (atB f ln L t) d (synP m (atB f ln L t))))
 unfold synQ
 rw [upd_other _ (i := m + 1) (k := d) _ (by omega), atB_lost hq', UInt8.zero_xor, UInt8.zero_xor]
theorem done_pq (hm : 1 ≤ m) (e : szF f ln L (m + 2) = (s : Int)) (hs : ∀ i, i < m + 2 → hasF ln L (i : Int) = false → (f i).size = s) (hD : lostD m ln L = []) (hp : hasF ln L (m : Int) = true) (hq : hasF ln L ((m : Int) + 1) = true) :
  ∀ i, i < m + 2 → stepR m (stepP m (blankF f ln L s) m) (m + 1) i = fillF (m + 2) f ln L i := by
 have hq' : hasF ln L ((m + 1 : Nat) : Int) = true := by rw [show ((m + 1 : Nat) : Int) = (m : Int) + 1 from by omega]; exact hq
 refine done_of e (Lev.stepR hm (Lev.stepP hm (Lev.blank hs) m) (m + 1)) fun t => ?_
 rw [hD, hp, hq]
 unfold stepR fillB
 rw [col_upd, byt_Q, fixPQ_tt]
 unfold stepP
 rw [col_upd, byt_sumP, col_blank]
 show _ = upd (upd (atB f ln L t) m (atB f ln L t m ^^^ synP m (atB f ln L t))) (m + 1) (atB f ln L t (m + 1) ^^^ synQ m (atB f ln L t))
 rw [atB_lost hp, atB_lost hq', UInt8.zero_xor, UInt8.zero_xor]
 congr 1
 unfold synQ
 rw [atB_lost hq', UInt8.zero_xor]
 exact xorN_congr fun i hi => by rw [upd_other _ _ (by omega)]
theorem done_dd (hm : 1 ≤ m) (e : szF f ln L (m + 2) = (s : Int)) (hs : ∀ i, i < m + 2 → hasF ln L (i : Int) = false → (f i).size = s) {d d' : Nat} (hd : d < m) (hd' : d' < m) (hne : d ≠ d') (hs16 : m < 16) (hl : hasF ln L (d : Int) = true) (_hl' : hasF ln L (d' : Int) = true) (hD : lostD m ln L = [d, d'] ∨ lostD m ln L = [d', d]) (hp : hasF ln L (m : Int) = false) (hq : hasF ln L ((m : Int) + 1) = false) :
  ∀ i, i < m + 2 → stepP m (stepA m (blankF f ln L s) d d') d' i = fillF (m + 2) f ln L i := by
 refine done_of e (Lev.stepP hm (Lev.stepA hm (Lev.blank hs) d d') d') fun t => ?_
 unfold stepP
 rw [col_upd, byt_sumP]
 unfold stepA
 rw [col_upd, byt_apart, col_blank, synP_upd hd (atB_lost hl), hp, hq]
 unfold fillB
 rw [fixPQ_ff]
 rcases hD with hD | hD
 ·rw [hD, UInt8.xor_comm]; rfl
 ·rw [hD]
  show _ = upd (upd (atB f ln L t) d' (solve2 d' d (synP m (atB f ln L t)) (synQ m (atB f ln L t)))) d (solve2 d' d (synP m (atB f ln L t)) (synQ m (atB f ln L t)) ^^^ synP m (atB f ln L t))
  rw [solve2_turn hne (by omega) (by omega), upd_turn _ hne, UInt8.xor_assoc, UInt8.xor_self, UInt8.xor_zero, UInt8.xor_comm (synP m (atB f ln L t))]
end
end Go.Proofs.YtdgkhjgnjfgnlaaGreat.Rf
namespace Go.Proofs.YtdgkhjgnjfgnlaaGreat
open Go.RowKit
theorem min_any (ln : Nat) (h0 : 0 < ln) (hln : ln ≤ 1000) (L : Nat → Int) (b : Option Addr) (capb : Nat) (w : World) (hl : RowI .i64 w b ln L) :
  Calls Tryz.prog 112 #[.slice b ln capb] w fun e w' => e = .returned (.int .i64 (Lib.minOf (Rf.uptoL L ln))) ∧ w' = w := by
 obtain ⟨b0, o0, rfl, _⟩ := hl 0 h0
 have hz := Rf.uptoL_length L ln
 have h := Tryz.slices_Min_int b0 o0 ln capb (Rf.uptoL L ln) w h0 (by omega) (by omega) fun j hj => by
  obtain ⟨b1, o1, e, hc⟩ := hl j (by omega)
  cases e
  rw [hc]
  rw [hz] at hj
  simp [Rf.uptoL, hj]
 rw [List.take_of_length_le (by omega)] at h
 exact h
theorem max_any (ln : Nat) (h0 : 0 < ln) (hln : ln ≤ 1000) (L : Nat → Int) (b : Option Addr) (capb : Nat) (w : World) (hl : RowI .i64 w b ln L) :
  Calls Tryz.prog 113 #[.slice b ln capb] w fun e w' => e = .returned (.int .i64 (Lib.maxOf (Rf.uptoL L ln))) ∧ w' = w := by
 obtain ⟨b0, o0, rfl, _⟩ := hl 0 h0
 have hz := Rf.uptoL_length L ln
 have h := Tryz.slices_Max_int b0 o0 ln capb (Rf.uptoL L ln) w h0 (by omega) (by omega) fun j hj => by
  obtain ⟨b1, o1, e, hc⟩ := hl j (by omega)
  cases e
  rw [hc]
  rw [hz] at hj
  simp [Rf.uptoL, hj]
 rw [List.take_of_length_le (by omega)] at h
 exact h
namespace Rf
structure Ends (ln : Nat) (L : Nat → Int) (lo hi : Nat) : Prop where
 some : (ln = 1 ∧ lo = hi ∧ L 0 = (lo : Int)) ∨ (ln = 2 ∧ lo < hi ∧ ((L 0 = (lo : Int) ∧ L 1 = (hi : Int)) ∨ (L 0 = (hi : Int) ∧ L 1 = (lo : Int))))
theorem Ends.of {n ln : Nat} {L : Nat → Int} (h0 : 0 < ln) (h2 : ln ≤ 2) (hok : ∀ i, i < ln → 0 ≤ L i ∧ L i < (n : Int) ∧ hasF i L (L i) = false) : ∃ lo hi, lo < n ∧ hi < n ∧ Ends ln L lo hi := by
 obtain ⟨a0, b0, _⟩ := hok 0 h0
 obtain ⟨x, hx⟩ := Int.eq_ofNat_of_zero_le a0
 by_cases e : ln = 1
 ·exact ⟨x, x, by omega, by omega, ⟨.inl ⟨e, rfl, hx⟩⟩⟩
 ·obtain ⟨a1, b1, c1⟩ := hok 1 (by omega)
  obtain ⟨y, hy⟩ := Int.eq_ofNat_of_zero_le a1
  have hne : x ≠ y := fun e => by
   rw [hasF_yes (i := 0) (by omega) (by rw [hx, hy, e])] at c1; cases c1
  by_cases hlt : x < y
  ·exact ⟨x, y, by omega, by omega, ⟨.inr ⟨by omega, hlt, .inl ⟨hx, hy⟩⟩⟩⟩
  ·exact ⟨y, x, by omega, by omega, ⟨.inr ⟨by omega, by omega, .inr ⟨hx, hy⟩⟩⟩⟩
variable {ln lo hi : Nat} {L : Nat → Int}
theorem upto_one (L : Nat → Int) : uptoL L 1 = [L 0] := rfl
theorem upto_two (L : Nat → Int) : uptoL L 2 = [L 0, L 1] := rfl
theorem Ends.min (h : Ends ln L lo hi) : Lib.minOf (uptoL L ln) = (lo : Int) := by
 rcases h.some with ⟨rfl, _, e⟩ | ⟨rfl, hlt, ⟨e, e'⟩ | ⟨e, e'⟩⟩
 ·rw [upto_one, e]; show Min.min (lo : Int) lo = lo; omega
 ·rw [upto_two, e, e']; show Min.min (Min.min (lo : Int) lo) hi = lo; omega
 ·rw [upto_two, e, e']; show Min.min (Min.min (hi : Int) hi) lo = lo; omega
theorem Ends.max (h : Ends ln L lo hi) : Lib.maxOf (uptoL L ln) = (hi : Int) := by
 rcases h.some with ⟨rfl, e0, e⟩ | ⟨rfl, hlt, ⟨e, e'⟩ | ⟨e, e'⟩⟩
 ·rw [upto_one, e]; show Max.max (lo : Int) lo = hi; omega
 ·rw [upto_two, e, e']; show Max.max (Max.max (lo : Int) lo) hi = hi; omega
 ·rw [upto_two, e, e']; show Max.max (Max.max (hi : Int) hi) lo = hi; omega
def pick2 (lo hi j : Nat) : Nat := if j = 0 then lo else hi
theorem Ends.sorted (h : Ends ln L lo hi) : ((uptoL L ln).mergeSort fun x y => decide (x ≤ y)) = (List.range ln).map fun j => ((pick2 lo hi j : Nat) : Int) := by
 rcases h.some with ⟨rfl, _, e⟩ | ⟨rfl, hlt, ⟨e, e'⟩ | ⟨e, e'⟩⟩
 ·rw [upto_one, e, sort_one]; rfl
 ·rw [upto_two, e, e', sort_two _ _ (by omega)]; rfl
 ·rw [upto_two, e, e', sort_turn _ _ (by omega)]; rfl
theorem Ends.has (h : Ends ln L lo hi) (x : Int) : hasF ln L x = true ↔ x = (lo : Int) ∨ x = (hi : Int) := by
 rcases h.some with ⟨rfl, e0, e⟩ | ⟨rfl, hlt, ⟨e, e'⟩ | ⟨e, e'⟩⟩
 ·rw [hasF_succ, hasF_zero, e]; simp; omega
 ·rw [hasF_succ, hasF_succ, hasF_zero, e, e']; simp; omega
 ·rw [hasF_succ, hasF_succ, hasF_zero, e, e']; simp; omega
theorem Ends.not (h : Ends ln L lo hi) {x : Int} (h1 : x ≠ (lo : Int)) (h2 : x ≠ (hi : Int)) : hasF ln L x = false := by
 cases e : hasF ln L x with
 | false => rfl
 | true => rcases (h.has x).1 e with h3 | h3 <;> contradiction
theorem Ends.lo_in (h : Ends ln L lo hi) : hasF ln L (lo : Int) = true := (h.has _).2 (.inl rfl)
theorem Ends.hi_in (h : Ends ln L lo hi) : hasF ln L (hi : Int) = true := (h.has _).2 (.inr rfl)
theorem Ends.none (h : Ends ln L lo hi) {m : Nat} (h1 : m ≤ lo) (h2 : m ≤ hi) : lostD m ln L = [] := by
 rcases h.some with ⟨rfl, _, e⟩ | ⟨rfl, hlt, ⟨e, e'⟩ | ⟨e, e'⟩⟩
 ·rw [lostD_no (by omega)]; rfl
 ·rw [lostD_no (by omega), lostD_no (by omega)]; rfl
 ·rw [lostD_no (by omega), lostD_no (by omega)]; rfl
theorem Ends.one (h : Ends ln L lo hi) {m : Nat} (h1 : lo < m) (h2 : m ≤ hi ∨ ln = 1) : lostD m ln L = [lo] := by
 rcases h.some with ⟨rfl, _, e⟩ | ⟨rfl, hlt, ⟨e, e'⟩ | ⟨e, e'⟩⟩
 ·rw [lostD_yes (by omega), e]; rfl
 ·rw [lostD_no (by omega), lostD_yes (by omega), e]; rfl
 ·rw [lostD_yes (by omega), lostD_no (by omega), e']; rfl
theorem Ends.two (h : Ends ln L lo hi) {m : Nat} (h1 : hi < m) (h2 : ln = 2) : lostD m ln L = [lo, hi] ∨ lostD m ln L = [hi, lo] := by
 rcases h.some with ⟨rfl, _, e⟩ | ⟨rfl, hlt, ⟨e, e'⟩ | ⟨e, e'⟩⟩
 ·omega
 ·left; rw [lostD_yes (by omega), lostD_yes (by omega), e, e']; rfl
 ·right; rw [lostD_yes (by omega), lostD_yes (by omega), e, e']; rfl
end Rf
theorem refill_all (m n : Nat) (hmn : m + 2 = n) (hm1 : 1 ≤ m) (hn : n ≤ 10) (w0 W : World) (g : Nat) (f : Nat → ByteArray) (ln : Nat) (L : Nat → Int) (s : Nat) (h0 : 0 < ln) (h2 : ln ≤ 2)
  (hok : ∀ i, i < ln → 0 ≤ L i ∧ L i < (n : Int) ∧ Rf.hasF i L (L i) = false) (hz : Rf.szF f ln L n = (s : Int)) (hs : ∀ i, i < n → Rf.hasF ln L (i : Int) = false → (f i).size = s)
  (hlow : Below w0.heap.size w0 W) (own : W.ownsRow w0.heap.size 9 1 (.slice (some ⟨g, 0, none⟩) n n) n (textVals n (Rf.blankF f ln L s))) (fits : Fits 1048576 n (Rf.blankF f ln L s))
  (b : Option Addr) (capb : Nat) (hl : RowI .i64 W b ln L) :
  Calls Tryz.prog 81 #[.slice (some ⟨g, 0, none⟩) n n, .slice b ln capb] W fun e W' => e = .returned (.tuple #[]) ∧ W'.ownsRow w0.heap.size 9 1 (.slice (some ⟨g, 0, none⟩) n n) n (textVals n (Rf.fillF n f ln L)) ∧ Below w0.heap.size w0 W' := by
 subst hmn
 obtain ⟨lo, hi, hlo, hhi, hE⟩ := Rf.Ends.of h0 h2 hok
 have hMin : ∀ W', Below W.heap.size W W' → Calls Tryz.prog 112 #[.slice b ln capb] W' fun e w' => e = .returned (.int .i64 (lo : Nat)) ∧ w' = W' := fun W' hb => by
  have := min_any ln h0 (by omega) L b capb W' (hl.below hb)
  rw [hE.min] at this; exact this
 have hMax : ∀ W', Below W.heap.size W W' → Calls Tryz.prog 113 #[.slice b ln capb] W' fun e w' => e = .returned (.int .i64 (hi : Nat)) ∧ w' = W' := fun W' hb => by
  have := max_any ln h0 (by omega) L b capb W' (hl.below hb)
  rw [hE.max] at this; exact this
 have hKi : ∀ W', Below W.heap.size W W' → Calls Tryz.prog 119 #[.slice b ln capb, .int .i64 (m : Nat)] W' fun e w' => e = .returned (.agg #[.int .i64 (Rf.kAt (Rf.pick2 lo hi) m ln 0), .int .i64 (Rf.kAt (Rf.pick2 lo hi) m ln 1)]) ∧ Below W'.heap.size W' w' := fun W' hb =>
  kinds_any m (by omega) ln h0 h2 L (Rf.pick2 lo hi) hE.sorted (fun j _ => by unfold Rf.pick2; split <;> omega) b capb W' (hl.below hb)
 have k0 : Rf.kAt (Rf.pick2 lo hi) m ln 0 = Rf.kindF lo m := by unfold Rf.kAt; rw [if_pos h0]; rfl
 rw [k0] at hKi
 have fin : ∀ F : Nat → ByteArray, (∀ i, i < m + 2 → F i = Rf.fillF (m + 2) f ln L i) → textVals (m + 2) F = textVals (m + 2) (Rf.fillF (m + 2) f ln L) := fun F h => textVals_congr h
 rcases hE.some with ⟨e1, rfl, _⟩ | ⟨e2, hlt, _⟩
 ·have k1 : Rf.kAt (Rf.pick2 lo lo) m ln 1 = 3 := by unfold Rf.kAt; rw [if_neg (by omega)]
  rw [k1] at hKi
  by_cases c1 : lo < m
  ·have k : Rf.kindF lo m = 0 := by unfold Rf.kindF; rw [if_neg (by omega), if_neg (by omega)]
   rw [k] at hKi
   refine (refill_p m _ rfl (by omega) w0 W g _ hlow own fits ln b capb lo lo hlo hhi hMin hMax hKi).mono ?_
   rintro e w' ⟨rfl, ho, hb⟩
   rw [fin _ (Rf.done_p hm1 hz hs (hE.one c1 (.inr e1)) (hE.not (by omega) (by omega)) (hE.not (by omega) (by omega)))] at ho
   exact ⟨rfl, ho, hb⟩
  ·by_cases c2 : lo = m
   ·subst c2
    have k : Rf.kindF lo lo = 1 := if_pos rfl
    rw [k] at hKi
    refine (refill_pp lo _ rfl (by omega) w0 W g _ hlow own fits ln b capb lo lo hlo hhi hMin hMax hKi).mono ?_
    rintro e w' ⟨rfl, ho, hb⟩
    rw [fin _ (Rf.done_pp hm1 hz hs (hE.none (Nat.le_refl _) (Nat.le_refl _)) hE.lo_in (hE.not (by omega) (by omega)))] at ho
    exact ⟨rfl, ho, hb⟩
   ·obtain rfl : lo = m + 1 := by omega
    have k : Rf.kindF (m + 1) m = 2 := by unfold Rf.kindF; rw [if_neg (by omega), if_pos rfl]
    rw [k] at hKi
    refine (refill_q m _ rfl (by omega) w0 W g _ hlow own fits ln b capb (m + 1) (m + 1) hlo hhi hMin hMax hKi).mono ?_
    rintro e w' ⟨rfl, ho, hb⟩
    rw [fin _ (Rf.done_q hm1 hz hs (hE.none (by omega) (by omega)) (hE.not (by omega) (by omega)) ((hE.has _).2 (.inl (by omega))))] at ho
    exact ⟨rfl, ho, hb⟩
 ·have k1 : Rf.kAt (Rf.pick2 lo hi) m ln 1 = Rf.kindF hi m := by unfold Rf.kAt; rw [if_pos (by omega)]; rfl
  rw [k1] at hKi
  by_cases c1 : hi < m
  ·have k : Rf.kindF lo m = 0 := by unfold Rf.kindF; rw [if_neg (by omega), if_neg (by omega)]
   have k' : Rf.kindF hi m = 0 := by unfold Rf.kindF; rw [if_neg (by omega), if_neg (by omega)]
   rw [k, k'] at hKi
   refine (refill_dd m _ rfl (by omega) w0 W g _ hlow own fits ln b capb lo hi hlo hhi hMin hMax hKi).mono ?_
   rintro e w' ⟨rfl, ho, hb⟩
   rw [fin _ (Rf.done_dd hm1 hz hs (by omega) c1 (by omega) (by omega) hE.lo_in hE.hi_in (hE.two c1 e2) (hE.not (by omega) (by omega)) (hE.not (by omega) (by omega)))] at ho
   exact ⟨rfl, ho, hb⟩
  ·by_cases c2 : lo < m
   ·have k : Rf.kindF lo m = 0 := by unfold Rf.kindF; rw [if_neg (by omega), if_neg (by omega)]
    by_cases c3 : hi = m
    ·subst c3
     have k' : Rf.kindF hi hi = 1 := if_pos rfl
     rw [k, k'] at hKi
     refine (refill_dp hi _ rfl (by omega) w0 W g _ hlow own fits ln b capb lo hi hlo hhi hMin hMax hKi).mono ?_
     rintro e w' ⟨rfl, ho, hb⟩
     rw [fin _ (Rf.done_dp hm1 hz hs c2 (hE.one c2 (.inl (Nat.le_refl _))) hE.hi_in (hE.not (by omega) (by omega)))] at ho
     exact ⟨rfl, ho, hb⟩
    ·obtain rfl : hi = m + 1 := by omega
     have k' : Rf.kindF (m + 1) m = 2 := by unfold Rf.kindF; rw [if_neg (by omega), if_pos rfl]
     rw [k, k'] at hKi
     refine (refill_dq m _ rfl (by omega) w0 W g _ hlow own fits ln b capb lo (m + 1) hlo hhi hMin hMax hKi).mono ?_
     rintro e w' ⟨rfl, ho, hb⟩
     rw [fin _ (Rf.done_dq hm1 hz hs c2 (hE.one c2 (.inl (by omega))) (hE.not (by omega) (by omega)) ((hE.has _).2 (.inr (by omega))))] at ho
     exact ⟨rfl, ho, hb⟩
   ·obtain rfl : lo = m := by omega
    obtain rfl : hi = lo + 1 := by omega
    have k : Rf.kindF lo lo = 1 := if_pos rfl
    have k' : Rf.kindF (lo + 1) lo = 2 := by unfold Rf.kindF; rw [if_neg (by omega), if_pos rfl]
    rw [k, k'] at hKi
    refine (refill_pq lo _ rfl (by omega) w0 W g _ hlow own fits ln b capb lo (lo + 1) hlo hhi hMin hMax hKi).mono ?_
    rintro e w' ⟨rfl, ho, hb⟩
    rw [fin _ (Rf.done_pq hm1 hz hs (hE.none (Nat.le_refl _) (by omega)) hE.lo_in ((hE.has _).2 (.inr (by omega))))] at ho
    exact ⟨rfl, ho, hb⟩
end Go.Proofs.YtdgkhjgnjfgnlaaGreat
namespace Go.Proofs.YtdgkhjgnjfgnlaaGreat
open Go.RowKit
set_option maxRecDepth 100000 in
set_option maxHeartbeats 1000000 in
theorem Fill_no (n : Nat) (f : Nat → ByteArray) (hn : n ≤ 2000) (hf : Fits 1048576 n f) (a : Option Addr) (cap : Nat) (hcap : n ≤ cap) (ln : Nat) (L : Nat → Int) (hln : ln ≤ 1000) (b : Option Addr) (capb : Nat) (hcapb : ln ≤ capb) (w : World) (hr : RowS w a n f) (hl : RowI .i64 w b ln L) (hmay : Rf.mayF n f ln L ≠ 0) :
  Calls Tryz.prog 47 #[.slice a n cap, .slice b ln capb] w fun e w' => e = .returned (.tuple #[.slice none 0 0, .int .i64 (Rf.mayF n f ln L)]) ∧ Below w.heap.size w w' := by
 have hMAY := pMay_big n f hn hf a cap hcap ln L hln b capb hcapb w hr hl
 obtain ⟨x, hx⟩ : ∃ x, Rf.mayF n f ln L = x := ⟨_, rfl⟩
 rw [hx] at hMAY hmay
 rw [hx]
 have h0 : (x != 0) = true := by rw [bne_iff_ne]; exact hmay
 clear hx hmay
 go_enter Tryz.func47, Tryz.ntmps47
 go_wp2_with fail
 refine hMAY.mono ?_
 rintro e w1 ⟨rfl, b1⟩
 go_wp2
 go_ret2
 exact ⟨rfl, b1⟩
set_option maxRecDepth 100000 in
set_option maxHeartbeats 1000000 in
theorem Fill_ok (n : Nat) (f : Nat → ByteArray) (hn : n ≤ 2000) (hf : Fits 1048576 n f) (a : Option Addr) (cap : Nat) (hcap : n ≤ cap) (ln : Nat) (L : Nat → Int) (hln : ln ≤ 1000) (b : Option Addr) (capb : Nat) (hcapb : ln ≤ capb) (w : World) (hr : RowS w a n f) (hl : RowI .i64 w b ln L) (hmay : Rf.mayF n f ln L = 0) :
    Calls Tryz.prog 47 #[.slice a n cap, .slice b ln capb] w fun e w' => (∃ g, e = .returned (.tuple #[.slice (some ⟨g, 0, none⟩) n n, .int .i64 0]) ∧ RowS w' (some ⟨g, 0, none⟩) n (Rf.fillF n f ln L)) ∧ Below w.heap.size w w' := by
  have hMAY := pMay_big n f hn hf a cap hcap ln L hln b capb hcapb w hr hl
  rw [hmay] at hMAY
  obtain ⟨n4, n10, l2, hok, s, s4, hz, hs⟩ := Rf.mayF_tells hmay
  have hk : Rf.kc n (Rf.hasF ln L) + ln = n := Rf.kc_lost fun i hi => Rf.okL_at hok hi
  have hkl : 0 < (Rf.keptF f ln L n).length := by rw [Rf.keptF_length]; omega
  have hfirst : (Rf.keptG f ln L n 0).size = s := by
    unfold Rf.keptG
    rw [List.getD_eq_getElem?_getD, List.getElem?_eq_getElem hkl]
    obtain ⟨i, hi, hh, e⟩ := Rf.mem_keptF.1 (List.getElem_mem hkl)
    show (Rf.keptF f ln L n)[0].size = s
    rw [← e]; exact hs i hi hh
  have hBL : Hid (∀ W, Below w.heap.size w W → Calls Tryz.prog 80 #[.slice a n cap, .slice b ln capb] W fun e w' => ∃ g, e = .returned (.slice (some ⟨g, 0, none⟩) n n) ∧ w'.ownsRow W.heap.size 9 1 (.slice (some ⟨g, 0, none⟩) n n) n (textVals n (Rf.blankF f ln L s)) ∧ Below W.heap.size W w') := fun W hW => by
    have h := blanked_any n f hn hf a cap ln L hln b capb W (hr.below hW) (hl.below hW) hkl
    rw [hfirst] at h; exact h
  have hfits : Hid (Fits 1048576 n (Rf.blankF f ln L s)) := fun i hi => by
    rw [Rf.Lev.blank (s := s) hs i hi]; omega
  have hRF : Hid (∀ (w0 W : World) (g : Nat), 0 < ln → Below w.heap.size w W → Below w0.heap.size w0 W → W.ownsRow w0.heap.size 9 1 (.slice (some ⟨g, 0, none⟩) n n) n (textVals n (Rf.blankF f ln L s)) →
      Calls Tryz.prog 81 #[.slice (some ⟨g, 0, none⟩) n n, .slice b ln capb] W fun e W' => e = .returned (.tuple #[]) ∧ W'.ownsRow w0.heap.size 9 1 (.slice (some ⟨g, 0, none⟩) n n) n (textVals n (Rf.fillF n f ln L)) ∧ Below w0.heap.size w0 W') := fun w0 W g h0 hW hlow own =>
    refill_all (n - 2) n (by omega) (by omega) n10 w0 W g f ln L s h0 l2 (fun i hi => Rf.okL_at hok hi) hz hs hlow own hfits.out b capb (hl.below hW)
  have hNONE : Hid (ln = 0 → textVals n (Rf.blankF f ln L s) = textVals n (Rf.fillF n f ln L)) := fun e => textVals_congr fun i hi => by
    subst e
    have hL : Rf.Lost (n - 2) 0 L := Rf.Lost.zero (by omega) L
    have h := Rf.fillF_keeps (m := n - 2) (f := f) (s := s) hL (by omega) (fun i hi hh => hs i (by omega) hh) (i := i) (by omega) rfl
    rw [show n - 2 + 2 = n from by omega] at h
    rw [h]; rfl
  clear hmay hok hz hs hk hkl hfirst hr hl hf
  go_enter Tryz.func47, Tryz.ntmps47
  go_wp2_with fail
  refine hMAY.mono ?_
  rintro e w1 ⟨rfl, b1⟩
  have B1 : Hid (Below w.heap.size w w1) := b1
  clear hMAY b1
  go_wp2_with fail
  refine (hBL.out w1 B1.out).mono ?_
  rintro e w2 ⟨g, rfl, own, b2⟩
  have OWN : Hid (w2.ownsRow w1.heap.size 9 1 (.slice (some ⟨g, 0, none⟩) n n) n (textVals n (Rf.blankF f ln L s))) := own
  have B2 : Hid (Below w1.heap.size w1 w2) := b2
  have B02 : Hid (Below w.heap.size w w2) := below2 B1.out b2
  clear own b2
  by_cases h0 : (0 : Int) < (ln : Int)
  · have hR := hRF.out w1 w2 g (by omega) B02.out B2.out OWN.out
    clear hRF hNONE
    go_wp2_with fail
    refine hR.mono ?_
    rintro e w3 ⟨rfl, own3, b3⟩
    obtain ⟨a3, c3, e3, r3, _⟩ := RowS.of_owns own3
    cases e3
    have R3 : Hid (RowS w3 (some ⟨g, 0, none⟩) n (Rf.fillF n f ln L)) := r3
    have B3 : Hid (Below w.heap.size w w3) := below2 B1.out b3
    clear own3 r3 b3 hR
    go_wp2
    go_ret2
    exact ⟨⟨_, rfl, R3.out⟩, B3.out⟩
  · have own3 := OWN.out
    rw [hNONE.out (by omega)] at own3
    obtain ⟨a3, c3, e3, r3, _⟩ := RowS.of_owns own3
    cases e3
    have R3 : Hid (RowS w2 (some ⟨g, 0, none⟩) n (Rf.fillF n f ln L)) := r3
    clear own3 r3 hRF hNONE
    go_wp2
    go_ret2
    exact ⟨⟨_, rfl, R3.out⟩, B02.out⟩
theorem Fill_big (n : Nat) (f : Nat → ByteArray) (hn : n ≤ 2000) (hf : Fits 1048576 n f) (a : Option Addr) (cap : Nat) (hcap : n ≤ cap) (ln : Nat) (L : Nat → Int) (hln : ln ≤ 1000) (b : Option Addr) (capb : Nat) (hcapb : ln ≤ capb) (w : World) (hr : RowS w a n f) (hl : RowI .i64 w b ln L) :
  Calls Tryz.prog 47 #[.slice a n cap, .slice b ln capb] w fun e w' => FillSays n f ln L e w' ∧ Below w.heap.size w w' := by
 unfold FillSays
 by_cases h : Rf.mayF n f ln L = 0
 ·refine (Fill_ok n f hn hf a cap hcap ln L hln b capb hcapb w hr hl h).mono ?_
  rintro e w' ⟨⟨g, rfl, hr'⟩, hb⟩
  rw [h, Rf.kF_ok]
  exact ⟨⟨_, _, rfl, hr', Nat.le_refl _⟩, hb⟩
 ·refine (Fill_no n f hn hf a cap hcap ln L hln b capb hcapb w hr hl h).mono ?_
  rintro e w' ⟨rfl, hb⟩
  rw [Rf.kF_no h]
  exact ⟨⟨none, 0, rfl, RowS.nil _ _ _, Nat.le_refl _⟩, hb⟩
theorem Fill_says (n : Nat) (f : Nat → ByteArray) (hn : n ≤ 1000) (hf : Fits 1048576 n f) (a : Option Addr) (cap : Nat) (hcap : n ≤ cap) (ln : Nat) (L : Nat → Int) (hln : ln ≤ 1000) (b : Option Addr) (capb : Nat) (hcapb : ln ≤ capb) (w : World) (hr : RowS w a n f) (hl : RowI .i64 w b ln L) :
  Calls Tryz.prog 47 #[.slice a n cap, .slice b ln capb] w fun e w' => FillSays n f ln L e w' ∧ Below w.heap.size w w' := Fill_big n f (by omega) hf a cap hcap ln L hln b capb hcapb w hr hl
end Go.Proofs.YtdgkhjgnjfgnlaaGreat
