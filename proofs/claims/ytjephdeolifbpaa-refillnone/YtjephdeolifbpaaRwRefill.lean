/- The walk of the program's filling of a blanked row: once for each pair of kinds. -/
import Derived.Test.YtjephdeolifbpaaRwKinds
import Derived.Test.YtjephdeolifbpaaRwSteps
namespace Go.Proofs.Ytjephdeolifbpaa
open Go.RowKit

namespace Rf
open Gfm
/-- column x told by P; by Q; by both, the one at y lost too; Q told by the data -/
def stepP (m : Nat) (F : Nat → ByteArray) (x : Nat) : Nat → ByteArray := upd F x (sumP m F)
def stepQ (m : Nat) (F : Nat → ByteArray) (x : Nat) : Nat → ByteArray := upd F x (timesB (sumQ m F) (powI 2 (-(x : Int))))
def stepA (m : Nat) (F : Nat → ByteArray) (x y : Nat) : Nat → ByteArray := upd F x (apartF m F x y)
def stepR (m : Nat) (F : Nat → ByteArray) (x : Nat) : Nat → ByteArray := upd F x (addF m (qT F))
end Rf
theorem apart_size {B m : Nat} {F : Nat → ByteArray} (h : Fits B (m + 2) F) (x y : Nat) : (Rf.apartF m F x y).size ≤ B := by
  have h1 := h.sumP
  have h2 := h.sumQ
  unfold Rf.apartF
  rw [Gfm.timesB_size, Gfm.xorB_size, Gfm.timesB_size]
  omega

set_option maxRecDepth 100000 in
set_option maxHeartbeats 4000000 in
theorem refill_p (m n : Nat) (hmn : m + 2 = n) (hn : n ≤ 1000) (w0 W : World) (g : Nat) (F : Nat → ByteArray) (hlow : Below w0.heap.size w0 W) (own : W.ownsRow w0.heap.size 9 1 (.slice (some ⟨g, 0, none⟩) n n) n (textVals n F)) (fits : Fits 1048576 n F)
    (ln : Nat) (b : Option Addr) (capb : Nat) (lo hi : Nat) (_hlo : lo < n) (hhi : hi < n)
    (hMin : ∀ W', Below W.heap.size W W' → Calls Try.prog 37 #[.slice b ln capb] W' fun e w' => e = .returned (.int .i64 (lo : Nat)) ∧ w' = W')
    (hMax : ∀ W', Below W.heap.size W W' → Calls Try.prog 38 #[.slice b ln capb] W' fun e w' => e = .returned (.int .i64 (hi : Nat)) ∧ w' = W')
    (hK : ∀ W', Below W.heap.size W W' → Calls Try.prog 44 #[.slice b ln capb, .int .i64 (m : Nat)] W' fun e w' => e = .returned (.agg #[.int .i64 0, .int .i64 3]) ∧ Below W'.heap.size W' w') :
    Calls Try.prog 21 #[.slice (some ⟨g, 0, none⟩) n n, .slice b ln capb] W fun e W' => e = .returned (.tuple #[]) ∧ W'.ownsRow w0.heap.size 9 1 (.slice (some ⟨g, 0, none⟩) n n) n (textVals n (Rf.stepP m (F) hi)) ∧ Below w0.heap.size w0 W' := by
  have hsz0 := hlow.size
  have A0 : RowAt w0 (W.alloc (.cells #[.slice (some ⟨g, 0, none⟩) n n] 22)) W.heap.size g n F :=
    ⟨hlow.alloc hsz0 _, by rw [World.cell?_alloc_mark]; rfl, own.alloc _, fits⟩
  have hB0 : Below W.heap.size W (W.alloc (.cells #[.slice (some ⟨g, 0, none⟩) n n] 22)) := (Below.refl _ W).alloc (Nat.le_refl _) _
  have hmi := hMin _ hB0
  have hma := hMax _ hB0
  have hki := hK _ hB0
  have bp := fun a b' W => buildPair a b' W
  have ep := fun a b' c d W => eqPair a b' c d W
  have e1 : (n : Int) - 2 = (m : Int) := by omega
  have HA0 : Hid (RowAt w0 (W.alloc (.cells #[.slice (some ⟨g, 0, none⟩) n n] 22)) W.heap.size g n F) := A0
  have HMN : Hid (m + 2 = n) := hmn
  have HMX : Hid (Try.prog.follows .mixedOrders = true) := by show _ = _; kernel_rfl
  have hbx0 := A0.box
  clear own fits hlow hMin hMax hK A0 hB0 hmn
  go_enter Try.func21, Try.ntmps21
  go_wp2_with fail
  refine hmi.mono ?_
  rintro e w1 ⟨rfl, hw⟩
  subst w1
  go_wp2_with fail
  refine hma.mono ?_
  rintro e w1 ⟨rfl, hw⟩
  subst w1
  go_wp2_with fail
  refine hki.mono ?_
  rintro e w1 ⟨rfl, b1⟩
  have h1 := HA0.out.below b1
  have H1 : Hid (RowAt w0 w1 W.heap.size g n F) := h1
  have b2 : Below w1.heap.size w1 (w1.alloc (.cells #[.int .i64 0, .int .i64 3] 61)) := (Below.refl _ w1).alloc (Nat.le_refl _) _
  have H2 : Hid (RowAt w0 (w1.alloc (.cells #[.int .i64 0, .int .i64 3] 61)) W.heap.size g n F) := h1.below b2
  clear hmi hma hki h1 b1 b2 HA0 hbx0
  go_wp2_with fail
  refine (byP_any m n HMN.out hn w0 _ W.heap.size g hi _ H2.out hhi).mono ?_
  rintro e w3 ⟨rfl, h3⟩
  have H3 : Hid (RowAt w0 w3 W.heap.size g n (Rf.stepP m (F) hi)) := h3
  clear h3
  go_wp2_with fail
  go_end0
  exact ⟨rfl, H3.out.own, H3.out.low⟩

set_option maxRecDepth 100000 in
set_option maxHeartbeats 4000000 in
theorem refill_pp (m n : Nat) (hmn : m + 2 = n) (hn : n ≤ 1000) (w0 W : World) (g : Nat) (F : Nat → ByteArray) (hlow : Below w0.heap.size w0 W) (own : W.ownsRow w0.heap.size 9 1 (.slice (some ⟨g, 0, none⟩) n n) n (textVals n F)) (fits : Fits 1048576 n F)
    (ln : Nat) (b : Option Addr) (capb : Nat) (lo hi : Nat) (_hlo : lo < n) (hhi : hi < n)
    (hMin : ∀ W', Below W.heap.size W W' → Calls Try.prog 37 #[.slice b ln capb] W' fun e w' => e = .returned (.int .i64 (lo : Nat)) ∧ w' = W')
    (hMax : ∀ W', Below W.heap.size W W' → Calls Try.prog 38 #[.slice b ln capb] W' fun e w' => e = .returned (.int .i64 (hi : Nat)) ∧ w' = W')
    (hK : ∀ W', Below W.heap.size W W' → Calls Try.prog 44 #[.slice b ln capb, .int .i64 (m : Nat)] W' fun e w' => e = .returned (.agg #[.int .i64 1, .int .i64 3]) ∧ Below W'.heap.size W' w') :
    Calls Try.prog 21 #[.slice (some ⟨g, 0, none⟩) n n, .slice b ln capb] W fun e W' => e = .returned (.tuple #[]) ∧ W'.ownsRow w0.heap.size 9 1 (.slice (some ⟨g, 0, none⟩) n n) n (textVals n (Rf.stepP m (F) hi)) ∧ Below w0.heap.size w0 W' := by
  have hsz0 := hlow.size
  have A0 : RowAt w0 (W.alloc (.cells #[.slice (some ⟨g, 0, none⟩) n n] 22)) W.heap.size g n F :=
    ⟨hlow.alloc hsz0 _, by rw [World.cell?_alloc_mark]; rfl, own.alloc _, fits⟩
  have hB0 : Below W.heap.size W (W.alloc (.cells #[.slice (some ⟨g, 0, none⟩) n n] 22)) := (Below.refl _ W).alloc (Nat.le_refl _) _
  have hmi := hMin _ hB0
  have hma := hMax _ hB0
  have hki := hK _ hB0
  have bp := fun a b' W => buildPair a b' W
  have ep := fun a b' c d W => eqPair a b' c d W
  have e1 : (n : Int) - 2 = (m : Int) := by omega
  have HA0 : Hid (RowAt w0 (W.alloc (.cells #[.slice (some ⟨g, 0, none⟩) n n] 22)) W.heap.size g n F) := A0
  have HMN : Hid (m + 2 = n) := hmn
  have HMX : Hid (Try.prog.follows .mixedOrders = true) := by show _ = _; kernel_rfl
  have hbx0 := A0.box
  clear own fits hlow hMin hMax hK A0 hB0 hmn
  go_enter Try.func21, Try.ntmps21
  go_wp2_with fail
  refine hmi.mono ?_
  rintro e w1 ⟨rfl, hw⟩
  subst w1
  go_wp2_with fail
  refine hma.mono ?_
  rintro e w1 ⟨rfl, hw⟩
  subst w1
  go_wp2_with fail
  refine hki.mono ?_
  rintro e w1 ⟨rfl, b1⟩
  have h1 := HA0.out.below b1
  have H1 : Hid (RowAt w0 w1 W.heap.size g n F) := h1
  have b2 : Below w1.heap.size w1 (w1.alloc (.cells #[.int .i64 1, .int .i64 3] 61)) := (Below.refl _ w1).alloc (Nat.le_refl _) _
  have H2 : Hid (RowAt w0 (w1.alloc (.cells #[.int .i64 1, .int .i64 3] 61)) W.heap.size g n F) := h1.below b2
  clear hmi hma hki h1 b1 b2 HA0 hbx0
  go_wp2_with fail
  refine (byP_any m n HMN.out hn w0 _ W.heap.size g hi _ H2.out hhi).mono ?_
  rintro e w3 ⟨rfl, h3⟩
  have H3 : Hid (RowAt w0 w3 W.heap.size g n (Rf.stepP m (F) hi)) := h3
  clear h3
  go_wp2_with fail
  go_end0
  exact ⟨rfl, H3.out.own, H3.out.low⟩

set_option maxRecDepth 100000 in
set_option maxHeartbeats 4000000 in
theorem refill_q (m n : Nat) (hmn : m + 2 = n) (hn : n ≤ 1000) (w0 W : World) (g : Nat) (F : Nat → ByteArray) (hlow : Below w0.heap.size w0 W) (own : W.ownsRow w0.heap.size 9 1 (.slice (some ⟨g, 0, none⟩) n n) n (textVals n F)) (fits : Fits 1048576 n F)
    (ln : Nat) (b : Option Addr) (capb : Nat) (lo hi : Nat) (_hlo : lo < n) (hhi : hi < n)
    (hMin : ∀ W', Below W.heap.size W W' → Calls Try.prog 37 #[.slice b ln capb] W' fun e w' => e = .returned (.int .i64 (lo : Nat)) ∧ w' = W')
    (hMax : ∀ W', Below W.heap.size W W' → Calls Try.prog 38 #[.slice b ln capb] W' fun e w' => e = .returned (.int .i64 (hi : Nat)) ∧ w' = W')
    (hK : ∀ W', Below W.heap.size W W' → Calls Try.prog 44 #[.slice b ln capb, .int .i64 (m : Nat)] W' fun e w' => e = .returned (.agg #[.int .i64 2, .int .i64 3]) ∧ Below W'.heap.size W' w') :
    Calls Try.prog 21 #[.slice (some ⟨g, 0, none⟩) n n, .slice b ln capb] W fun e W' => e = .returned (.tuple #[]) ∧ W'.ownsRow w0.heap.size 9 1 (.slice (some ⟨g, 0, none⟩) n n) n (textVals n (Rf.stepR m (F) hi)) ∧ Below w0.heap.size w0 W' := by
  have hsz0 := hlow.size
  have A0 : RowAt w0 (W.alloc (.cells #[.slice (some ⟨g, 0, none⟩) n n] 22)) W.heap.size g n F :=
    ⟨hlow.alloc hsz0 _, by rw [World.cell?_alloc_mark]; rfl, own.alloc _, fits⟩
  have hB0 : Below W.heap.size W (W.alloc (.cells #[.slice (some ⟨g, 0, none⟩) n n] 22)) := (Below.refl _ W).alloc (Nat.le_refl _) _
  have hmi := hMin _ hB0
  have hma := hMax _ hB0
  have hki := hK _ hB0
  have bp := fun a b' W => buildPair a b' W
  have ep := fun a b' c d W => eqPair a b' c d W
  have e1 : (n : Int) - 2 = (m : Int) := by omega
  have HA0 : Hid (RowAt w0 (W.alloc (.cells #[.slice (some ⟨g, 0, none⟩) n n] 22)) W.heap.size g n F) := A0
  have HMN : Hid (m + 2 = n) := hmn
  have HMX : Hid (Try.prog.follows .mixedOrders = true) := by show _ = _; kernel_rfl
  have hbx0 := A0.box
  clear own fits hlow hMin hMax hK A0 hB0 hmn
  go_enter Try.func21, Try.ntmps21
  go_wp2_with fail
  refine hmi.mono ?_
  rintro e w1 ⟨rfl, hw⟩
  subst w1
  go_wp2_with fail
  refine hma.mono ?_
  rintro e w1 ⟨rfl, hw⟩
  subst w1
  go_wp2_with fail
  refine hki.mono ?_
  rintro e w1 ⟨rfl, b1⟩
  have h1 := HA0.out.below b1
  have H1 : Hid (RowAt w0 w1 W.heap.size g n F) := h1
  have b2 : Below w1.heap.size w1 (w1.alloc (.cells #[.int .i64 2, .int .i64 3] 61)) := (Below.refl _ w1).alloc (Nat.le_refl _) _
  have H2 : Hid (RowAt w0 (w1.alloc (.cells #[.int .i64 2, .int .i64 3] 61)) W.heap.size g n F) := h1.below b2
  clear hmi hma hki h1 b1 b2 HA0 hbx0
  go_wp2_with fail
  have hS0 : (fun W' : World => W'.cell? ⟨W.heap.size, 0, none⟩ = some (.slice (some ⟨g, 0, none⟩) n n)) (w1.alloc (.cells #[.int .i64 2, .int .i64 3] 61)).drew := H2.out.drew.box
  have hsl := fun W' => run_slice_to (some ⟨g, 0, none⟩) n n m (by have := HMN.out; omega) W'
  have hC := Q_any m (F) (by omega) (H2.out.fits.mono (by have := HMN.out; omega)) (some ⟨g, 0, none⟩) n (w1.alloc (.cells #[.int .i64 2, .int .i64 3] 61)).drew (H2.out.drew.row.mono (by have := HMN.out; omega) fun _ _ => rfl)
  have hTS : (Gfm.addF m (Gfm.qT (F))).size ≤ 1048576 := ((H2.out.fits.mono (by have := HMN.out; omega)).qT).add
  obtain ⟨tx, htx⟩ : ∃ tx, Gfm.addF m (Gfm.qT (F)) = tx := ⟨_, rfl⟩
  have HTX : Hid (Gfm.addF m (Gfm.qT (F)) = tx) := htx
  rw [htx] at hC hTS
  have hxi : (hi : Int) < (n : Int) := by omega
  clear htx
  refine wp_region_held (S := fun W' => W'.cell? ⟨W.heap.size, 0, none⟩ = some (.slice (some ⟨g, 0, none⟩) n n)) HMX.out ?_
  change wpAnyH _ _ _ _ _ _ _ _ (w1.alloc (.cells #[.int .i64 2, .int .i64 3] 61)).drew
  refine held_quiet 0 (v := ?v0) rfl (by kernel_rfl) (fun _ _ _ h => h) (by assumption) rfl ?hy0 ?rest0
  case hy0 => (intro wS hSw; (try dsimp only at hSw); go_simp; try with_reducible rfl)
  try simp only [Act.put, List.setIfInBounds_toArray, List.set_cons_zero, List.set_cons_succ]
  refine held_quiet 1 (v := ?v1) rfl (by kernel_rfl) (fun _ _ _ h => h) (by assumption) rfl ?hy1 ?rest1
  case hy1 => (intro wS hSw; (try dsimp only at hSw); go_simp; try with_reducible rfl)
  try simp only [Act.put, List.setIfInBounds_toArray, List.set_cons_zero, List.set_cons_succ]
  refine held_quiet 2 (v := ?v2) rfl (by kernel_rfl) (fun _ _ _ h => h) (by assumption) rfl ?hy2 ?rest2
  case hy2 => (intro wS hSw; (try dsimp only at hSw); go_simp; try with_reducible rfl)
  try simp only [Act.put, List.setIfInBounds_toArray, List.set_cons_zero, List.set_cons_succ]
  refine held_quiet 3 (v := ?v3) rfl (by kernel_rfl) (fun _ _ _ h => h) (by assumption) rfl ?hy3 ?rest3
  case hy3 => (intro wS hSw; (try dsimp only at hSw); go_simp; try with_reducible rfl)
  try simp only [Act.put, List.setIfInBounds_toArray, List.set_cons_zero, List.set_cons_succ]
  refine held_quiet 4 (v := ?v4) rfl (by kernel_rfl) (fun _ _ _ h => h) (by assumption) rfl ?hy4 ?rest4
  case hy4 => (intro wS hSw; (try dsimp only at hSw); go_simp; try with_reducible rfl)
  try simp only [Act.put, List.setIfInBounds_toArray, List.set_cons_zero, List.set_cons_succ]
  refine held_one 5 rfl (by kernel_rfl) ?_
  go_wp2_with fail
  refine hC.mono ?_
  rintro e w3 ⟨rfl, b3⟩
  have h3 := H2.out.drew.below b3
  have I3 : Hid (RowAt w0 w3 W.heap.size g n (F)) := h3
  have hS3 : (fun W' : World => W'.cell? ⟨W.heap.size, 0, none⟩ = some (.slice (some ⟨g, 0, none⟩) n n)) w3 := h3.box
  have hc3 := h3.cell hhi
  have hf3 := h3.frozen hi
  clear hC h3 b3
  go_wp2
  try refine ⟨hS3, ?_⟩
  refine held_quiet 6 (v := ?v6) rfl (by kernel_rfl) (fun _ _ _ h => h) (by assumption) rfl ?hy6 ?rest6
  case hy6 => (intro wS hSw; (try dsimp only at hSw); go_simp; try with_reducible rfl)
  try simp only [Act.put, List.setIfInBounds_toArray, List.set_cons_zero, List.set_cons_succ]
  refine held_one 7 rfl (by kernel_rfl) ?_
  go_wp2
  have J3 := I3.out.set hhi tx hTS
  have K3 : (fun W' : World => W'.cell? ⟨W.heap.size, 0, none⟩ = some (.slice (some ⟨g, 0, none⟩) n n)) (w3.setCell ⟨g, hi, none⟩ (.string tx)) := J3.box
  try refine ⟨K3, ?_⟩
  refine held_done (by kernel_rfl) ?_
  have L3 : Hid (RowAt w0 (w3.setCell ⟨g, hi, none⟩ (.string tx)) W.heap.size g n (Gfm.upd (F) hi (Gfm.addF m (Gfm.qT (F))))) := by
    show RowAt _ _ _ _ _ _; rw [HTX.out]; exact J3
  clear J3 hc3 hf3 hTS
  go_wp2_with fail
  go_end0
  exact ⟨rfl, L3.out.own, L3.out.low⟩

set_option maxRecDepth 100000 in
set_option maxHeartbeats 4000000 in
theorem refill_dp (m n : Nat) (hmn : m + 2 = n) (hn : n ≤ 1000) (w0 W : World) (g : Nat) (F : Nat → ByteArray) (hlow : Below w0.heap.size w0 W) (own : W.ownsRow w0.heap.size 9 1 (.slice (some ⟨g, 0, none⟩) n n) n (textVals n F)) (fits : Fits 1048576 n F)
    (ln : Nat) (b : Option Addr) (capb : Nat) (lo hi : Nat) (hlo : lo < n) (hhi : hi < n)
    (hMin : ∀ W', Below W.heap.size W W' → Calls Try.prog 37 #[.slice b ln capb] W' fun e w' => e = .returned (.int .i64 (lo : Nat)) ∧ w' = W')
    (hMax : ∀ W', Below W.heap.size W W' → Calls Try.prog 38 #[.slice b ln capb] W' fun e w' => e = .returned (.int .i64 (hi : Nat)) ∧ w' = W')
    (hK : ∀ W', Below W.heap.size W W' → Calls Try.prog 44 #[.slice b ln capb, .int .i64 (m : Nat)] W' fun e w' => e = .returned (.agg #[.int .i64 0, .int .i64 1]) ∧ Below W'.heap.size W' w') :
    Calls Try.prog 21 #[.slice (some ⟨g, 0, none⟩) n n, .slice b ln capb] W fun e W' => e = .returned (.tuple #[]) ∧ W'.ownsRow w0.heap.size 9 1 (.slice (some ⟨g, 0, none⟩) n n) n (textVals n (Rf.stepP m (Rf.stepQ m (F) lo) hi)) ∧ Below w0.heap.size w0 W' := by
  have hsz0 := hlow.size
  have A0 : RowAt w0 (W.alloc (.cells #[.slice (some ⟨g, 0, none⟩) n n] 22)) W.heap.size g n F :=
    ⟨hlow.alloc hsz0 _, by rw [World.cell?_alloc_mark]; rfl, own.alloc _, fits⟩
  have hB0 : Below W.heap.size W (W.alloc (.cells #[.slice (some ⟨g, 0, none⟩) n n] 22)) := (Below.refl _ W).alloc (Nat.le_refl _) _
  have hmi := hMin _ hB0
  have hma := hMax _ hB0
  have hki := hK _ hB0
  have bp := fun a b' W => buildPair a b' W
  have ep := fun a b' c d W => eqPair a b' c d W
  have e1 : (n : Int) - 2 = (m : Int) := by omega
  have HA0 : Hid (RowAt w0 (W.alloc (.cells #[.slice (some ⟨g, 0, none⟩) n n] 22)) W.heap.size g n F) := A0
  have HMN : Hid (m + 2 = n) := hmn
  have HMX : Hid (Try.prog.follows .mixedOrders = true) := by show _ = _; kernel_rfl
  have hbx0 := A0.box
  clear own fits hlow hMin hMax hK A0 hB0 hmn
  go_enter Try.func21, Try.ntmps21
  go_wp2_with fail
  refine hmi.mono ?_
  rintro e w1 ⟨rfl, hw⟩
  subst w1
  go_wp2_with fail
  refine hma.mono ?_
  rintro e w1 ⟨rfl, hw⟩
  subst w1
  go_wp2_with fail
  refine hki.mono ?_
  rintro e w1 ⟨rfl, b1⟩
  have h1 := HA0.out.below b1
  have H1 : Hid (RowAt w0 w1 W.heap.size g n F) := h1
  have b2 : Below w1.heap.size w1 (w1.alloc (.cells #[.int .i64 0, .int .i64 1] 61)) := (Below.refl _ w1).alloc (Nat.le_refl _) _
  have H2 : Hid (RowAt w0 (w1.alloc (.cells #[.int .i64 0, .int .i64 1] 61)) W.heap.size g n F) := h1.below b2
  clear hmi hma hki h1 b1 b2 HA0 hbx0
  go_wp2_with fail
  refine (byQ_any m n HMN.out hn w0 _ W.heap.size g lo _ H2.out hlo).mono ?_
  rintro e w3 ⟨rfl, h3⟩
  have H3 : Hid (RowAt w0 w3 W.heap.size g n (Rf.stepQ m (F) lo)) := h3
  clear h3
  go_wp2_with fail
  refine (byP_any m n HMN.out hn w0 _ W.heap.size g hi _ H3.out hhi).mono ?_
  rintro e w4 ⟨rfl, h4⟩
  have H4 : Hid (RowAt w0 w4 W.heap.size g n (Rf.stepP m (Rf.stepQ m (F) lo) hi)) := h4
  clear h4
  go_wp2_with fail
  go_end0
  exact ⟨rfl, H4.out.own, H4.out.low⟩

set_option maxRecDepth 100000 in
set_option maxHeartbeats 4000000 in
theorem refill_dq (m n : Nat) (hmn : m + 2 = n) (hn : n ≤ 1000) (w0 W : World) (g : Nat) (F : Nat → ByteArray) (hlow : Below w0.heap.size w0 W) (own : W.ownsRow w0.heap.size 9 1 (.slice (some ⟨g, 0, none⟩) n n) n (textVals n F)) (fits : Fits 1048576 n F)
    (ln : Nat) (b : Option Addr) (capb : Nat) (lo hi : Nat) (hlo : lo < n) (hhi : hi < n)
    (hMin : ∀ W', Below W.heap.size W W' → Calls Try.prog 37 #[.slice b ln capb] W' fun e w' => e = .returned (.int .i64 (lo : Nat)) ∧ w' = W')
    (hMax : ∀ W', Below W.heap.size W W' → Calls Try.prog 38 #[.slice b ln capb] W' fun e w' => e = .returned (.int .i64 (hi : Nat)) ∧ w' = W')
    (hK : ∀ W', Below W.heap.size W W' → Calls Try.prog 44 #[.slice b ln capb, .int .i64 (m : Nat)] W' fun e w' => e = .returned (.agg #[.int .i64 0, .int .i64 2]) ∧ Below W'.heap.size W' w') :
    Calls Try.prog 21 #[.slice (some ⟨g, 0, none⟩) n n, .slice b ln capb] W fun e W' => e = .returned (.tuple #[]) ∧ W'.ownsRow w0.heap.size 9 1 (.slice (some ⟨g, 0, none⟩) n n) n (textVals n (Rf.stepR m (Rf.stepP m (F) lo) hi)) ∧ Below w0.heap.size w0 W' := by
  have hsz0 := hlow.size
  have A0 : RowAt w0 (W.alloc (.cells #[.slice (some ⟨g, 0, none⟩) n n] 22)) W.heap.size g n F :=
    ⟨hlow.alloc hsz0 _, by rw [World.cell?_alloc_mark]; rfl, own.alloc _, fits⟩
  have hB0 : Below W.heap.size W (W.alloc (.cells #[.slice (some ⟨g, 0, none⟩) n n] 22)) := (Below.refl _ W).alloc (Nat.le_refl _) _
  have hmi := hMin _ hB0
  have hma := hMax _ hB0
  have hki := hK _ hB0
  have bp := fun a b' W => buildPair a b' W
  have ep := fun a b' c d W => eqPair a b' c d W
  have e1 : (n : Int) - 2 = (m : Int) := by omega
  have HA0 : Hid (RowAt w0 (W.alloc (.cells #[.slice (some ⟨g, 0, none⟩) n n] 22)) W.heap.size g n F) := A0
  have HMN : Hid (m + 2 = n) := hmn
  have HMX : Hid (Try.prog.follows .mixedOrders = true) := by show _ = _; kernel_rfl
  have hbx0 := A0.box
  clear own fits hlow hMin hMax hK A0 hB0 hmn
  go_enter Try.func21, Try.ntmps21
  go_wp2_with fail
  refine hmi.mono ?_
  rintro e w1 ⟨rfl, hw⟩
  subst w1
  go_wp2_with fail
  refine hma.mono ?_
  rintro e w1 ⟨rfl, hw⟩
  subst w1
  go_wp2_with fail
  refine hki.mono ?_
  rintro e w1 ⟨rfl, b1⟩
  have h1 := HA0.out.below b1
  have H1 : Hid (RowAt w0 w1 W.heap.size g n F) := h1
  have b2 : Below w1.heap.size w1 (w1.alloc (.cells #[.int .i64 0, .int .i64 2] 61)) := (Below.refl _ w1).alloc (Nat.le_refl _) _
  have H2 : Hid (RowAt w0 (w1.alloc (.cells #[.int .i64 0, .int .i64 2] 61)) W.heap.size g n F) := h1.below b2
  clear hmi hma hki h1 b1 b2 HA0 hbx0
  go_wp2_with fail
  refine (byP_any m n HMN.out hn w0 _ W.heap.size g lo _ H2.out hlo).mono ?_
  rintro e w3 ⟨rfl, h3⟩
  have H3 : Hid (RowAt w0 w3 W.heap.size g n (Rf.stepP m (F) lo)) := h3
  clear h3
  go_wp2_with fail
  have hS0 : (fun W' : World => W'.cell? ⟨W.heap.size, 0, none⟩ = some (.slice (some ⟨g, 0, none⟩) n n)) (w3).drew := H3.out.drew.box
  have hsl := fun W' => run_slice_to (some ⟨g, 0, none⟩) n n m (by have := HMN.out; omega) W'
  have hC := Q_any m (Rf.stepP m (F) lo) (by omega) (H3.out.fits.mono (by have := HMN.out; omega)) (some ⟨g, 0, none⟩) n (w3).drew (H3.out.drew.row.mono (by have := HMN.out; omega) fun _ _ => rfl)
  have hTS : (Gfm.addF m (Gfm.qT (Rf.stepP m (F) lo))).size ≤ 1048576 := ((H3.out.fits.mono (by have := HMN.out; omega)).qT).add
  obtain ⟨tx, htx⟩ : ∃ tx, Gfm.addF m (Gfm.qT (Rf.stepP m (F) lo)) = tx := ⟨_, rfl⟩
  have HTX : Hid (Gfm.addF m (Gfm.qT (Rf.stepP m (F) lo)) = tx) := htx
  rw [htx] at hC hTS
  have hxi : (hi : Int) < (n : Int) := by omega
  clear htx
  refine wp_region_held (S := fun W' => W'.cell? ⟨W.heap.size, 0, none⟩ = some (.slice (some ⟨g, 0, none⟩) n n)) HMX.out ?_
  change wpAnyH _ _ _ _ _ _ _ _ (w3).drew
  refine held_quiet 0 (v := ?v0) rfl (by kernel_rfl) (fun _ _ _ h => h) (by assumption) rfl ?hy0 ?rest0
  case hy0 => (intro wS hSw; (try dsimp only at hSw); go_simp; try with_reducible rfl)
  try simp only [Act.put, List.setIfInBounds_toArray, List.set_cons_zero, List.set_cons_succ]
  refine held_quiet 1 (v := ?v1) rfl (by kernel_rfl) (fun _ _ _ h => h) (by assumption) rfl ?hy1 ?rest1
  case hy1 => (intro wS hSw; (try dsimp only at hSw); go_simp; try with_reducible rfl)
  try simp only [Act.put, List.setIfInBounds_toArray, List.set_cons_zero, List.set_cons_succ]
  refine held_quiet 2 (v := ?v2) rfl (by kernel_rfl) (fun _ _ _ h => h) (by assumption) rfl ?hy2 ?rest2
  case hy2 => (intro wS hSw; (try dsimp only at hSw); go_simp; try with_reducible rfl)
  try simp only [Act.put, List.setIfInBounds_toArray, List.set_cons_zero, List.set_cons_succ]
  refine held_quiet 3 (v := ?v3) rfl (by kernel_rfl) (fun _ _ _ h => h) (by assumption) rfl ?hy3 ?rest3
  case hy3 => (intro wS hSw; (try dsimp only at hSw); go_simp; try with_reducible rfl)
  try simp only [Act.put, List.setIfInBounds_toArray, List.set_cons_zero, List.set_cons_succ]
  refine held_quiet 4 (v := ?v4) rfl (by kernel_rfl) (fun _ _ _ h => h) (by assumption) rfl ?hy4 ?rest4
  case hy4 => (intro wS hSw; (try dsimp only at hSw); go_simp; try with_reducible rfl)
  try simp only [Act.put, List.setIfInBounds_toArray, List.set_cons_zero, List.set_cons_succ]
  refine held_one 5 rfl (by kernel_rfl) ?_
  go_wp2_with fail
  refine hC.mono ?_
  rintro e w4 ⟨rfl, b4⟩
  have h4 := H3.out.drew.below b4
  have I4 : Hid (RowAt w0 w4 W.heap.size g n (Rf.stepP m (F) lo)) := h4
  have hS4 : (fun W' : World => W'.cell? ⟨W.heap.size, 0, none⟩ = some (.slice (some ⟨g, 0, none⟩) n n)) w4 := h4.box
  have hc4 := h4.cell hhi
  have hf4 := h4.frozen hi
  clear hC h4 b4
  go_wp2
  try refine ⟨hS4, ?_⟩
  refine held_quiet 6 (v := ?v6) rfl (by kernel_rfl) (fun _ _ _ h => h) (by assumption) rfl ?hy6 ?rest6
  case hy6 => (intro wS hSw; (try dsimp only at hSw); go_simp; try with_reducible rfl)
  try simp only [Act.put, List.setIfInBounds_toArray, List.set_cons_zero, List.set_cons_succ]
  refine held_one 7 rfl (by kernel_rfl) ?_
  go_wp2
  have J4 := I4.out.set hhi tx hTS
  have K4 : (fun W' : World => W'.cell? ⟨W.heap.size, 0, none⟩ = some (.slice (some ⟨g, 0, none⟩) n n)) (w4.setCell ⟨g, hi, none⟩ (.string tx)) := J4.box
  try refine ⟨K4, ?_⟩
  refine held_done (by kernel_rfl) ?_
  have L4 : Hid (RowAt w0 (w4.setCell ⟨g, hi, none⟩ (.string tx)) W.heap.size g n (Gfm.upd (Rf.stepP m (F) lo) hi (Gfm.addF m (Gfm.qT (Rf.stepP m (F) lo))))) := by
    show RowAt _ _ _ _ _ _; rw [HTX.out]; exact J4
  clear J4 hc4 hf4 hTS
  go_wp2_with fail
  go_end0
  exact ⟨rfl, L4.out.own, L4.out.low⟩

set_option maxRecDepth 100000 in
set_option maxHeartbeats 4000000 in
theorem refill_pq (m n : Nat) (hmn : m + 2 = n) (hn : n ≤ 1000) (w0 W : World) (g : Nat) (F : Nat → ByteArray) (hlow : Below w0.heap.size w0 W) (own : W.ownsRow w0.heap.size 9 1 (.slice (some ⟨g, 0, none⟩) n n) n (textVals n F)) (fits : Fits 1048576 n F)
    (ln : Nat) (b : Option Addr) (capb : Nat) (lo hi : Nat) (hlo : lo < n) (hhi : hi < n)
    (hMin : ∀ W', Below W.heap.size W W' → Calls Try.prog 37 #[.slice b ln capb] W' fun e w' => e = .returned (.int .i64 (lo : Nat)) ∧ w' = W')
    (hMax : ∀ W', Below W.heap.size W W' → Calls Try.prog 38 #[.slice b ln capb] W' fun e w' => e = .returned (.int .i64 (hi : Nat)) ∧ w' = W')
    (hK : ∀ W', Below W.heap.size W W' → Calls Try.prog 44 #[.slice b ln capb, .int .i64 (m : Nat)] W' fun e w' => e = .returned (.agg #[.int .i64 1, .int .i64 2]) ∧ Below W'.heap.size W' w') :
    Calls Try.prog 21 #[.slice (some ⟨g, 0, none⟩) n n, .slice b ln capb] W fun e W' => e = .returned (.tuple #[]) ∧ W'.ownsRow w0.heap.size 9 1 (.slice (some ⟨g, 0, none⟩) n n) n (textVals n (Rf.stepR m (Rf.stepP m (F) lo) hi)) ∧ Below w0.heap.size w0 W' := by
  have hsz0 := hlow.size
  have A0 : RowAt w0 (W.alloc (.cells #[.slice (some ⟨g, 0, none⟩) n n] 22)) W.heap.size g n F :=
    ⟨hlow.alloc hsz0 _, by rw [World.cell?_alloc_mark]; rfl, own.alloc _, fits⟩
  have hB0 : Below W.heap.size W (W.alloc (.cells #[.slice (some ⟨g, 0, none⟩) n n] 22)) := (Below.refl _ W).alloc (Nat.le_refl _) _
  have hmi := hMin _ hB0
  have hma := hMax _ hB0
  have hki := hK _ hB0
  have bp := fun a b' W => buildPair a b' W
  have ep := fun a b' c d W => eqPair a b' c d W
  have e1 : (n : Int) - 2 = (m : Int) := by omega
  have HA0 : Hid (RowAt w0 (W.alloc (.cells #[.slice (some ⟨g, 0, none⟩) n n] 22)) W.heap.size g n F) := A0
  have HMN : Hid (m + 2 = n) := hmn
  have HMX : Hid (Try.prog.follows .mixedOrders = true) := by show _ = _; kernel_rfl
  have hbx0 := A0.box
  clear own fits hlow hMin hMax hK A0 hB0 hmn
  go_enter Try.func21, Try.ntmps21
  go_wp2_with fail
  refine hmi.mono ?_
  rintro e w1 ⟨rfl, hw⟩
  subst w1
  go_wp2_with fail
  refine hma.mono ?_
  rintro e w1 ⟨rfl, hw⟩
  subst w1
  go_wp2_with fail
  refine hki.mono ?_
  rintro e w1 ⟨rfl, b1⟩
  have h1 := HA0.out.below b1
  have H1 : Hid (RowAt w0 w1 W.heap.size g n F) := h1
  have b2 : Below w1.heap.size w1 (w1.alloc (.cells #[.int .i64 1, .int .i64 2] 61)) := (Below.refl _ w1).alloc (Nat.le_refl _) _
  have H2 : Hid (RowAt w0 (w1.alloc (.cells #[.int .i64 1, .int .i64 2] 61)) W.heap.size g n F) := h1.below b2
  clear hmi hma hki h1 b1 b2 HA0 hbx0
  go_wp2_with fail
  refine (byP_any m n HMN.out hn w0 _ W.heap.size g lo _ H2.out hlo).mono ?_
  rintro e w3 ⟨rfl, h3⟩
  have H3 : Hid (RowAt w0 w3 W.heap.size g n (Rf.stepP m (F) lo)) := h3
  clear h3
  go_wp2_with fail
  have hS0 : (fun W' : World => W'.cell? ⟨W.heap.size, 0, none⟩ = some (.slice (some ⟨g, 0, none⟩) n n)) (w3).drew := H3.out.drew.box
  have hsl := fun W' => run_slice_to (some ⟨g, 0, none⟩) n n m (by have := HMN.out; omega) W'
  have hC := Q_any m (Rf.stepP m (F) lo) (by omega) (H3.out.fits.mono (by have := HMN.out; omega)) (some ⟨g, 0, none⟩) n (w3).drew (H3.out.drew.row.mono (by have := HMN.out; omega) fun _ _ => rfl)
  have hTS : (Gfm.addF m (Gfm.qT (Rf.stepP m (F) lo))).size ≤ 1048576 := ((H3.out.fits.mono (by have := HMN.out; omega)).qT).add
  obtain ⟨tx, htx⟩ : ∃ tx, Gfm.addF m (Gfm.qT (Rf.stepP m (F) lo)) = tx := ⟨_, rfl⟩
  have HTX : Hid (Gfm.addF m (Gfm.qT (Rf.stepP m (F) lo)) = tx) := htx
  rw [htx] at hC hTS
  have hxi : (hi : Int) < (n : Int) := by omega
  clear htx
  refine wp_region_held (S := fun W' => W'.cell? ⟨W.heap.size, 0, none⟩ = some (.slice (some ⟨g, 0, none⟩) n n)) HMX.out ?_
  change wpAnyH _ _ _ _ _ _ _ _ (w3).drew
  refine held_quiet 0 (v := ?v0) rfl (by kernel_rfl) (fun _ _ _ h => h) (by assumption) rfl ?hy0 ?rest0
  case hy0 => (intro wS hSw; (try dsimp only at hSw); go_simp; try with_reducible rfl)
  try simp only [Act.put, List.setIfInBounds_toArray, List.set_cons_zero, List.set_cons_succ]
  refine held_quiet 1 (v := ?v1) rfl (by kernel_rfl) (fun _ _ _ h => h) (by assumption) rfl ?hy1 ?rest1
  case hy1 => (intro wS hSw; (try dsimp only at hSw); go_simp; try with_reducible rfl)
  try simp only [Act.put, List.setIfInBounds_toArray, List.set_cons_zero, List.set_cons_succ]
  refine held_quiet 2 (v := ?v2) rfl (by kernel_rfl) (fun _ _ _ h => h) (by assumption) rfl ?hy2 ?rest2
  case hy2 => (intro wS hSw; (try dsimp only at hSw); go_simp; try with_reducible rfl)
  try simp only [Act.put, List.setIfInBounds_toArray, List.set_cons_zero, List.set_cons_succ]
  refine held_quiet 3 (v := ?v3) rfl (by kernel_rfl) (fun _ _ _ h => h) (by assumption) rfl ?hy3 ?rest3
  case hy3 => (intro wS hSw; (try dsimp only at hSw); go_simp; try with_reducible rfl)
  try simp only [Act.put, List.setIfInBounds_toArray, List.set_cons_zero, List.set_cons_succ]
  refine held_quiet 4 (v := ?v4) rfl (by kernel_rfl) (fun _ _ _ h => h) (by assumption) rfl ?hy4 ?rest4
  case hy4 => (intro wS hSw; (try dsimp only at hSw); go_simp; try with_reducible rfl)
  try simp only [Act.put, List.setIfInBounds_toArray, List.set_cons_zero, List.set_cons_succ]
  refine held_one 5 rfl (by kernel_rfl) ?_
  go_wp2_with fail
  refine hC.mono ?_
  rintro e w4 ⟨rfl, b4⟩
  have h4 := H3.out.drew.below b4
  have I4 : Hid (RowAt w0 w4 W.heap.size g n (Rf.stepP m (F) lo)) := h4
  have hS4 : (fun W' : World => W'.cell? ⟨W.heap.size, 0, none⟩ = some (.slice (some ⟨g, 0, none⟩) n n)) w4 := h4.box
  have hc4 := h4.cell hhi
  have hf4 := h4.frozen hi
  clear hC h4 b4
  go_wp2
  try refine ⟨hS4, ?_⟩
  refine held_quiet 6 (v := ?v6) rfl (by kernel_rfl) (fun _ _ _ h => h) (by assumption) rfl ?hy6 ?rest6
  case hy6 => (intro wS hSw; (try dsimp only at hSw); go_simp; try with_reducible rfl)
  try simp only [Act.put, List.setIfInBounds_toArray, List.set_cons_zero, List.set_cons_succ]
  refine held_one 7 rfl (by kernel_rfl) ?_
  go_wp2
  have J4 := I4.out.set hhi tx hTS
  have K4 : (fun W' : World => W'.cell? ⟨W.heap.size, 0, none⟩ = some (.slice (some ⟨g, 0, none⟩) n n)) (w4.setCell ⟨g, hi, none⟩ (.string tx)) := J4.box
  try refine ⟨K4, ?_⟩
  refine held_done (by kernel_rfl) ?_
  have L4 : Hid (RowAt w0 (w4.setCell ⟨g, hi, none⟩ (.string tx)) W.heap.size g n (Gfm.upd (Rf.stepP m (F) lo) hi (Gfm.addF m (Gfm.qT (Rf.stepP m (F) lo))))) := by
    show RowAt _ _ _ _ _ _; rw [HTX.out]; exact J4
  clear J4 hc4 hf4 hTS
  go_wp2_with fail
  go_end0
  exact ⟨rfl, L4.out.own, L4.out.low⟩

set_option maxRecDepth 100000 in
set_option maxHeartbeats 4000000 in
theorem refill_dd (m n : Nat) (hmn : m + 2 = n) (hn : n ≤ 1000) (w0 W : World) (g : Nat) (F : Nat → ByteArray) (hlow : Below w0.heap.size w0 W) (own : W.ownsRow w0.heap.size 9 1 (.slice (some ⟨g, 0, none⟩) n n) n (textVals n F)) (fits : Fits 1048576 n F)
    (ln : Nat) (b : Option Addr) (capb : Nat) (lo hi : Nat) (hlo : lo < n) (hhi : hi < n)
    (hMin : ∀ W', Below W.heap.size W W' → Calls Try.prog 37 #[.slice b ln capb] W' fun e w' => e = .returned (.int .i64 (lo : Nat)) ∧ w' = W')
    (hMax : ∀ W', Below W.heap.size W W' → Calls Try.prog 38 #[.slice b ln capb] W' fun e w' => e = .returned (.int .i64 (hi : Nat)) ∧ w' = W')
    (hK : ∀ W', Below W.heap.size W W' → Calls Try.prog 44 #[.slice b ln capb, .int .i64 (m : Nat)] W' fun e w' => e = .returned (.agg #[.int .i64 0, .int .i64 0]) ∧ Below W'.heap.size W' w') :
    Calls Try.prog 21 #[.slice (some ⟨g, 0, none⟩) n n, .slice b ln capb] W fun e W' => e = .returned (.tuple #[]) ∧ W'.ownsRow w0.heap.size 9 1 (.slice (some ⟨g, 0, none⟩) n n) n (textVals n (Rf.stepP m (Rf.stepA m (F) lo hi) hi)) ∧ Below w0.heap.size w0 W' := by
  have hsz0 := hlow.size
  have A0 : RowAt w0 (W.alloc (.cells #[.slice (some ⟨g, 0, none⟩) n n] 22)) W.heap.size g n F :=
    ⟨hlow.alloc hsz0 _, by rw [World.cell?_alloc_mark]; rfl, own.alloc _, fits⟩
  have hB0 : Below W.heap.size W (W.alloc (.cells #[.slice (some ⟨g, 0, none⟩) n n] 22)) := (Below.refl _ W).alloc (Nat.le_refl _) _
  have hmi := hMin _ hB0
  have hma := hMax _ hB0
  have hki := hK _ hB0
  have bp := fun a b' W => buildPair a b' W
  have ep := fun a b' c d W => eqPair a b' c d W
  have e1 : (n : Int) - 2 = (m : Int) := by omega
  have HA0 : Hid (RowAt w0 (W.alloc (.cells #[.slice (some ⟨g, 0, none⟩) n n] 22)) W.heap.size g n F) := A0
  have HMN : Hid (m + 2 = n) := hmn
  have HMX : Hid (Try.prog.follows .mixedOrders = true) := by show _ = _; kernel_rfl
  have hbx0 := A0.box
  clear own fits hlow hMin hMax hK A0 hB0 hmn
  go_enter Try.func21, Try.ntmps21
  go_wp2_with fail
  refine hmi.mono ?_
  rintro e w1 ⟨rfl, hw⟩
  subst w1
  go_wp2_with fail
  refine hma.mono ?_
  rintro e w1 ⟨rfl, hw⟩
  subst w1
  go_wp2_with fail
  refine hki.mono ?_
  rintro e w1 ⟨rfl, b1⟩
  have h1 := HA0.out.below b1
  have H1 : Hid (RowAt w0 w1 W.heap.size g n F) := h1
  have b2 : Below w1.heap.size w1 (w1.alloc (.cells #[.int .i64 0, .int .i64 0] 61)) := (Below.refl _ w1).alloc (Nat.le_refl _) _
  have H2 : Hid (RowAt w0 (w1.alloc (.cells #[.int .i64 0, .int .i64 0] 61)) W.heap.size g n F) := h1.below b2
  clear hmi hma hki h1 b1 b2 HA0 hbx0
  go_wp2_with fail
  have hS0 : (fun W' : World => W'.cell? ⟨W.heap.size, 0, none⟩ = some (.slice (some ⟨g, 0, none⟩) n n)) (w1.alloc (.cells #[.int .i64 0, .int .i64 0] 61)).drew := H2.out.drew.box
  have hC := apart_any m n HMN.out hn w0 _ W.heap.size g lo hi F H2.out.drew
  have hTS : (Rf.apartF m F lo hi).size ≤ 1048576 := apart_size (by rw [HMN.out]; exact H2.out.fits) lo hi
  obtain ⟨tx, htx⟩ : ∃ tx, Rf.apartF m F lo hi = tx := ⟨_, rfl⟩
  have HTX : Hid (Rf.apartF m F lo hi = tx) := htx
  rw [htx] at hC hTS
  have hxi : (lo : Int) < (n : Int) := by omega
  clear htx
  refine wp_region_held (S := fun W' => W'.cell? ⟨W.heap.size, 0, none⟩ = some (.slice (some ⟨g, 0, none⟩) n n)) HMX.out ?_
  change wpAnyH _ _ _ _ _ _ _ _ (w1.alloc (.cells #[.int .i64 0, .int .i64 0] 61)).drew
  refine held_quiet 0 (v := ?v0) rfl (by kernel_rfl) (fun _ _ _ h => h) (by assumption) rfl ?hy0 ?rest0
  case hy0 => (intro wS hSw; (try dsimp only at hSw); go_simp; try with_reducible rfl)
  try simp only [Act.put, List.setIfInBounds_toArray, List.set_cons_zero, List.set_cons_succ]
  refine held_quiet 1 (v := ?v1) rfl (by kernel_rfl) (fun _ _ _ h => h) (by assumption) rfl ?hy1 ?rest1
  case hy1 => (intro wS hSw; (try dsimp only at hSw); go_simp; try with_reducible rfl)
  try simp only [Act.put, List.setIfInBounds_toArray, List.set_cons_zero, List.set_cons_succ]
  refine held_quiet 2 (v := ?v2) rfl (by kernel_rfl) (fun _ _ _ h => h) (by assumption) rfl ?hy2 ?rest2
  case hy2 => (intro wS hSw; (try dsimp only at hSw); go_simp; try with_reducible rfl)
  try simp only [Act.put, List.setIfInBounds_toArray, List.set_cons_zero, List.set_cons_succ]
  refine held_quiet 3 (v := ?v3) rfl (by kernel_rfl) (fun _ _ _ h => h) (by assumption) rfl ?hy3 ?rest3
  case hy3 => (intro wS hSw; (try dsimp only at hSw); go_simp; try with_reducible rfl)
  try simp only [Act.put, List.setIfInBounds_toArray, List.set_cons_zero, List.set_cons_succ]
  refine held_quiet 4 (v := ?v4) rfl (by kernel_rfl) (fun _ _ _ h => h) (by assumption) rfl ?hy4 ?rest4
  case hy4 => (intro wS hSw; (try dsimp only at hSw); go_simp; try with_reducible rfl)
  try simp only [Act.put, List.setIfInBounds_toArray, List.set_cons_zero, List.set_cons_succ]
  refine held_one 5 rfl (by kernel_rfl) ?_
  go_wp2_with fail
  refine hC.mono ?_
  rintro e w3 ⟨rfl, b3⟩
  have h3 := H2.out.drew.below b3
  have I3 : Hid (RowAt w0 w3 W.heap.size g n (F)) := h3
  have hS3 : (fun W' : World => W'.cell? ⟨W.heap.size, 0, none⟩ = some (.slice (some ⟨g, 0, none⟩) n n)) w3 := h3.box
  have hc3 := h3.cell hlo
  have hf3 := h3.frozen lo
  clear hC h3 b3
  go_wp2
  try refine ⟨hS3, ?_⟩
  refine held_quiet 6 (v := ?v6) rfl (by kernel_rfl) (fun _ _ _ h => h) (by assumption) rfl ?hy6 ?rest6
  case hy6 => (intro wS hSw; (try dsimp only at hSw); go_simp; try with_reducible rfl)
  try simp only [Act.put, List.setIfInBounds_toArray, List.set_cons_zero, List.set_cons_succ]
  refine held_one 7 rfl (by kernel_rfl) ?_
  go_wp2
  have J3 := I3.out.set hlo tx hTS
  have K3 : (fun W' : World => W'.cell? ⟨W.heap.size, 0, none⟩ = some (.slice (some ⟨g, 0, none⟩) n n)) (w3.setCell ⟨g, lo, none⟩ (.string tx)) := J3.box
  try refine ⟨K3, ?_⟩
  refine held_done (by kernel_rfl) ?_
  have L3 : Hid (RowAt w0 (w3.setCell ⟨g, lo, none⟩ (.string tx)) W.heap.size g n (Gfm.upd (F) lo (Rf.apartF m F lo hi))) := by
    show RowAt _ _ _ _ _ _; rw [HTX.out]; exact J3
  clear J3 hc3 hf3 hTS
  go_wp2_with fail
  have L3' : Hid (RowAt w0 (w3.setCell ⟨g, lo, none⟩ (.string tx)) W.heap.size g n (Rf.stepA m F lo hi)) := L3.out
  refine (byP_any m n HMN.out hn w0 _ W.heap.size g hi _ L3'.out hhi).mono ?_
  rintro e w4 ⟨rfl, h4⟩
  have H4 : Hid (RowAt w0 w4 W.heap.size g n (Rf.stepP m (Rf.stepA m (F) lo hi) hi)) := h4
  clear h4
  go_wp2_with fail
  go_end0
  exact ⟨rfl, H4.out.own, H4.out.low⟩
end Go.Proofs.Ytjephdeolifbpaa
