import Derived.Test.YtdgkhjgnjfgnlaaGreatMKitA
import Derived.Test.YtdgkhjgnjfgnlaaGreatMKitD
import Derived.BigQuiet
namespace Go.Proofs.YtdgkhjgnjfgnlaaGreat
open Go.RowKit
def geoV (c k r : Int) : Value := .agg #[.int .i64 c, .int .i64 k, .int .i64 r]
theorem between_yes (a n b : Int) (h1 : a ≤ n) (h2 : n ≤ b) (w : World) :
  Calls Tryz.prog 126 #[.int .i64 a, .int .i64 n, .int .i64 b] w fun e w' => e = .returned (.bool true) ∧ w' = w := by
 go_enter Tryz.func126, Tryz.ntmps126
 go_wp2
 go_ret
 exact ⟨rfl, rfl⟩
theorem between_no (a n b : Int) (h : ¬ (a ≤ n ∧ n ≤ b)) (w : World) :
  Calls Tryz.prog 126 #[.int .i64 a, .int .i64 n, .int .i64 b] w fun e w' => e = .returned (.bool false) ∧ w' = w := by
 by_cases h1 : a ≤ n
 ·have h2 : ¬ n ≤ b := fun x => h ⟨h1, x⟩
  clear h
  go_enter Tryz.func126, Tryz.ntmps126
  go_wp2
  go_ret
  exact ⟨rfl, rfl⟩
 ·clear h
  go_enter Tryz.func126, Tryz.ntmps126
  go_wp2
  go_ret
  exact ⟨rfl, rfl⟩
def ShpAt (W : World) (b : Nat) (c k r : Int) : Prop :=
 W.cell? ⟨b, 0, none⟩ = some (.int .i64 c) ∧ W.cell? ⟨b, 1, none⟩ = some (.int .i64 k) ∧ W.cell? ⟨b, 2, none⟩ = some (.int .i64 r)
theorem ShpAt.below {w W : World} {b : Nat} {c k r : Int} (h : ShpAt w b c k r) {B : Nat} (hb : Below B w W) (hB : b < B) : ShpAt W b c k r :=
 ⟨(hb.cell (p := ⟨b, 0, none⟩) hB).trans h.1, (hb.cell (p := ⟨b, 1, none⟩) hB).trans h.2.1, (hb.cell (p := ⟨b, 2, none⟩) hB).trans h.2.2⟩
theorem ShpAt.new (w : World) (c k r : Int) (t : TypeId) : ShpAt (w.alloc (.cells #[.int .i64 c, .int .i64 k, .int .i64 r] t)) w.heap.size c k r := by
 refine ⟨?_, ?_, ?_⟩ <;> rw [World.cell?_alloc_mark] <;> rfl
theorem ShpAt.lt {w : World} {b : Nat} {c k r : Int} (h : ShpAt w b c k r) : b < w.heap.size := World.block_lt_of_cell? w _ h.1
theorem ShpAt.put {w : World} {b : Nat} {x y z : Int} (h : ShpAt w b x y z) (a i o : Int) :
  ShpAt (((w.setCell ⟨b, 0, none⟩ (.int .i64 a)).setCell ⟨b, 1, none⟩ (.int .i64 i)).setCell ⟨b, 2, none⟩ (.int .i64 o)) b a i o := by
 obtain ⟨h0, h1, h2⟩ := h
 have e1 : (w.setCell ⟨b, 0, none⟩ (.int .i64 a)).cell? ⟨b, 1, none⟩ = some (.int .i64 y) := by rw [World.cell?_setCell_other _ _ _ _ (by simp)]; exact h1
 have e2 : ((w.setCell ⟨b, 0, none⟩ (.int .i64 a)).setCell ⟨b, 1, none⟩ (.int .i64 i)).cell? ⟨b, 2, none⟩ = some (.int .i64 z) := by
  rw [World.cell?_setCell_other _ _ _ _ (by simp), World.cell?_setCell_other _ _ _ _ (by simp)]; exact h2
 refine ⟨?_, ?_, ?_⟩
 ·rw [World.cell?_setCell_other _ _ _ _ (by simp), World.cell?_setCell_other _ _ _ _ (by simp), World.cell?_setCell_same _ _ _ h0]
 ·rw [World.cell?_setCell_other _ _ _ _ (by simp), World.cell?_setCell_same _ _ _ e1]
 ·rw [World.cell?_setCell_same _ _ _ e2]
theorem ShpAt.other {w : World} {b b' : Nat} {x y z : Int} (h : ShpAt w b x y z) (hb : b ≠ b') (a i o : Value) :
  ShpAt (((w.setCell ⟨b', 0, none⟩ a).setCell ⟨b', 1, none⟩ i).setCell ⟨b', 2, none⟩ o) b x y z := by
 obtain ⟨h0, h1, h2⟩ := h
 have hn : ∀ j j' : Nat, (⟨b', j', none⟩ : Addr) ≠ ⟨b, j, none⟩ := fun j j' e => hb (by injection e with e1; exact e1.symm)
 refine ⟨?_, ?_, ?_⟩ <;> (rw [World.cell?_setCell_other _ _ _ _ (hn _ _), World.cell?_setCell_other _ _ _ _ (hn _ _), World.cell?_setCell_other _ _ _ _ (hn _ _)]; assumption)
set_option maxRecDepth 100000 in
set_option maxHeartbeats 1000000 in
theorem data_any (c k r : Int) (h1 : -9223372036854775806 ≤ c) (h2 : c ≤ 9223372036854775807) (w : World) :
  Calls Tryz.prog 127 #[geoV c k r] w fun e w' => e = .returned (.int .i64 (c - 2)) ∧ Below w.heap.size w w' := by
 unfold geoV
 go_enter Tryz.func127, Tryz.ntmps127
 go_wp2
 go_ret
 exact ⟨rfl, (Below.refl _ _).alloc (Nat.le_refl _) _⟩
def Lay.ok (c k r : Int) : Prop := (4 ≤ c ∧ c ≤ 10) ∧ (1 ≤ k ∧ k ≤ 4) ∧ (1 ≤ r ∧ r ≤ 256)
set_option maxRecDepth 100000 in
set_option maxHeartbeats 1000000 in
theorem may_yes (c k r : Int) (h : Lay.ok c k r) (w : World) :
  Calls Tryz.prog 89 #[geoV c k r] w fun e w' => e = .returned (.bool true) ∧ Below w.heap.size w w' := by
 obtain ⟨⟨c1, c2⟩, ⟨k1, k2⟩, r1, r2⟩ := h
 unfold geoV
 go_enter Tryz.func89, Tryz.ntmps89
 go_wp2_with fail
 refine (between_yes _ _ _ c1 c2 _).mono ?_
 rintro e w' ⟨rfl, rfl⟩
 go_wp2_with fail
 refine (between_yes _ _ _ k1 k2 _).mono ?_
 rintro e w' ⟨rfl, rfl⟩
 go_wp2_with fail
 refine (between_yes _ _ _ r1 r2 _).mono ?_
 rintro e w' ⟨rfl, rfl⟩
 go_wp2
 go_ret
 exact ⟨rfl, (Below.refl _ _).alloc (Nat.le_refl _) _⟩
set_option maxRecDepth 100000 in
set_option maxHeartbeats 1000000 in
theorem may_no (c k r : Int) (h : ¬ Lay.ok c k r) (w : World) :
  Calls Tryz.prog 89 #[geoV c k r] w fun e w' => e = .returned (.bool false) ∧ Below w.heap.size w w' := by
 unfold geoV
 by_cases hc : 4 ≤ c ∧ c ≤ 10
 ·have YC := fun W => between_yes 4 c 10 hc.1 hc.2 W
  by_cases hk : 1 ≤ k ∧ k ≤ 4
  ·have NR := fun W => between_no 1 r 256 (fun hr => h ⟨hc, hk, hr⟩) W
   have YK := fun W => between_yes 1 k 4 hk.1 hk.2 W
   clear h hc hk
   go_enter Tryz.func89, Tryz.ntmps89
   go_wp2_with fail
   refine (YC _).mono ?_
   rintro e w' ⟨rfl, rfl⟩
   go_wp2_with fail
   refine (YK _).mono ?_
   rintro e w' ⟨rfl, rfl⟩
   go_wp2_with fail
   refine (NR _).mono ?_
   rintro e w' ⟨rfl, rfl⟩
   go_wp2
   go_ret
   exact ⟨rfl, (Below.refl _ _).alloc (Nat.le_refl _) _⟩
  ·have NK := fun W => between_no 1 k 4 hk W
   clear h hc hk
   go_enter Tryz.func89, Tryz.ntmps89
   go_wp2_with fail
   refine (YC _).mono ?_
   rintro e w' ⟨rfl, rfl⟩
   go_wp2_with fail
   refine (NK _).mono ?_
   rintro e w' ⟨rfl, rfl⟩
   go_wp2
   go_ret
   exact ⟨rfl, (Below.refl _ _).alloc (Nat.le_refl _) _⟩
 ·have NC := fun W => between_no 4 c 10 hc W
  clear h hc
  go_enter Tryz.func89, Tryz.ntmps89
  go_wp2_with fail
  refine (NC _).mono ?_
  rintro e w' ⟨rfl, rfl⟩
  go_wp2
  go_ret
  exact ⟨rfl, (Below.refl _ _).alloc (Nat.le_refl _) _⟩
theorem lay_tmod_low (n c : Int) (hc : 0 < c) : -c < n.tmod c := by
 have h1 := Int.emod_nonneg n (show c ≠ 0 by omega)
 have hn : (c.natAbs : Int) = c := by omega
 rw [Int.tmod_eq_emod]
 split
 ·omega
 ·rename_i hd
  have : n % c ≠ 0 := fun e => hd (.inr (Int.dvd_of_emod_eq_zero e))
  omega
set_option maxRecDepth 100000 in
set_option maxHeartbeats 1000000 in
theorem lay_around_any (c k r n : Int) (h : Lay.ok c k r) (_n1 : -1000 ≤ n) (_n2 : n ≤ 1000) (w : World) :
  Calls Tryz.prog 128 #[geoV c k r, .int .i64 n] w fun e w' => e = .returned (.int .i64 (n % c)) ∧ Below w.heap.size w w' := by
 obtain ⟨⟨c1, c2⟩, _⟩ := h
 obtain ⟨t, ht⟩ : ∃ t, n.tmod c = t := ⟨_, rfl⟩
 obtain ⟨m, hm⟩ : ∃ m, n % c = m := ⟨_, rfl⟩
 have e2 : (t + c).tmod c = m := by
  rw [← hm, ← ht]
  have hb := Int.tmod_lt_of_pos n (show 0 < c by omega)
  have ha := lay_tmod_low n c (by omega)
  rw [Int.tmod_eq_emod_of_nonneg (by omega)]
  rw [Int.add_emod_right]
  rw [Int.tmod_eq_emod]
  split
  ·simp
  ·have : (c.natAbs : Int) = c := by omega
   simp [this]
 have t1 : -c < t := by rw [← ht]; exact lay_tmod_low n c (by omega)
 have t2 : t < c := by rw [← ht]; exact Int.tmod_lt_of_pos n (by omega)
 have m1 : 0 ≤ m := by rw [← hm]; exact Int.emod_nonneg n (by omega)
 have m2 : m < c := by rw [← hm]; exact Int.emod_lt_of_pos n (by omega)
 have hz : (c == 0) = false := by rw [beq_eq_false_iff_ne]; omega
 have E : Hid (n % c = m) := hm
 rw [hm]
 clear hm
 unfold geoV
 go_enter Tryz.func128, Tryz.ntmps128
 go_wp2
 go_quiet (fail)
 go_wp2
 go_ret
 exact ⟨rfl, below_drewN ((Below.refl _ _).alloc (Nat.le_refl _) _) _⟩
set_option maxRecDepth 100000 in
set_option maxHeartbeats 1000000 in
theorem parity_any (c k r row : Int) (h : Lay.ok c k r) (n1 : 0 ≤ row) (_n2 : row ≤ 100000) (w : World) :
  Calls Tryz.prog 125 #[geoV c k r, .int .i64 row] w fun e w' => e = .returned (.tuple #[.int .i64 (c - 1 - row % c), .int .i64 ((c - 1 - row % c + 1) % c)]) ∧ Below w.heap.size w w' := by
 have h0 := h
 obtain ⟨⟨c1, c2⟩, _⟩ := h
 obtain ⟨m, hm⟩ : ∃ m, row % c = m := ⟨_, rfl⟩
 have e2 : row.tmod c = m := by rw [Int.tmod_eq_emod_of_nonneg n1]; exact hm
 have m1 : 0 ≤ m := by rw [← hm]; exact Int.emod_nonneg row (by omega)
 have m2 : m < c := by rw [← hm]; exact Int.emod_lt_of_pos row (by omega)
 have hz : (c == 0) = false := by rw [beq_eq_false_iff_ne]; omega
 have HA : Hid (∀ W, Calls Tryz.prog 128 #[geoV c k r, .int .i64 (c - 1 - m + 1)] W fun e w' => e = .returned (.int .i64 ((c - 1 - m + 1) % c)) ∧ Below W.heap.size W w') :=
  fun W => lay_around_any c k r (c - 1 - m + 1) h0 (by omega) (by omega) W
 rw [hm]
 clear hm h0
 unfold geoV at *
 go_enter Tryz.func125, Tryz.ntmps125
 go_wp2
 go_quiet (fail)
 go_wp2_with fail
 refine (HA.out _).mono ?_
 rintro e w' ⟨rfl, hb⟩
 go_wp2
 go_ret2
 exact ⟨rfl, below2 (below_drewN ((Below.refl _ _).alloc (Nat.le_refl _) _) _) hb⟩
set_option maxRecDepth 100000 in
set_option maxHeartbeats 1000000 in
theorem holds_yes (c k r row : Int) (h : Lay.ok c k r) (n1 : 0 ≤ row) (n2 : row < r) (w : World) :
  Calls Tryz.prog 124 #[geoV c k r, .int .i64 row] w fun e w' => e = .returned (.bool true) ∧ Below w.heap.size w w' := by
 have HA := fun W => may_yes c k r h W
 have HB := fun W => between_yes 0 row (r - 1) n1 (by omega) W
 have HS0 : Hid (ShpAt (w.alloc (.cells #[.int .i64 c, .int .i64 k, .int .i64 r] 123)) w.heap.size c k r) := ShpAt.new w c k r _
 obtain ⟨_, _, r1, r2⟩ := h
 unfold geoV at *
 go_enter Tryz.func124, Tryz.ntmps124
 go_wp2_with fail
 refine (HA _).mono ?_
 rintro e w' ⟨rfl, hb⟩
 obtain ⟨s0, s1, s2⟩ := HS0.out.below hb (by simp)
 go_wp2_with fail
 refine (HB _).mono ?_
 rintro e w' ⟨rfl, rfl⟩
 go_wp2
 go_ret
 exact ⟨rfl, below2 ((Below.refl _ _).alloc (Nat.le_refl _) _) hb⟩
set_option maxRecDepth 100000 in
set_option maxHeartbeats 1000000 in
theorem holds_no (c k r row : Int) (h : ¬ (Lay.ok c k r ∧ 0 ≤ row ∧ row < r)) (w : World) :
  Calls Tryz.prog 124 #[geoV c k r, .int .i64 row] w fun e w' => e = .returned (.bool false) ∧ Below w.heap.size w w' := by
 by_cases ho : Lay.ok c k r
 ·have HA := fun W => may_yes c k r ho W
  have HB := fun W => between_no 0 row (r - 1) (fun x => h ⟨ho, x.1, by omega⟩) W
  have HS0 : Hid (ShpAt (w.alloc (.cells #[.int .i64 c, .int .i64 k, .int .i64 r] 123)) w.heap.size c k r) := ShpAt.new w c k r _
  obtain ⟨_, _, r1, r2⟩ := ho
  clear h
  unfold geoV at *
  go_enter Tryz.func124, Tryz.ntmps124
  go_wp2_with fail
  refine (HA _).mono ?_
  rintro e w' ⟨rfl, hb⟩
  obtain ⟨s0, s1, s2⟩ := HS0.out.below hb (by simp)
  go_wp2_with fail
  refine (HB _).mono ?_
  rintro e w' ⟨rfl, rfl⟩
  go_wp2
  go_ret
  exact ⟨rfl, below2 ((Below.refl _ _).alloc (Nat.le_refl _) _) hb⟩
 ·have HA := fun W => may_no c k r ho W
  clear h ho
  unfold geoV at *
  go_enter Tryz.func124, Tryz.ntmps124
  go_wp2_with fail
  refine (HA _).mono ?_
  rintro e w' ⟨rfl, hb⟩
  go_wp2
  go_ret
  exact ⟨rfl, below2 ((Below.refl _ _).alloc (Nat.le_refl _) _) hb⟩
end Go.Proofs.YtdgkhjgnjfgnlaaGreat
namespace Go.Proofs.YtdgkhjgnjfgnlaaGreat
namespace Lay
def hasRow (c k r row : Int) : Prop := ok c k r ∧ 0 ≤ row ∧ row < r
open Classical in
noncomputable def sizeI (c k r : Int) : Int := if ok c k r then r * (c - 2) * k else 0
open Classical in
noncomputable def needI (c k r : Int) : Int := if ok c k r then 4 + r * k else 0
open Classical in
noncomputable def checkI (c k r : Int) : Int := if ok c k r then 0 else 1
open Classical in
noncomputable def rowsI (s k : Int) : Int := if (1 ≤ k ∧ k ≤ 4) ∧ 4 ≤ s then (if (s - 4) / k ≤ 256 then (s - 4) / k else 256) else 0
open Classical in
noncomputable def parP (c k r row : Int) : Int := if hasRow c k r row then c - 1 - row % c else 0
open Classical in
noncomputable def parQ (c k r row : Int) : Int := if hasRow c k r row then (c - 1 - row % c + 1) % c else 0
open Classical in
noncomputable def colI (c k r row i : Int) : Int := if hasRow c k r row ∧ 0 ≤ i ∧ i < c - 2 then ((c - 1 - row % c + 1) % c + 1 + i) % c else 0
open Classical in
noncomputable def roleI (c k r row col : Int) : Int := if hasRow c k r row ∧ 0 ≤ col ∧ col < c then (col - (c - 1 - row % c + 1) % c - 1) % c else 0
open Classical in
noncomputable def findE (c k r s : Int) : Int := if ok c k r then (if 0 ≤ s ∧ s < r * (c - 2) * k then 0 else 70) else 1
open Classical in
noncomputable def findA (c k r s : Int) : Int := if ok c k r ∧ 0 ≤ s ∧ s < r * (c - 2) * k then s / k / (c - 2) else 0
open Classical in
noncomputable def findI (c k r s : Int) : Int := if ok c k r ∧ 0 ≤ s ∧ s < r * (c - 2) * k then s / k % (c - 2) else 0
open Classical in
noncomputable def findO (c k r s : Int) : Int := if ok c k r ∧ 0 ≤ s ∧ s < r * (c - 2) * k then s % k else 0
open Classical in
noncomputable def backE (c k r row i off : Int) : Int := if ok c k r then (if (0 ≤ row ∧ row < r) ∧ (0 ≤ i ∧ i < c - 2) ∧ 0 ≤ off ∧ off < k then 0 else 70) else 1
open Classical in
noncomputable def backN (c k r row i off : Int) : Int := if ok c k r ∧ (0 ≤ row ∧ row < r) ∧ (0 ≤ i ∧ i < c - 2) ∧ 0 ≤ off ∧ off < k then (row * (c - 2) + i) * k + off else 0
open Classical in
noncomputable def sectI (c k r row off : Int) : Int := if hasRow c k r row ∧ 0 ≤ off ∧ off < k then 4 + row * k + off else 0
end Lay
end Go.Proofs.YtdgkhjgnjfgnlaaGreat
