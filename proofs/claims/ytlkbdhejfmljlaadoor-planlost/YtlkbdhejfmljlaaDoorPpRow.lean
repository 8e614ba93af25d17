/- Plans: the walk of a row's columns being told out of its arguments. -/
import Derived.Test.YtlkbdhejfmljlaaDoorPpJob
import Derived.Test.YtlkbdhejfmljlaaDoorKitRet
import Derived.RegionTactic
import Derived.BigRegion
namespace Go.Proofs.YtlkbdhejfmljlaaDoor
open Go.RowKit
attribute [local go_sem] Oper.semAt_some

/-- four cells -/
structure Box4 (w : World) (b : Nat) (c0 c1 c2 c3 : Value) : Prop where
  k0 : w.cell? ⟨b, 0, none⟩ = some c0
  k1 : w.cell? ⟨b, 1, none⟩ = some c1
  k2 : w.cell? ⟨b, 2, none⟩ = some c2
  k3 : w.cell? ⟨b, 3, none⟩ = some c3
  f0 : w.frozen? ⟨b, 0, none⟩ = false
  f1 : w.frozen? ⟨b, 1, none⟩ = false
  f2 : w.frozen? ⟨b, 2, none⟩ = false
  f3 : w.frozen? ⟨b, 3, none⟩ = false
namespace Box4
variable {w w' : World} {b B : Nat} {c0 c1 c2 c3 : Value}
theorem new (w : World) (t : TypeId) (c0 c1 c2 c3 : Value) : Box4 (w.alloc (.cells #[c0, c1, c2, c3] t)) w.heap.size c0 c1 c2 c3 :=
  ⟨World.cell?_alloc_mark w _ t (0, 0) 0, World.cell?_alloc_mark w _ t (0, 0) 1, World.cell?_alloc_mark w _ t (0, 0) 2, World.cell?_alloc_mark w _ t (0, 0) 3, by rw [World.frozen?_alloc_mark]; simp, by rw [World.frozen?_alloc_mark]; simp, by rw [World.frozen?_alloc_mark]; simp, by rw [World.frozen?_alloc_mark]; simp⟩
theorem lt (h : Box4 w b c0 c1 c2 c3) : b < w.heap.size := World.block_lt_of_cell? w _ h.k0
theorem below (h : Box4 w b c0 c1 c2 c3) (hb : Below B w w') (hB : b < B) : Box4 w' b c0 c1 c2 c3 :=
  ⟨(hb.cell (p := ⟨b, 0, none⟩) hB).trans h.k0, (hb.cell (p := ⟨b, 1, none⟩) hB).trans h.k1, (hb.cell (p := ⟨b, 2, none⟩) hB).trans h.k2, (hb.cell (p := ⟨b, 3, none⟩) hB).trans h.k3,
    (hb.frozen (p := ⟨b, 0, none⟩) hB).trans h.f0, (hb.frozen (p := ⟨b, 1, none⟩) hB).trans h.f1, (hb.frozen (p := ⟨b, 2, none⟩) hB).trans h.f2, (hb.frozen (p := ⟨b, 3, none⟩) hB).trans h.f3⟩
theorem kept (h : Box4 w b c0 c1 c2 c3) (hb : Below w.heap.size w w') : Box4 w' b c0 c1 c2 c3 := h.below hb h.lt
theorem drew (h : Box4 w b c0 c1 c2 c3) : Box4 w.drew b c0 c1 c2 c3 := ⟨h.k0, h.k1, h.k2, h.k3, h.f0, h.f1, h.f2, h.f3⟩
theorem far (h : Box4 w b c0 c1 c2 c3) {p : Addr} (hp : p.block ≠ b) (x : Value) : Box4 (w.setCell p x) b c0 c1 c2 c3 :=
  ⟨(World.cell?_setCell_other _ _ _ _ (fun e => hp (by rw [e]))).trans h.k0, (World.cell?_setCell_other _ _ _ _ (fun e => hp (by rw [e]))).trans h.k1, (World.cell?_setCell_other _ _ _ _ (fun e => hp (by rw [e]))).trans h.k2, (World.cell?_setCell_other _ _ _ _ (fun e => hp (by rw [e]))).trans h.k3,
    (World.frozen?_setCell _ _ _ _).trans h.f0, (World.frozen?_setCell _ _ _ _).trans h.f1, (World.frozen?_setCell _ _ _ _).trans h.f2, (World.frozen?_setCell _ _ _ _).trans h.f3⟩
theorem put2 (h : Box4 w b c0 c1 c2 c3) (x : Value) : Box4 (w.setCell ⟨b, 2, none⟩ x) b c0 c1 x c3 :=
  ⟨(World.cell?_setCell_other _ _ _ _ (fun e => by injection e with _ e2; cases e2)).trans h.k0, (World.cell?_setCell_other _ _ _ _ (fun e => by injection e with _ e2; cases e2)).trans h.k1, World.cell?_setCell_same _ _ _ h.k2, (World.cell?_setCell_other _ _ _ _ (fun e => by injection e with _ e2; cases e2)).trans h.k3,
    (World.frozen?_setCell _ _ _ _).trans h.f0, (World.frozen?_setCell _ _ _ _).trans h.f1, (World.frozen?_setCell _ _ _ _).trans h.f2, (World.frozen?_setCell _ _ _ _).trans h.f3⟩
theorem put3 (h : Box4 w b c0 c1 c2 c3) (x : Value) : Box4 (w.setCell ⟨b, 3, none⟩ x) b c0 c1 c2 x :=
  ⟨(World.cell?_setCell_other _ _ _ _ (fun e => by injection e with _ e2; cases e2)).trans h.k0, (World.cell?_setCell_other _ _ _ _ (fun e => by injection e with _ e2; cases e2)).trans h.k1, (World.cell?_setCell_other _ _ _ _ (fun e => by injection e with _ e2; cases e2)).trans h.k2, World.cell?_setCell_same _ _ _ h.k3,
    (World.frozen?_setCell _ _ _ _).trans h.f0, (World.frozen?_setCell _ _ _ _).trans h.f1, (World.frozen?_setCell _ _ _ _).trans h.f2, (World.frozen?_setCell _ _ _ _).trans h.f3⟩
end Box4
theorem stored4 {w w1 : World} {n b : Nat} (h : Below n w w1) (h1 : n ≤ w1.heap.size) (hb : n ≤ b) (x y z v : Value) : Below n w ((((w1.setCell ⟨b, 0, none⟩ x).setCell ⟨b, 1, none⟩ y).setCell ⟨b, 2, none⟩ z).setCell ⟨b, 3, none⟩ v) :=
  h.trans (((Only.setCell (fun k => k = b) w1 ⟨b, 0, none⟩ x rfl).then ((Only.setCell (fun k => k = b) _ ⟨b, 1, none⟩ y rfl).then ((Only.setCell (fun k => k = b) _ ⟨b, 2, none⟩ z rfl).then (Only.setCell (fun k => k = b) _ ⟨b, 3, none⟩ v rfl)))).below (fun k hk => by rw [hk]; exact hb) h1)
theorem stored1 {w w1 : World} {n : Nat} (h : Below n w w1) (h1 : n ≤ w1.heap.size) {p : Addr} (hp : n ≤ p.block) (x : Value) : Below n w (w1.setCell p x) :=
  h.trans ((Only.setCell (fun k => k = p.block) w1 p x rfl).below (fun k hk => by rw [hk]; exact hp) h1)

/-- a row's columns: which there are, which are to be written, which are lost -/
structure Job (N : Nat) (W : Nat → Bool) (L : List Int) (d p r l : Nat) : Prop where
  n2 : 2 ≤ N
  n8 : N ≤ 8
  hd : Rs.Is d (fun i => decide (i < N))
  hp : Rs.Is p (fun i => decide (N ≤ i) && decide (i < N + 2))
  hr : Rs.Is r (fun i => decide (i < N) && W i)
  hl : Rs.Is l (fun i => Pl.gone L i)
  top : ∀ i, Pl.gone L i = true → i < N + 2
  cnt : Rs.cnt l = L.length
theorem Rs.all_test {N d p : Nat} (hN : N ≤ 8) (hd : Rs.Is d (fun i => decide (i < N))) (hp : Rs.Is p (fun i => decide (N ≤ i) && decide (i < N + 2))) (k : Nat) : (d ||| p).testBit k = decide (k < N + 2) := by
  by_cases hk : k < 10
  · rw [(hd.or hp).has k hk]
    by_cases h1 : k < N
    · rw [decide_eq_true h1, decide_eq_true (show k < N + 2 by omega)]; rfl
    · rw [decide_eq_false h1, decide_eq_true (show N ≤ k by omega)]; rfl
  · rw [Rs.high (hd.or hp).lt (by omega), decide_eq_false (by omega)]
/-- what the parities' bits are -/
theorem Rs.parity {N : Nat} (hN : N ≤ 8) : Rs.Is (Rs.diff (2 ^ (N + 2) - 1) (2 ^ N - 1)) (fun i => decide (N ≤ i) && decide (i < N + 2)) := by
  refine ((Rs.Is.first (N := N + 2) (by omega)).diff (Rs.Is.first (N := N) (by omega))).as fun i _ => ?_
  by_cases h : i < N
  · rw [decide_eq_true h, decide_eq_false (show ¬ N ≤ i by omega)]; simp
  · rw [decide_eq_false h, decide_eq_true (show N ≤ i by omega)]; simp
theorem Rs.lost_none (L : List Int) : Rs.Is 0 (fun i => Pl.hasB (L.take 0) (i : Int)) := Rs.Is.zero.as fun _ _ => rfl
theorem Rs.lost_more {L : List Int} {t l y : Nat} (ht : t < L.length) (hl : Rs.Is l (fun i => Pl.hasB (L.take t) (i : Int))) (hy : y < 10) (e : L.getD t 0 = (y : Int)) : Rs.Is (l ||| 2 ^ y) (fun i => Pl.hasB (L.take (t + 1)) (i : Int)) := by
  refine (hl.or (Rs.Is.one hy)).as fun i _ => ?_
  rw [Pl.hasB_take ht, e]
  congr 1
  by_cases h : i = y
  · rw [decide_eq_true h, h]; simp
  · rw [decide_eq_false h]
    symm
    rw [beq_eq_false_iff_ne]; omega
theorem Pl.gone_top {N : Nat} {L : List Int} (h : Pl.rolesB (N : Int) L = true) (i : Nat) (hg : Pl.gone L i = true) : i < N + 2 := by
  unfold Pl.rolesB at h
  simp only [Bool.and_eq_true, List.all_eq_true] at h
  obtain ⟨x, hx, e⟩ := List.any_eq_true.1 hg
  obtain ⟨j, hj, rfl⟩ := List.mem_iff_getElem.1 hx
  have h1 := h.2.2 j (List.mem_range.2 hj)
  unfold Pl.oneOk at h1
  simp only [Bool.and_eq_true, decide_eq_true_eq] at h1
  have e2 : L.getD j 0 = L[j] := by rw [List.getD_eq_getElem?_getD, List.getElem?_eq_getElem hj]; rfl
  rw [e2] at h1
  have e3 : L[j] = (i : Int) := by simpa using e
  omega
/-- what a row of so many columns is told to be -/
def RowAns (w : World) (n : Int) (L : List Int) (e : Ending) (w' : World) : Prop :=
  ((Pl.rolesB n L = true ∧ ∃ N d p l : Nat, n = (N : Int) ∧ Job N (fun _ => false) L d p 0 l ∧ e = .returned (.tuple #[.agg #[.int .u64 (d : Int), .int .u64 (p : Int), .int .u64 0, .int .u64 (l : Int)], .bool true])) ∨
    (Pl.rolesB n L = false ∧ e = .returned (.tuple #[.agg #[.int .u64 0, .int .u64 0, .int .u64 0, .int .u64 0], .bool false]))) ∧ Below w.heap.size w w'

set_option maxRecDepth 100000 in
set_option maxHeartbeats 8000000 in
theorem rowOf_any (w : World) (n : Int) (a : Option Addr) (cap : Nat) (L : List Int) (hn : L.length ≤ 1000000) (hR : RowI .i64 w a L.length (fun j => L.getD j 0)) :
    Calls Tryd.prog 27 #[.int .i64 n, .slice a L.length cap] w (RowAns w n L) := by
  have x4 := Box4.new w 47 (.int .u64 0) (.int .u64 0) (.int .u64 0) (.int .u64 0)
  have B4 : Hid (Below w.heap.size w (w.alloc (.cells #[.int .u64 0, .int .u64 0, .int .u64 0, .int .u64 0] 47))) := job_below w _ _
  by_cases hn2 : n < 2
  · have E : Hid (Pl.rolesB n L = false) := by show _ = _; unfold Pl.rolesB; rw [decide_eq_false (by omega)]; rfl
    have t1 : decide (n < 2) = true := decide_eq_true hn2
    obtain ⟨k0, k1, k2, k3, f0, f1, f2, f3⟩ := x4
    clear hR hn2
    go_enter Tryd.func27, Tryd.ntmps27
    go_wp2
    refine bodyPost_ret (ret_cell_tmp rfl _ _ ⟨w.heap.size, 0, none⟩ (.agg #[.int .u64 0, .int .u64 0, .int .u64 0, .int .u64 0]) rfl (by go_simp)) rfl ?_
    exact ⟨.inr ⟨E.out, rfl⟩, B4.out⟩
  by_cases hn8 : 8 < n
  · have E : Hid (Pl.rolesB n L = false) := by show _ = _; unfold Pl.rolesB; rw [decide_eq_false (show ¬ n ≤ 8 by omega)]; simp
    have t1 : decide (n < 2) = false := decide_eq_false hn2
    have t2 : decide (8 < n) = true := decide_eq_true hn8
    obtain ⟨k0, k1, k2, k3, f0, f1, f2, f3⟩ := x4
    clear hR hn2 hn8
    go_enter Tryd.func27, Tryd.ntmps27
    go_wp2
    refine bodyPost_ret (ret_cell_tmp rfl _ _ ⟨w.heap.size, 0, none⟩ (.agg #[.int .u64 0, .int .u64 0, .int .u64 0, .int .u64 0]) rfl (by go_simp)) rfl ?_
    exact ⟨.inr ⟨E.out, rfl⟩, B4.out⟩
  obtain ⟨N, rfl⟩ : ∃ N : Nat, n = (N : Int) := ⟨n.toNat, by omega⟩
  have h2 : 2 ≤ N := by omega
  have h8 : N ≤ 8 := by omega
  have t1 : decide ((N : Int) < 2) = false := decide_eq_false hn2
  have t2 : decide ((8 : Int) < (N : Int)) = false := decide_eq_false hn8
  have t3 : IntKind.i64.wrap ((N : Int) + 2) = ((N + 2 : Nat) : Int) := by rw [IntKind.wrap_i64]; omega
  have HN2 : Hid (2 ≤ N ∧ N ≤ 8) := ⟨h2, h8⟩
  have ER : Hid (Pl.rolesB (N : Int) L = (List.range L.length).all (Pl.oneOk (N : Int) L)) := by show _ = _; unfold Pl.rolesB; rw [decide_eq_true (show (2 : Int) ≤ (N : Int) by omega), decide_eq_true (show (N : Int) ≤ 8 by omega)]; rfl
  obtain ⟨m, hne⟩ : ∃ m, m = L.length := ⟨_, rfl⟩
  rw [← hne] at hR hn ⊢
  have HR : Hid (RowI .i64 w a m (fun j => L.getD j 0)) := hR
  have HN : Hid (m = L.length) := hne
  have hdI := Rs.Is.first (N := N) (by omega)
  have hpI := Rs.parity h8
  have ed := Rs.u64_diff (2 ^ (N + 2) - 1) (2 ^ N - 1) (by have := (Rs.Is.first (N := N + 2) (by omega)).lt; omega) (by have := hdI.lt; omega)
  have C1 : Hid (∀ W, Calls Tryd.prog 37 #[.int .i64 (N : Int)] W fun e w' => e = .returned (.int .u64 ((2 ^ N - 1 : Nat) : Int)) ∧ w' = W) := fun W => first_any N (by omega) W
  have C2 : Hid (∀ W, Calls Tryd.prog 37 #[.int .i64 ((N + 2 : Nat) : Int)] W fun e w' => e = .returned (.int .u64 ((2 ^ (N + 2) - 1 : Nat) : Int)) ∧ w' = W) := fun W => first_any (N + 2) (by omega) W
  obtain ⟨M, hM⟩ : ∃ M, M = N + 2 := ⟨_, rfl⟩
  obtain ⟨d, hd⟩ : ∃ d, d = 2 ^ N - 1 := ⟨_, rfl⟩
  rw [← hM] at t3 C2 ed hpI
  obtain ⟨g, hg⟩ : ∃ g, g = 2 ^ M - 1 := ⟨_, rfl⟩
  rw [← hd] at C1 ed hdI hpI
  rw [← hg] at C2 ed hpI
  obtain ⟨p, hp⟩ : ∃ p, p = Rs.diff g d := ⟨_, rfl⟩
  rw [← hp] at ed hpI
  rw [hM] at hpI
  have HD : Hid (Rs.Is d (fun i => decide (i < N)) ∧ Rs.Is p (fun i => decide (N ≤ i) && decide (i < N + 2))) := ⟨hdI, hpI⟩
  have CA : Hid (∀ W l, Calls Tryd.prog 28 #[.agg #[.int .u64 (d : Int), .int .u64 (p : Int), .int .u64 0, .int .u64 (l : Nat)]] W (Same15 W (.int .u64 ((d ||| p : Nat) : Int)))) := fun W l => all_any d p 0 l hdI.lt hpI.lt W
  obtain ⟨A, hA⟩ : ∃ A, A = d ||| p := ⟨_, rfl⟩
  have HA : Hid (A < 1024 ∧ ∀ k, A.testBit k = decide (k < N + 2)) := ⟨by rw [hA]; exact (hdI.or hpI).lt, fun k => by rw [hA]; exact Rs.all_test h8 hdI hpI k⟩
  rw [← hA] at CA
  have x6 := Box4.new (w.alloc (.cells #[.int .u64 0, .int .u64 0, .int .u64 0, .int .u64 0] 47)) 47 (.int .u64 (d : Int)) (.int .u64 (p : Int)) (.int .u64 0) (.int .u64 ((0 : Nat) : Int))
  have b6 := job_below (w.alloc (.cells #[.int .u64 0, .int .u64 0, .int .u64 0, .int .u64 0] 47)) #[.int .u64 (d : Int), .int .u64 (p : Int), .int .u64 0, .int .u64 ((0 : Nat) : Int)] 47
  rw [World.size_alloc] at x6
  have X0 : Hid (Box4 ((w.alloc (.cells #[.int .u64 0, .int .u64 0, .int .u64 0, .int .u64 0] 47)).alloc (.cells #[.int .u64 (d : Int), .int .u64 (p : Int), .int .u64 0, .int .u64 ((0 : Nat) : Int)] 47)) (w.heap.size + 1) (.int .u64 (d : Int)) (.int .u64 (p : Int)) (.int .u64 0) (.int .u64 ((0 : Nat) : Int)) ∧ Box4 ((w.alloc (.cells #[.int .u64 0, .int .u64 0, .int .u64 0, .int .u64 0] 47)).alloc (.cells #[.int .u64 (d : Int), .int .u64 (p : Int), .int .u64 0, .int .u64 ((0 : Nat) : Int)] 47)) w.heap.size (.int .u64 0) (.int .u64 0) (.int .u64 0) (.int .u64 0) ∧ Below w.heap.size w ((w.alloc (.cells #[.int .u64 0, .int .u64 0, .int .u64 0, .int .u64 0] 47)).alloc (.cells #[.int .u64 (d : Int), .int .u64 (p : Int), .int .u64 0, .int .u64 ((0 : Nat) : Int)] 47))) := ⟨x6, x4.kept b6, below2 B4.out b6⟩
  clear hR hne hdI hpI hd hg hp hA hM x4 x6 b6 hn2 hn8 h2 h8 B4
  go_enter Tryd.func27, Tryd.ntmps27
  go_wp2_with (first | (go_at_call 37; refine (C1.out _).mono ?_; rintro e w1 ⟨rfl, rfl⟩) | (go_at_call 37; refine (C2.out _).mono ?_; rintro e w1 ⟨rfl, rfl⟩))
  go_loopg [27] m (fun gg s27 wr => ∃ t : Nat, t ≤ m ∧ gg = m - t ∧ s27 = .int .i64 (t : Int) ∧ ∃ l : Nat, (Box4 wr (w.heap.size + 1) (.int .u64 (d : Int)) (.int .u64 (p : Int)) (.int .u64 0) (.int .u64 (l : Int)) ∧ Box4 wr w.heap.size (.int .u64 0) (.int .u64 0) (.int .u64 0) (.int .u64 0) ∧ Below w.heap.size w wr) ∧ Rs.Is l (fun i => Pl.hasB (L.take t) (i : Int)) ∧ Rs.cnt l = t ∧ (List.range t).all (Pl.oneOk (N : Int) L) = true)
  case atStart => exact ⟨0, Nat.zero_le _, rfl, rfl, 0, X0.out, Rs.lost_none L, Rs.cnt_zero, rfl⟩
  case round =>
    obtain ⟨t, ht, rfl, rfl, l, ⟨hX, hZ, hb⟩, hl, hcnt, hall⟩ := hrel
    have BB : Hid (Below w.heap.size w wr) := hb
    have HX : Hid (Box4 wr (w.heap.size + 1) (.int .u64 (d : Int)) (.int .u64 (p : Int)) (.int .u64 0) (.int .u64 (l : Int))) := hX
    have HZ : Hid (Box4 wr w.heap.size (.int .u64 0) (.int .u64 0) (.int .u64 0) (.int .u64 0)) := hZ
    have HL : Hid (Rs.Is l (fun i => Pl.hasB (L.take t) (i : Int)) ∧ Rs.cnt l = t ∧ (List.range t).all (Pl.oneOk (N : Int) L) = true) := ⟨hl, hcnt, hall⟩
    have hsz := hX.lt
    have hs0 := hZ.lt
    obtain ⟨k0, k1, k2, k3, f0, f1, f2, f3⟩ := hX
    clear X0 C1 C2 hl hcnt hall hZ
    by_cases hlt : t < m
    · have hrow := HR.out.below hb
      obtain ⟨b, off, rfl, hc⟩ := hrow t hlt
      dsimp only at hc
      have hl : t < L.length := by rw [← HN.out]; exact hlt
      obtain ⟨y, hy⟩ : ∃ y, y = L.getD t 0 := ⟨_, rfl⟩
      have HY : Hid (y = L.getD t 0) := hy
      rw [← hy] at hc
      have one : Pl.oneOk (N : Int) L t = (decide (0 ≤ y) && (decide (y ≤ (N : Int) + 1) && !Pl.hasB (L.take t) y)) := by rw [hy]; rfl
      obtain ⟨c1, hc1⟩ : ∃ c1, (decide (0 ≤ y) && A.testBit y.toNat) = c1 := ⟨_, rfl⟩
      obtain ⟨c2, hc2⟩ : ∃ c2, (decide (0 ≤ y) && l.testBit y.toNat) = c2 := ⟨_, rfl⟩
      have HH1 : Hid (∀ W, Calls Tryd.prog 29 #[.int .u64 (A : Int), .int .i64 y] W fun e w' => e = .returned (.bool c1) ∧ w' = W) := fun W => by
        have h := roleHas_any A HA.out.1 y W
        rwa [hc1] at h
      have HH2 : Hid (∀ W, Calls Tryd.prog 29 #[.int .u64 (l : Int), .int .i64 y] W fun e w' => e = .returned (.bool c2) ∧ w' = W) := fun W => by
        have h := roleHas_any l HL.out.1.lt y W
        rwa [hc2] at h
      have HCA : Hid (∀ W, Calls Tryd.prog 28 #[.agg #[.int .u64 (d : Int), .int .u64 (p : Int), .int .u64 0, .int .u64 (l : Nat)]] W (Same15 W (.int .u64 (A : Int)))) := fun W => CA W l
      have hin : c1 = true → 0 ≤ y ∧ y ≤ (N : Int) + 1 := fun h => by
        rw [h] at hc1
        simp only [Bool.and_eq_true, decide_eq_true_eq, HA.out.2] at hc1
        omega
      have hno : c1 = false ∨ c2 = true → Pl.rolesB (N : Int) L = false := fun h => by
        rw [ER.out, List.all_eq_false]
        refine ⟨t, List.mem_range.2 (by rw [← HN.out]; exact hlt), ?_⟩
        rw [one]
        rcases h with h | h
        · rw [h] at hc1
          by_cases h0 : 0 ≤ y
          · rw [decide_eq_true h0, Bool.true_and, HA.out.2, decide_eq_false_iff_not] at hc1
            rw [decide_eq_false (show ¬ y ≤ (N : Int) + 1 by omega)]; simp
          · rw [decide_eq_false h0]; simp
        · rw [h] at hc2
          simp only [Bool.and_eq_true, decide_eq_true_eq] at hc2
          have h10 : y.toNat < 10 := Nat.lt_of_not_le fun hh => by rw [Rs.high HL.out.1.lt hh] at hc2; exact absurd hc2.2 (by decide)
          rw [HL.out.1.has _ h10, Int.toNat_of_nonneg hc2.1] at hc2
          rw [hc2.2]; simp
      cases c1 with
      | false =>
        have E : Hid (Pl.rolesB (N : Int) L = false) := hno (.inl rfl)
        clear hc1 hc2 hin hno one hy hl hrow hb HH2
        go_wp2_with (first | (go_at_call 28; refine (HCA.out _).mono ?_; rintro e w2 ⟨rfl, hb2⟩; have B2 : Hid (Below wr.heap.size wr w2) := hb2; obtain ⟨z0, z1, z2, z3, y0, y1, y2, y3⟩ := HZ.out.kept hb2; clear hb2) | (go_at_call 29; refine (HH1.out _).mono ?_; rintro e w3 ⟨rfl, rfl⟩))
        refine bodyPost_ret (ret_cell_tmp rfl _ _ ⟨w.heap.size, 0, none⟩ (.agg #[.int .u64 0, .int .u64 0, .int .u64 0, .int .u64 0]) rfl (by go_simp)) rfl ?_
        exact ⟨.inr ⟨E.out, rfl⟩, stored4 (below2 BB.out B2.out) (below2 BB.out B2.out).size (Nat.le_refl _) _ _ _ _⟩
      | true =>
        obtain ⟨hy0, hy1⟩ := hin rfl
        cases c2 with
        | true =>
          have E : Hid (Pl.rolesB (N : Int) L = false) := hno (.inr rfl)
          clear hc1 hc2 hin hno one hy hl hrow hb hy0 hy1
          have tk1 : True := trivial
          go_wp2_with (first | (go_at_call 28; refine (HCA.out _).mono ?_; rintro e w2 ⟨rfl, hb2⟩; have B2 : Hid (Below wr.heap.size wr w2) := hb2; obtain ⟨z0, z1, z2, z3, y0, y1, y2, y3⟩ := HZ.out.kept hb2; obtain ⟨x0, x1, x2, x3, v0, v1, v2, v3⟩ := HX.out.kept hb2; have hs2 : w.heap.size < w2.heap.size := Nat.lt_of_lt_of_le hs0 hb2.size; have hs3 : w.heap.size + 1 < w2.heap.size := Nat.lt_of_lt_of_le hsz hb2.size; clear hb2) | (go_at_call 29; have _t := tk1; refine (HH1.out _).mono ?_; rintro e w3 ⟨rfl, rfl⟩; clear _t tk1) | (go_at_call 29; refine (HH2.out _).mono ?_; rintro e w4 ⟨rfl, rfl⟩))
          refine bodyPost_ret (ret_cell_tmp rfl _ _ ⟨w.heap.size, 0, none⟩ (.agg #[.int .u64 0, .int .u64 0, .int .u64 0, .int .u64 0]) rfl (by go_simp)) rfl ?_
          exact ⟨.inr ⟨E.out, rfl⟩, stored4 (below2 BB.out B2.out) (below2 BB.out B2.out).size (Nat.le_refl _) _ _ _ _⟩
        | false =>
          obtain ⟨k, rfl⟩ : ∃ k : Nat, y = (k : Int) := ⟨y.toNat, by omega⟩
          have hk : k < 10 := by have := HN2.out.2; omega
          have hbit : l.testBit k = false := by simpa using hc2
          have hnone : Pl.hasB (L.take t) (k : Int) = false := by rw [← HL.out.1.has k hk]; exact hbit
          have h1 := Rs.lost_more hl HL.out.1 hk hy.symm
          have h2 := (Rs.cnt_one HL.out.1.lt hk hbit).trans (congrArg (· + 1) HL.out.2.1)
          have h3 : (List.range (t + 1)).all (Pl.oneOk (N : Int) L) = true := by
            rw [List.range_succ, List.all_append, HL.out.2.2]
            simp only [List.all_cons, List.all_nil, Bool.and_true, Bool.true_and]
            rw [one, hnone, decide_eq_true hy0, decide_eq_true hy1]; rfl
          have eo := u64_or_nat l (2 ^ k) (by have := HL.out.1.lt; omega) (by have := (Rs.Is.one hk).lt; omega)
          have hqlt := (Rs.Is.one hk).lt
          obtain ⟨q, hq⟩ : ∃ q, q = 2 ^ k := ⟨_, rfl⟩
          rw [← hq] at h1 h2 eo hqlt
          have ew : IntKind.u64.wrap ((2 : Int) ^ k) = (q : Int) := by
            rw [show ((2 : Int) ^ k) = (q : Int) by rw [hq, Int.natCast_pow]; rfl, IntKind.wrap_u64]
            omega
          obtain ⟨z, hz⟩ : ∃ z, z = l ||| q := ⟨_, rfl⟩
          rw [← hz] at h1 h2 eo
          have HG : Hid (Rs.Is z (fun i => Pl.hasB (L.take (t + 1)) (i : Int)) ∧ Rs.cnt z = t + 1 ∧ (List.range (t + 1)).all (Pl.oneOk (N : Int) L) = true) := ⟨h1, h2, h3⟩
          clear hc1 hc2 hin hno one hy hl hrow hb hy0 hy1 h1 h2 h3 hq hz hbit hnone hqlt
          have tk1 : True := trivial
          go_wp2_with (first | (go_at_call 28; refine (HCA.out _).mono ?_; rintro e w2 ⟨rfl, hb2⟩; have B2 : Hid (Below wr.heap.size wr w2) := hb2; obtain ⟨z0, z1, z2, z3, y0, y1, y2, y3⟩ := HZ.out.kept hb2; obtain ⟨x0, x1, x2, x3, v0, v1, v2, v3⟩ := HX.out.kept hb2; have hs2 : w.heap.size < w2.heap.size := Nat.lt_of_lt_of_le hs0 hb2.size; have hs3 : w.heap.size + 1 < w2.heap.size := Nat.lt_of_lt_of_le hsz hb2.size; clear hb2) | (go_at_call 29; have _t := tk1; refine (HH1.out _).mono ?_; rintro e w3 ⟨rfl, rfl⟩; clear _t tk1) | (go_at_call 29; refine (HH2.out _).mono ?_; rintro e w4 ⟨rfl, rfl⟩))
          have B4w : Hid (Below w.heap.size w w4) := below2 BB.out B2.out
          have XW : Hid (Box4 w4 (w.heap.size + 1) (.int .u64 (d : Int)) (.int .u64 (p : Int)) (.int .u64 0) (.int .u64 (l : Int)) ∧ Box4 w4 w.heap.size (.int .u64 0) (.int .u64 0) (.int .u64 0) (.int .u64 0)) := ⟨⟨x0, x1, x2, x3, v0, v1, v2, v3⟩, ⟨z0, z1, z2, z3, y0, y1, y2, y3⟩⟩
          clear z0 z1 z2 z3 y0 y1 y2 y3 x0 x1 x2 v0 v1 v2 BB B2 HH1 HH2 HCA HX HZ k0 k1 k2 k3 f0 f1 f2 f3 hc
          go_region
          go_wp2
          go_roundg (m - (t + 1))
          case measure => omega
          case rel => exact ⟨t + 1, by omega, rfl, by go_num, z, ⟨(XW.out.1.put3 _).drew, (XW.out.2.far (by show w.heap.size + 1 ≠ w.heap.size; omega) _).drew, (stored1 B4w.out B4w.out.size (Nat.le_succ _) _).drew⟩, HG.out⟩
    · have E : Hid (Pl.rolesB (N : Int) L = true) := by
        have h1 := HL.out.2.2
        have h2 : t = L.length := by have := HN.out; omega
        rw [h2] at h1
        exact ER.out.trans h1
      have hx : ¬ (t : Int) < (m : Int) := by omega
      have hj : Job N (fun _ => false) L d p 0 l := by
        have h2 : t = L.length := by have := HN.out; omega
        refine ⟨HN2.out.1, HN2.out.2, HD.out.1, HD.out.2, Rs.Is.zero.as fun i _ => by simp, ?_, Pl.gone_top E.out, HL.out.2.1.trans h2⟩
        refine HL.out.1.as fun i _ => ?_
        rw [h2, List.take_length]; rfl
      have HJ : Hid (Job N (fun _ => false) L d p 0 l) := hj
      obtain ⟨z0, z1, z2, z3, y0, y1, y2, y3⟩ := HZ.out
      clear hj hb
      go_wp2
      refine bodyPost_ret (ret_cell_tmp rfl _ _ ⟨w.heap.size, 0, none⟩ (.agg #[.int .u64 (d : Int), .int .u64 (p : Int), .int .u64 0, .int .u64 (l : Int)]) rfl (by go_simp)) rfl ?_
      exact ⟨.inl ⟨E.out, N, d, p, l, rfl, HJ.out, rfl⟩, stored4 BB.out BB.out.size (Nat.le_refl _) _ _ _ _⟩
end Go.Proofs.YtlkbdhejfmljlaaDoor
