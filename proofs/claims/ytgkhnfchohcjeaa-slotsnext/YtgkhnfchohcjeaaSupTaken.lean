/- The walk of super's taken: the block of which a sector's bytes begin with the numbers. -/
import Derived.Test.YtgkhnfchohcjeaaSupTold
import Derived.Test.YtgkhnfchohcjeaaPackDec
import Derived.Test.YtgkhnfchohcjeaaPackWalk
namespace Go.Proofs.Ytgkhnfchohcjeaa
open Go.RowKit

namespace Sup
/-- what a number puts into its part's cell -/
def cellV (j n : Nat) : Value := if j < 3 then .int .u64 (n : Int) else if j = 7 then .bool ((n : Int) == 1) else .int .i64 (n : Int)
/-- a block's cells when some numbers are put -/
def putC (l : List Nat) : Nat → Array Value
  | 0 => blkC 0 none
  | k + 1 => (putC l k).setIfInBounds k (cellV k (l.getD k 0))
theorem putC_size (l : List Nat) (k : Nat) : (putC l k).size = 11 := by
  induction k with
  | zero => rfl
  | succ k ih => simp [putC, ih]
/-- a superblock of some numbers -/
def ofL (l : List Nat) : Su := ⟨l.getD 1 0, l.getD 2 0, l.getD 3 0, l.getD 4 0, l.getD 5 0, l.getD 6 0, l.getD 7 0 == 1, l.getD 8 0, l.getD 9 0, l.getD 10 0⟩
theorem cast_one (n : Nat) : ((n : Int) == 1) = (n == 1) := by rw [Bool.eq_iff_iff, beq_iff_eq, beq_iff_eq]; omega
theorem putC_all (l : List Nat) : putC l 11 = blkC (l.getD 0 0) (ofL l) := by
  simp [putC, cellV, blkC, ofL, none, cast_one]
theorem told_ofL (b : ByteArray) : told b = ofL (Pk.dec (b.data.toList.take 31) wL) := rfl
end Sup

theorem put_part (p j : Nat) (hj : j < 11) (x : Int) (n : Nat) (hn : 3 ≤ j → n < 65536) (C : Array Value) (hC : C.size = 11) (w : World) (h : w.heap[p]? = some (.cells C 67 (0, 0))) :
    Calls Try.prog 70 #[.agg #[partI p j, .int .i64 x], .int .u64 (n : Nat)] w fun e w' => e = .returned (.tuple #[]) ∧ Only (fun b => b = p) w w' ∧ w'.heap[p]? = some (.cells (C.setIfInBounds j (Sup.cellV j n)) 67 (0, 0)) := by
  have hg : ∃ v, C[j]? = some v := ⟨C[j]'(by omega), Array.getElem?_eq_getElem (by omega)⟩
  obtain ⟨v, hv⟩ := hg
  revert j
  refine el11 ?_ ?_ ?_ ?_ ?_ ?_ ?_ ?_ ?_ ?_ ?_
  · intro _ hv; exact put_u64 p 0 x n C w h v hv
  · intro _ hv; exact put_u64 p 1 x n C w h v hv
  · intro _ hv; exact put_u64 p 2 x n C w h v hv
  · intro hn hv; exact put_int p 3 x n C w h v hv (by omega) (by have := hn (by decide); omega)
  · intro hn hv; exact put_int p 4 x n C w h v hv (by omega) (by have := hn (by decide); omega)
  · intro hn hv; exact put_int p 5 x n C w h v hv (by omega) (by have := hn (by decide); omega)
  · intro hn hv; exact put_int p 6 x n C w h v hv (by omega) (by have := hn (by decide); omega)
  · intro _ hv; exact put_bool p 7 x n C w h v hv
  · intro hn hv; exact put_int p 8 x n C w h v hv (by omega) (by have := hn (by decide); omega)
  · intro hn hv; exact put_int p 9 x n C w h v hv (by omega) (by have := hn (by decide); omega)
  · intro hn hv; exact put_int p 10 x n C w h v hv (by omega) (by have := hn (by decide); omega)

/-- a row of eleven whole numbers of 64 bits lies in no block's cells -/
theorem row_apart {w : World} {p b o : Nat} {l : List Nat} {k : Nat} {f : Nat → Int} (hp : w.heap[p]? = some (.cells (Sup.putC l k) 67 (0, 0))) (hr : RowI .u64 w (some ⟨b, o, Option.none⟩) 11 f) (hk : Sup.putC l k = blkC 0 Sup.none) : b ≠ p := by
  intro e
  subst e
  obtain ⟨b', o', e, hc⟩ := hr 3 (by decide)
  simp only [Option.some.injEq, Addr.mk.injEq, and_true] at e
  obtain ⟨rfl, rfl⟩ := e
  rw [Go.Joins.cell_of_block hp, hk] at hc
  by_cases h : o < 8
  · have : o = 0 ∨ o = 1 ∨ o = 2 ∨ o = 3 ∨ o = 4 ∨ o = 5 ∨ o = 6 ∨ o = 7 := by omega
    rcases this with rfl | rfl | rfl | rfl | rfl | rfl | rfl | rfl <;> simp [blkC] at hc
  · rw [Array.getElem?_eq_none (by simp [blkC]; omega)] at hc
    cases hc

set_option maxRecDepth 100000 in
set_option maxHeartbeats 4000000 in
theorem taken_any (t u : ByteArray) (ht : t.size = 60) (hu : t.extract 0 31 = u) (w : World) :
    Calls Try.prog 51 #[.string t] w fun e w' => e = .returned (blkV ((Pk.dec u.data.toList Sup.wL).getD 0 0) (Sup.ofL (Pk.dec u.data.toList Sup.wL))) ∧ Below w.heap.size w w' := by
  have hu31 : u.data.toList.length = Pk.offs Sup.wL Sup.wL.length := by rw [← hu, Sup.wL_offs]; simp; omega
  have hT := fun W => told_any 0 Sup.none ⟨by decide, by decide, by decide, by decide, by decide, by decide, by decide, by decide, by decide, by decide⟩ W
  have hS := fun (b : Option Addr) (cb : Nat) (W : World) (h : RowI .i64 W b 11 (fun j => Sup.wL.getD j 0)) => Size_any Sup.wL (by decide) b cb W h
  have hD := fun (b : Option Addr) (cb : Nat) (W : World) (h : RowI .i64 W b 11 (fun j => Sup.wL.getD j 0)) => Decode_any u Sup.wL (by have : u.data.toList.length = 31 := hu31.trans Sup.wL_offs; unfold maxLen; simp at this; have e : u.size = u.data.size := rfl; omega) (by decide) b cb W h
  have hlen := Pk.dec_length Sup.wL_ok hu31
  have hfit := Pk.dec_fit Sup.wL_ok hu31
  have h64 := Pk.dec_lt u.data.toList Sup.wL
  unfold DecAns at hD
  rw [Pk.decE_yes Sup.wL_ok hu31] at hD
  obtain ⟨L, hL⟩ : ∃ L, Pk.dec u.data.toList Sup.wL = L := ⟨_, rfl⟩
  rw [hL] at hD hlen hfit h64 ⊢
  rw [show Sup.wL.length = 11 from rfl] at hlen hS hD
  rw [hlen] at hD
  rw [show Pk.sizeN Sup.wL = 31 from by decide, show Pk.sizeE Sup.wL = 0 from by decide] at hS
  have HFit : Hid (∀ j, j < 11 → 3 ≤ j → L.getD j 0 < 65536) := by
    show ∀ j, j < 11 → 3 ≤ j → L.getD j 0 < 65536
    intro j hj h3
    have := Pk.fit_at hfit (j := j) hj
    refine Nat.lt_of_lt_of_le this ?_
    have hw : ∀ i, i < 11 → 3 ≤ i → 256 ^ Pk.wd Sup.wL i ≤ 65536 := by decide
    exact hw j hj h3
  obtain ⟨f, hf⟩ : ∃ f, L.getD 0 0 = f := ⟨_, rfl⟩
  obtain ⟨s, hs⟩ : ∃ s, Sup.ofL L = s := ⟨_, rfl⟩
  have HF0 : Hid (L.getD 0 0 = f) := hf
  have HS0 : Hid (Sup.ofL L = s) := hs
  rw [hf, hs]
  clear hf hs
  unfold blkV
  have HS : Hid _ := hS
  have HD : Hid _ := hD
  have hti : (t.size : Int) = 60 := by omega
  clear hS hD hL hfit hu31
  unfold blkV Sup.none at hT
  dsimp only at hT
  rw [show ((0 : Nat) : Int) = 0 from rfl] at hT
  go_enter Try.func51, Try.ntmps51
  go_wp2_with fail
  refine (hT _).mono ?_
  rintro e w1 ⟨a, ca, b2, cb, rfl, _, rb, hb1⟩
  have HP1 : Hid (w1.heap[w.heap.size]? = some (.cells (blkC 0 Sup.none) 67 (0, 0))) := (hb1.block _ (by rw [World.size_alloc]; exact Nat.lt_succ_self _)).trans (heap_new w _)
  have HB1 : Hid (Below w.heap.size w w1) := ((Below.refl w.heap.size w).alloc (Nat.le_refl _) _).trans (hb1.mono (by rw [World.size_alloc]; omega))
  have hs := HS.out b2 cb w1 rb
  have hd := HD.out b2 cb w1 rb
  clear hb1 rb hT
  go_wp2_with fail
  refine hs.mono ?_
  rintro e w' ⟨rfl, hw'⟩
  replace hw' := hw'.symm
  subst hw'
  clear hs
  go_wp2_with fail
  refine hd.mono ?_
  rintro e w2 ⟨n0, cn, rfl, rn, hb2⟩
  have lt0 : w.heap.size < w1.heap.size := (Array.getElem?_eq_some_iff.1 HP1.out).1
  have HP2 : Hid (w2.heap[w.heap.size]? = some (.cells (blkC 0 Sup.none) 67 (0, 0))) := (hb2.block _ lt0).trans HP1.out
  have HB2 : Hid (Below w.heap.size w w2) := HB1.out.trans (hb2.mono (Nat.le_of_lt lt0))
  have lt0 : w.heap.size < w2.heap.size := Nat.lt_of_lt_of_le lt0 hb2.size
  obtain ⟨nb, no, en, _⟩ := rn 0 (by decide)
  subst en
  have hnb : nb ≠ w.heap.size := row_apart (l := []) (k := 0) HP2.out rn rfl
  have hnc : ∀ j, j < 11 → w2.cell? ⟨nb, no + j, none⟩ = some (.int .u64 ((L.getD j 0 : Nat) : Int)) := by
    intro j hj
    obtain ⟨b', o', e, hc⟩ := rn j hj
    simp only [Option.some.injEq, Addr.mk.injEq, and_true] at e
    obtain ⟨rfl, rfl⟩ := e
    exact hc
  have ltn : nb < w2.heap.size := World.block_lt_of_cell? w2 _ (hnc 0 (by decide))
  clear hd hb2 rn HP1 HB1 HS HD
  have HNC : Hid (∀ j, j < 11 → w2.cell? ⟨nb, no + j, none⟩ = some (.int .u64 ((L.getD j 0 : Nat) : Int))) := hnc
  clear hnc
  go_wp2_with fail
  refine (parts_any _ _).mono ?_
  rintro e w3 ⟨rfl, hb3, hlt3, hp3⟩
  have HP3 : Hid (w3.heap[w.heap.size]? = some (.cells (Sup.putC L 0) 67 (0, 0))) := (hb3.block _ lt0).trans HP2.out
  have HQ3 : Hid (w3.heap[w2.heap.size]? = some (.cells (partC w.heap.size) 89 (0, 0))) := hp3
  have HB3 : Hid (Below w.heap.size w w3) := HB2.out.trans (hb3.mono (Nat.le_of_lt lt0))
  have HN3 : Hid (∀ j, j < 11 → w3.cell? ⟨nb, no + j, none⟩ = some (.int .u64 ((L.getD j 0 : Nat) : Int))) := fun j hj => (hb3.cell (p := ⟨nb, no + j, none⟩) ltn).trans (HNC.out j hj)
  have ltn3 : nb < w3.heap.size := Nat.lt_of_lt_of_le ltn hb3.size
  obtain ⟨g, hg⟩ : ∃ g, w2.heap.size = g := ⟨_, rfl⟩
  rw [hg] at HQ3 lt0 hlt3 ⊢
  clear hp3 hb3 HP2 HB2 HNC hg ltn
  go_wp2
  go_loopg [31] 11 (fun gg i wr => ∃ k : Nat, k ≤ 11 ∧ gg = 11 - k ∧ i = .int .i64 (k : Int) ∧ wr.heap[w.heap.size]? = some (.cells (Sup.putC L k) 67 (0, 0)) ∧ Only (fun b => b = w.heap.size) w3 wr)
  case atStart => exact ⟨0, Nat.zero_le _, rfl, rfl, HP3.out, Only.refl _ _⟩
  case round =>
    obtain ⟨k, hk, rfl, rfl, hp, ho⟩ := hrel
    by_cases hlt : k < 11
    · have hQ : wr.heap[g]? = some (.cells (partC w.heap.size) 89 (0, 0)) := (ho.block g hlt3 (by omega)).trans HQ3.out
      have cA : wr.cell? ⟨g, k * 2, none⟩ = some (partI w.heap.size k) := by rw [Go.Joins.cell_of_block hQ]; exact partC_iface _ k hlt
      have cB : wr.cell? ⟨g, k * 2 + 1, none⟩ = some (.int .i64 (Sup.wL.getD k 0)) := by rw [Go.Joins.cell_of_block hQ]; exact partC_wid _ k hlt
      have cN : wr.cell? ⟨nb, no + k, none⟩ = some (.int .u64 ((L.getD k 0 : Nat) : Int)) := by
        rw [← HN3.out k hlt]
        exact World.cell?_of_block (a := ⟨nb, no + k, none⟩) (ho.block nb ltn3 hnb)
      obtain ⟨x, hx⟩ : ∃ x, Sup.wL.getD k 0 = x := ⟨_, rfl⟩
      obtain ⟨n, hn⟩ : ∃ n, L.getD k 0 = n := ⟨_, rfl⟩
      have n64 := h64 k
      have HPC : Hid (Sup.putC L (k + 1) = (Sup.putC L k).setIfInBounds k (Sup.cellV k n)) := by show _ = _; rw [← hn]; rfl
      have hU := fun W h => put_part w.heap.size k hlt x n (fun h3 => by rw [← hn]; exact HFit.out k hlt h3) (Sup.putC L k) (Sup.putC_size L k) W h
      rw [hx] at cB
      rw [hn] at cN n64
      obtain ⟨T, V, hpi⟩ := partI_form w.heap.size k
      rw [hpi] at cA hU
      have HU : Hid _ := hU
      have HP : Hid (wr.heap[w.heap.size]? = some (.cells (Sup.putC L k) 67 (0, 0))) := hp
      have HO : Hid (Only (fun b => b = w.heap.size) w3 wr) := ho
      have ltg : g < wr.heap.size := World.block_lt_of_cell? wr _ cA
      have ltr : nb < wr.heap.size := World.block_lt_of_cell? wr _ cN
      have ltp : w.heap.size < wr.heap.size := (Array.getElem?_eq_some_iff.1 hp).1
      have HMX : Hid (Try.prog.follows .mixedOrders = true) := by show _ = _; kernel_rfl
      clear hx hn hpi hQ hU hp ho
      go_wp2_with fail
      have HW5 : Hid _ := (⟨heap_new wr (.cells #[.iface T V, .int .i64 x] 89), Below.heap_alloc wr (.cells #[.iface T V, .int .i64 x] 89), (Below.refl wr.heap.size wr).alloc (Nat.le_refl _) (.cells #[.iface T V, .int .i64 x] 89)⟩ : _ ∧ _ ∧ _)
      obtain ⟨w5, hw5⟩ : ∃ w5, (wr.alloc (.cells #[.iface T V, .int .i64 x] 89)) = w5 := ⟨_, rfl⟩
      have hW5 := HW5.out
      rw [hw5] at hW5 ⊢
      have sz5 : w5.heap.size = wr.heap.size + 1 := by rw [← hw5, World.size_alloc]
      clear hw5 HW5
      obtain ⟨q0, q1, q2⟩ := hW5
      have e0 : w5.cell? ⟨wr.heap.size, 0, none⟩ = some (.iface T V) := Go.Joins.cell_of_block q0 0
      have e1 : w5.cell? ⟨wr.heap.size, 1, none⟩ = some (.int .i64 x) := Go.Joins.cell_of_block q0 1
      have e2 : w5.cell? ⟨nb, no + k, none⟩ = some (.int .u64 (n : Int)) := (q2.cell (p := ⟨nb, no + k, none⟩) ltr).trans cN
      have HP5 : Hid (w5.drew.heap[w.heap.size]? = some (.cells (Sup.putC L k) 67 (0, 0))) := (q1 _ ltp).trans HP.out
      have HO5 : Hid (Only (fun b => b = w.heap.size) w3 w5) := HO.out.then (Only.of_below q2 _)
      clear q0 q1 q2 cA cB cN
      refine wp_region_held (S := fun W => W.cell? ⟨wr.heap.size, 0, none⟩ = some (.iface T V) ∧ W.cell? ⟨wr.heap.size, 1, none⟩ = some (.int .i64 x) ∧ W.cell? ⟨nb, no + k, none⟩ = some (.int .u64 (n : Int))) HMX.out ?_
      have hS : (fun W : World => W.cell? ⟨wr.heap.size, 0, none⟩ = some (.iface T V) ∧ W.cell? ⟨wr.heap.size, 1, none⟩ = some (.int .i64 x) ∧ W.cell? ⟨nb, no + k, none⟩ = some (.int .u64 (n : Int))) w5.drew := ⟨e0, e1, e2⟩
      clear e0 e1 e2
      change wpAnyH _ _ _ _ _ _ _ _ w5.drew
      refine held_quiet 0 (v := ?v0q1) rfl (by kernel_rfl) (fun _ _ _ h => h) (by assumption) rfl ?hy0q1 ?rest0q1
      case hy0q1 => (intro wS hSw; (try dsimp only at hSw); go_simp; try with_reducible rfl)
      try simp only [Act.put, List.setIfInBounds_toArray, List.set_cons_zero, List.set_cons_succ]
      refine held_quiet 1 (v := ?v1q2) rfl (by kernel_rfl) (fun _ _ _ h => h) (by assumption) rfl ?hy1q2 ?rest1q2
      case hy1q2 => (intro wS hSw; (try dsimp only at hSw); go_simp; try with_reducible rfl)
      try simp only [Act.put, List.setIfInBounds_toArray, List.set_cons_zero, List.set_cons_succ]
      refine held_quiet 2 (v := ?v2q3) rfl (by kernel_rfl) (fun _ _ _ h => h) (by assumption) rfl ?hy2q3 ?rest2q3
      case hy2q3 => (intro wS hSw; (try dsimp only at hSw); go_simp; try with_reducible rfl)
      try simp only [Act.put, List.setIfInBounds_toArray, List.set_cons_zero, List.set_cons_succ]
      refine held_quiet 3 (v := ?v3q4) rfl (by kernel_rfl) (fun _ _ _ h => h) (by assumption) rfl ?hy3q4 ?rest3q4
      case hy3q4 => (intro wS hSw; (try dsimp only at hSw); go_simp; try with_reducible rfl)
      try simp only [Act.put, List.setIfInBounds_toArray, List.set_cons_zero, List.set_cons_succ]
      refine held_quiet 4 (v := ?v4q5) rfl (by kernel_rfl) (fun _ _ _ h => h) (by assumption) rfl ?hy4q5 ?rest4q5
      case hy4q5 => (intro wS hSw; (try dsimp only at hSw); go_simp; try with_reducible rfl)
      try simp only [Act.put, List.setIfInBounds_toArray, List.set_cons_zero, List.set_cons_succ]
      refine held_one 5 rfl (by kernel_rfl) ?_
      go_wp2_with fail
      refine (HU.out _ HP5.out).mono ?_
      rintro e w6 ⟨rfl, ho6, hp6⟩
      have HP6 : Hid (w6.heap[w.heap.size]? = some (.cells (Sup.putC L (k + 1)) 67 (0, 0))) := by show _ = _; rw [HPC.out]; exact hp6
      have HO6 : Hid (Only (fun b => b = w.heap.size) w3 w6) := HO5.out.then (Only.then (Only.drew _ _) ho6)
      have s0 : w6.cell? ⟨wr.heap.size, 0, none⟩ = some (.iface T V) := (World.cell?_of_block (a := ⟨wr.heap.size, 0, none⟩) (ho6.block wr.heap.size (show wr.heap.size < w5.heap.size by omega) (by omega))).trans hS.1
      have s1 : w6.cell? ⟨wr.heap.size, 1, none⟩ = some (.int .i64 x) := (World.cell?_of_block (a := ⟨wr.heap.size, 1, none⟩) (ho6.block wr.heap.size (show wr.heap.size < w5.heap.size by omega) (by omega))).trans hS.2.1
      have s2 : w6.cell? ⟨nb, no + k, none⟩ = some (.int .u64 (n : Int)) := (World.cell?_of_block (a := ⟨nb, no + k, none⟩) (ho6.block nb (show nb < w5.heap.size by omega) hnb)).trans hS.2.2
      clear ho6 hp6 hS
      go_wp2
      try refine ⟨⟨s0, s1, s2⟩, ?_⟩
      refine held_done (by kernel_rfl) ?_
      clear s0 s1 s2
      go_wp2
      go_roundg (11 - (k + 1))
      case measure => omega
      case rel => exact ⟨k + 1, by omega, rfl, by go_num, HP6.out, HO6.out⟩
    · have hke : k = 11 := by omega
      subst hke
      rw [Sup.putC_all, HF0.out, HS0.out] at hp
      have HB : Hid (Below w.heap.size w wr) := HB3.out.trans (ho.below (fun b e => by omega) (by omega))
      have hc := fun j => Go.Joins.cell_of_block hp j
      unfold blkC at hc
      have c0 := hc 0
      have c1 := hc 1
      have c2 := hc 2
      have c3 := hc 3
      have c4 := hc 4
      have c5 := hc 5
      have c6 := hc 6
      have c7 := hc 7
      have c8 := hc 8
      have c9 := hc 9
      have c10 := hc 10
      simp only [List.getElem?_toArray, List.getElem?_cons_zero, List.getElem?_cons_succ] at c0 c1 c2 c3 c4 c5 c6 c7 c8 c9 c10
      clear hc hp ho
      go_wp2
      refine bodyPost_ret (v := .agg #[.int .u64 (f : Int), .int .u64 (s.uu : Int), .int .u64 (s.ev : Int), .int .i64 s.role, .int .i64 s.c, .int .i64 s.k, .int .i64 s.r, .bool s.cl, .int .i64 s.b, .int .i64 s.nw, .int .i64 s.g]) (by simp [results, asAddr]; go_simp; try rfl) rfl ⟨rfl, HB.out⟩
end Go.Proofs.Ytgkhnfchohcjeaa
