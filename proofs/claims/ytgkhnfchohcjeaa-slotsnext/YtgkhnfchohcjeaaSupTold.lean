/- The walk of super's told: a block's numbers and their widths, part by part. -/
import Derived.Test.YtgkhnfchohcjeaaSupTell
import Derived.Test.YtgkhnfchohcjeaaKitRow
import Derived.Test.YtgkhnfchohcjeaaKitRound
import Derived.Deep.LoopGhost
namespace Go.Proofs.Ytgkhnfchohcjeaa
open Go.RowKit

theorem partI_form (p j : Nat) : ∃ T V, partI p j = .iface T V := by
  unfold partI
  split <;> exact ⟨_, _, rfl⟩
theorem below_cells {w W : World} {p n B : Nat} {C : Array Value} (h : ∀ j, j < n → w.cell? ⟨p, j, none⟩ = C[j]?) (hp : p < B) (hb : Below B w W) : ∀ j, j < n → W.cell? ⟨p, j, none⟩ = C[j]? := fun j hj => (hb.cell (p := ⟨p, j, none⟩) hp).trans (h j hj)

theorem wL_small (k : Nat) (hk : k < 11) : 1 ≤ Sup.wL.getD k 0 ∧ Sup.wL.getD k 0 ≤ 8 := Pk.okW_at Sup.wL_ok hk
theorem take_next {α : Type} (l : List α) (k : Nat) (d : α) (h : k < l.length) : l.take (k + 1) = l.take k ++ [l.getD k d] := by
  rw [List.take_add_one, List.getElem?_eq_getElem h, List.getD_eq_getElem?_getD, List.getElem?_eq_getElem h]; rfl

/-- a block of another type stays where a row grows -/
theorem block_across {w w1 : World} {b1 t1 s1 n1 k t : Nat} {v1 : Value} {l1 : List Value} {tmp : Obj} {cs : Array Value} {fr : Nat × Nat} (h1 : w.ownsRow b1 t1 s1 v1 n1 l1) (hk : w.heap[k]? = some (.cells cs t fr)) (ht : t ≠ t1) (hg : (w.alloc tmp).grownBy w1 v1.ownBlock) :
    w1.heap[k]? = some (.cells cs t fr) := by
  have lt : k < w.heap.size := (Array.getElem?_eq_some_iff.1 hk).1
  rw [hg.block k (by rw [World.size_alloc]; omega) ?_, Below.heap_alloc w tmp k lt, hk]
  rcases h1.2 with ⟨rfl, _⟩ | ⟨g, cap, cur, rfl, _, hg', _⟩
  · simp [Value.ownBlock]
  · intro e
    simp [Value.ownBlock] at e
    subst e
    rw [hk] at hg'
    simp at hg'
    exact ht hg'.2.1

set_option maxRecDepth 100000 in
set_option maxHeartbeats 4000000 in
theorem told_any (f : Nat) (s : Su) (hF : Sup.Fit f s) (w : World) :
    Calls Try.prog 26 #[blkV f s] w fun e w' => ∃ a ca b cb, e = .returned (.tuple #[.slice a 11 ca, .slice b 11 cb]) ∧ RowI .u64 w' a 11 (fun j => ((Sup.nums f s).getD j 0 : Nat)) ∧ RowI .i64 w' b 11 (fun j => Sup.wL.getD j 0) ∧ Below w.heap.size w w' := by
  obtain ⟨i0, hi, hz0, hz1, hz2⟩ := info_parts (show (Try.prog.info? 3).map (fun i => (i.zero, i.size, i.bytes)) = some (some (.int .i64 0), 1, 8) by kernel_rfl)
  obtain ⟨i1, hj, hy0, hy1, hy2⟩ := info_parts (show (Try.prog.info? 22).map (fun i => (i.zero, i.size, i.bytes)) = some (some (.int .u64 0), 1, 8) by kernel_rfl)
  have HT : Hid _ := fun (p : Nat) x W h j hj => tell_part p f s hF x W h j hj
  have HC : Hid (∀ j, j < 11 → (w.alloc (.cells (blkC f s) 67)).cell? ⟨w.heap.size, j, none⟩ = (blkC f s)[j]?) := fun j _ => World.cell?_alloc_mark ..
  have HLT := hF.lt
  obtain ⟨C, hC⟩ : ∃ C, blkC f s = C := ⟨_, rfl⟩
  obtain ⟨N, hN⟩ : ∃ N, Sup.nums f s = N := ⟨_, rfl⟩
  have HNL : N.length = 11 := by rw [← hN]; rfl
  rw [hC] at HC HT
  rw [hN] at HT HLT ⊢
  rw [blkV_eq, hC]
  clear hC hN hF
  go_enter Try.func26, Try.ntmps26
  go_wp2_with fail
  refine (parts_any _ _).mono ?_
  rintro e w1 ⟨rfl, hb1, hlt1, hp1⟩
  have HL1 : Hid (w.heap.size < w1.heap.size ∧ w.heap.size + 1 < w1.heap.size) := by
    have h1 := hb1.size
    rw [World.size_alloc] at h1 hlt1
    exact ⟨by omega, by omega⟩
  have HB1 : Hid (Below w.heap.size w w1) := ((Below.refl w.heap.size w).alloc (Nat.le_refl _) _).trans (hb1.mono (by rw [World.size_alloc]; omega))
  have HC1 : Hid (∀ j, j < 11 → w1.cell? ⟨w.heap.size, j, none⟩ = C[j]?) := below_cells HC.out (by rw [World.size_alloc]; omega) hb1
  rw [World.size_alloc] at hp1 hlt1 ⊢
  have HP1 : Hid (w1.heap[w.heap.size + 1]? = some (.cells (partC w.heap.size) 89 (0, 0))) := hp1
  clear hp1 hlt1 hb1 HC
  go_wp2
  go_loopg [2, 3, 8] 11 (fun gg v x i wr => ∃ k : Nat, k ≤ 11 ∧ gg = 11 - k ∧ i = .int .i64 (k : Int) ∧ wr.ownsRow w1.heap.size 22 1 v k (((N.take k).map (fun n : Nat => (n : Int))).map (Value.int .u64)) ∧ wr.ownsRow w1.heap.size 3 1 x k ((Sup.wL.take k).map (Value.int .i64)) ∧ Below w1.heap.size w1 wr)
  case atStart => exact ⟨0, Nat.zero_le _, rfl, rfl, World.ownsRow_nil _ _ _ _, World.ownsRow_nil _ _ _ _, Below.refl _ _⟩
  case round =>
    obtain ⟨k, hk, rfl, rfl, hl2, hx2, hB⟩ := hrel
    have hBs := hB.size
    by_cases hlt : k < 11
    · have hBr : Below w.heap.size w wr := HB1.out.trans (hB.mono (Nat.le_of_lt HL1.out.1))
      have hCr : ∀ j, j < 11 → wr.cell? ⟨w.heap.size, j, none⟩ = C[j]? := below_cells HC1.out HL1.out.1 hB
      have hPr : wr.heap[w.heap.size + 1]? = some (.cells (partC w.heap.size) 89 (0, 0)) := (hB.block _ HL1.out.2).trans HP1.out
      have cA : wr.cell? ⟨w.heap.size + 1, k * 2, none⟩ = some (partI w.heap.size k) := by rw [Go.Joins.cell_of_block hPr]; exact partC_iface _ k hlt
      have cB : wr.cell? ⟨w.heap.size + 1, k * 2 + 1, none⟩ = some (.int .i64 (Sup.wL.getD k 0)) := by rw [Go.Joins.cell_of_block hPr]; exact partC_wid _ k hlt
      obtain ⟨x1, x8⟩ := wL_small k hlt
      obtain ⟨x, hx⟩ : ∃ x, Sup.wL.getD k 0 = x := ⟨_, rfl⟩
      have HNX : Hid (N.take (k + 1) = N.take k ++ [N.getD k 0]) := take_next N k 0 (by omega)
      have HWX : Hid (Sup.wL.take (k + 1) = Sup.wL.take k ++ [x]) := by show _ = _; rw [← hx]; exact take_next Sup.wL k 0 hlt
      obtain ⟨n, hn⟩ : ∃ n, N.getD k 0 = n := ⟨_, rfl⟩
      have hn64 := HLT k
      rw [hn] at hn64 HNX
      rw [hx] at cB x1 x8
      have hT := fun W h => HT.out w.heap.size x W h k hlt
      rw [hn] at hT
      obtain ⟨T, V, hpi⟩ := partI_form w.heap.size k
      rw [hpi] at cA hT
      have HCr : Hid _ := hCr
      have ltw : w.heap.size < wr.heap.size := Nat.lt_of_lt_of_le HL1.out.1 hBs
      clear hx hn hpi hPr hBr hCr
      go_wp2_with fail
      refine (hT _ (below_cells (B := wr.heap.size) HCr.out ltw ((Below.refl _ _).alloc (Nat.le_refl _) _))).mono ?_
      rintro e we ⟨rfl, hbe⟩
      have hl2e := ownsRow_below (hl2.alloc _) hbe
      have hx2e := ownsRow_below (hx2.alloc _) hbe
      have hBe : Below w1.heap.size w1 we := hB.trans (((Below.refl wr.heap.size wr).alloc (Nat.le_refl _) _).mono hBs |>.trans (hbe.mono (by rw [World.size_alloc]; omega)))
      have hX : we.heap[wr.heap.size]? = some (.cells #[.iface T V, .int .i64 x] 89 (0, 0)) := (hbe.block _ (by rw [World.size_alloc]; exact Nat.lt_succ_self _)).trans (heap_new wr _)
      have cX := Go.Joins.cell_of_block hX 1
      have cX : we.cell? ⟨wr.heap.size, 1, none⟩ = some (.int .i64 x) := cX
      have hBse := hBe.size
      have lte : wr.heap.size < we.heap.size := World.block_lt_of_cell? we _ cX
      have HBe : Hid (Below w1.heap.size w1 we) := hBe
      clear hbe hl2 hx2 hB hT cA cB hBe
      go_wp2_with (first | (at_builtin; refine wpList_append_own _ rfl _ _ 62 rfl w1.heap.size 22 i1 (.int .u64 0) 1 8 Try.underlying62 hj hy0 hy1 hy2 rfl (by decide) u2 k (((N.take k).map (fun n : Nat => (n : Int))).map (Value.int .u64)) rfl (hl2e.alloc _) ⟨we.heap.size, 0, none⟩ 1 1 [.int .u64 (n : Nat)] rfl rfl (cell_one_new _ _ _) (by simp [Value.oneCell']) (by unfold maxLen; omega) (by omega) (by simp; omega) ?_; intro vl wl hl' gl _; obtain ⟨gl', cl', rfl⟩ := ownsRow_succ hl'; have hs1 := ownsRow_across hx2e hl2e (by decide) gl; have bl := below_append hl2e hBse gl; have bls := (HBe.out.trans bl).size; have hX1 := block_across hl2e hX (by decide) gl; have cX1 : wl.cell? ⟨wr.heap.size, 1, none⟩ = some (.int .i64 x) := Go.Joins.cell_of_block hX1 1) | (at_builtin; refine wpList_append_own _ rfl _ _ 63 rfl w1.heap.size 3 i0 (.int .i64 0) 1 8 Try.underlying63 hi hz0 hz1 hz2 rfl (by decide) u3 k ((Sup.wL.take k).map (Value.int .i64)) rfl (hs1.alloc _) ⟨wl.heap.size, 0, none⟩ 1 1 [.int .i64 x] rfl rfl (cell_one_new _ _ _) (by simp [Value.oneCell']) (by unfold maxLen; omega) (by omega) (by simp; omega) ?_; intro vx wx hs' gx _; obtain ⟨gx', cx', rfl⟩ := ownsRow_succ hs'; have hl3 := ownsRow_across hl' hs1 (by decide) gx; have bx := below_append hs1 bls gx))
      go_roundg (11 - (k + 1))
      case measure => omega
      case rel =>
        exact ⟨k + 1, by omega, rfl, by go_num, by rw [HNX.out, ← natCast_snoc, ← map_snoc]; exact hl3, by rw [HWX.out, ← map_snoc]; exact hs', (HBe.out.trans bl).trans bx⟩
    · have hke : k = 11 := by omega
      subst hke
      have eN : N.take 11 = N := by rw [← HNL]; exact List.take_length
      have eW : Sup.wL.take 11 = Sup.wL := rfl
      rw [eN] at hl2
      rw [eW] at hx2
      obtain ⟨av, cv, rfl, rv, _⟩ := RowI.of_owns hl2
      obtain ⟨ax, cx, rfl, rx, _⟩ := RowI.of_owns hx2
      have rv' : RowI .u64 wr av 11 (fun j => ((N.getD j 0 : Nat) : Int)) := rv.mono (Nat.le_refl _) fun j _ => natCast_getD N j
      have HR : Hid _ := (⟨rv', rx, HB1.out.trans (hB.mono (Nat.le_of_lt HL1.out.1))⟩ : _ ∧ _ ∧ Below w.heap.size w wr)
      clear rv rv' rx hl2 hx2 hB eN eW
      go_wp2
      go_ret2
      exact ⟨av, cv, ax, cx, rfl, HR.out⟩
end Go.Proofs.Ytgkhnfchohcjeaa
