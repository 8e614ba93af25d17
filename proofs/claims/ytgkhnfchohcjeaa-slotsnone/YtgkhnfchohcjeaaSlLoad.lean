/- The walk of slots' Load: the newer superblock of a drive. -/
import Derived.Test.YtgkhnfchohcjeaaSlBoth
import Derived.BigQuiet
namespace Go.Proofs.Ytgkhnfchohcjeaa
open Go.RowKit

set_option maxRecDepth 100000 in
set_option maxHeartbeats 1000000 in
theorem newer_yes (w : World) (k : Nat) (nb fb : Nat) (hn : w.cell? ⟨nb, 0, none⟩ = some (.int .i64 (-1))) :
    Calls Try.prog 20 #[.int .i64 (k : Nat), .pointer (some ⟨nb, 0, none⟩), .pointer (some ⟨fb, 0, none⟩)] w fun e w' => e = .returned (.bool true) ∧ Below w.heap.size w w' := by
  go_enter Try.func20, Try.ntmps20
  go_wp2_with fail
  go_quiet (fail)
  go_wp2
  go_ret
  exact ⟨rfl, below_drewN (Below.refl _ _) _⟩
set_option maxRecDepth 100000 in
set_option maxHeartbeats 1000000 in
theorem newer_ask (w : World) (k m : Nat) (nb fb : Nat) (hk : (k : Int) < 2) (hm : (m : Int) < 2) (ek em : Nat) (hn : w.cell? ⟨nb, 0, none⟩ = some (.int .i64 (m : Nat))) (h1 : w.cell? ⟨fb, k * 10 + 1, none⟩ = some (.int .u64 (ek : Nat))) (h2 : w.cell? ⟨fb, m * 10 + 1, none⟩ = some (.int .u64 (em : Nat))) :
    Calls Try.prog 20 #[.int .i64 (k : Nat), .pointer (some ⟨nb, 0, none⟩), .pointer (some ⟨fb, 0, none⟩)] w fun e w' => e = .returned (.bool (decide (em < ek))) ∧ Below w.heap.size w w' := by
  have h0 : decide ((m : Int) < 0) = false := by rw [decide_eq_false_iff_not]; omega
  have h3 : decide ((em : Int) < (ek : Int)) = decide (em < ek) := by rw [decide_eq_decide]; omega
  go_enter Try.func20, Try.ntmps20
  go_wp2_with fail
  go_quiet (fail)
  go_wp2
  go_ret
  exact ⟨by first | rfl | simp [h3], below_drewN (Below.refl _ _) _⟩

set_option maxRecDepth 100000 in
set_option maxHeartbeats 1000000 in
theorem load_dead {w : World} {p : Nat} {D : Dr} {F : Nat → Prop} (h : DriveAt w p D F) (hd : D.dead = true) :
    Calls Try.prog 10 #[.pointer (some ⟨p, 0, none⟩)] w fun e w' => e = .returned (.tuple #[.agg (supL Sup.none).toArray, .int .i64 40]) ∧ Below w.heap.size w w' := by
  have hD := dead_any (h.below ((Below.refl w.heap.size w).alloc (Nat.le_refl _) (.cells (supL Sup.none).toArray 30)))
  rw [hd] at hD
  have T : Hid _ := there_new w (supL Sup.none).toArray 30 10 (by decide)
  clear h hd
  go_enter Try.func10, Try.ntmps10
  go_wp2_with fail
  refine hD.mono ?_
  rintro e w1 ⟨rfl, rfl⟩
  go_wp2_with (first
    | (refine wpList_store_mid rfl 30 _ _ rfl w.heap.size 0 (supL Sup.none).toArray rfl rfl T.out info_sup (supL_one _) ?_))
  refine bodyPost_ret (results_cell_slot rfl _ _ w.heap.size 0 (supL Sup.none) _ rfl (World.rangeAt_setCells_same _ _ _ _ T.out) Try.underlying30 rfl info_sup) rfl ⟨rfl, ?_⟩
  exact ((Below.refl _ w).alloc (Nat.le_refl _) _).trans (below_setCells (Nat.le_refl _) _)

/-- where Load keeps what it has found: the superblocks, which ones there are, the newest -/
structure LoadAt (w W : World) (A nb : Nat) (n : Int) (L : List Value) (b0 b1 : Bool) : Prop where
  low : Below w.heap.size w W
  res : W.there w.heap.size 0 10
  sup : W.rangeAt A 0 L
  is0 : W.cell? ⟨A + 1, 0, none⟩ = some (.bool b0)
  is1 : W.cell? ⟨A + 1, 1, none⟩ = some (.bool b1)
  now : W.cell? ⟨nb, 0, none⟩ = some (.int .i64 n)
  free : W.frozen? ⟨nb, 0, none⟩ = false
  lt : w.heap.size < A
  far : A + 2 ≤ nb
  size : nb < W.heap.size
section
variable {w W : World} {A nb : Nat} {n : Int} {L : List Value} {b0 b1 : Bool}
theorem LoadAt.below (h : LoadAt w W A nb n L b0 b1) {W' : World} (hb : Below W.heap.size W W') : LoadAt w W' A nb n L b0 b1 :=
  have hs := h.size
  have hl := h.lt
  have hn := h.far
  ⟨h.low.trans (hb.mono h.low.size), there_below h.res (by omega) hb, range_below h.sup (by omega) hb, (World.cell?_of_block (a := ⟨A + 1, 0, none⟩) (hb.block _ (show A + 1 < W.heap.size by omega))).trans h.is0,
    (World.cell?_of_block (a := ⟨A + 1, 1, none⟩) (hb.block _ (show A + 1 < W.heap.size by omega))).trans h.is1, (World.cell?_of_block (a := ⟨nb, 0, none⟩) (hb.block _ hs)).trans h.now,
    (World.frozen?_of_block (a := ⟨nb, 0, none⟩) (hb.block _ hs)).trans h.free, hl, hn, Nat.lt_of_lt_of_le hs hb.size⟩
theorem LoadAt.set (h : LoadAt w W A nb n L b0 b1) (m : Int) : LoadAt w (W.setCell ⟨nb, 0, none⟩ (.int .i64 m)) A nb m L b0 b1 := by
  have hl := h.lt
  have hn := h.far
  have ne : ∀ b o, b ≠ nb → (⟨nb, 0, none⟩ : Addr) ≠ ⟨b, o, none⟩ := fun b o hb e => hb (congrArg Addr.block e).symm
  refine ⟨h.low.setCell (p := ⟨nb, 0, none⟩) (show w.heap.size ≤ nb by omega) _, fun j hj => ⟨?_, ?_⟩, fun j v hv => ?_, ?_, ?_, World.cell?_setCell_same _ _ _ h.now, by rw [World.frozen?_setCell]; exact h.free, hl, hn, by rw [World.size_setCell]; exact h.size⟩
  · rw [World.cell?_setCell_other _ _ _ _ (ne _ _ (by omega))]; exact (h.res j hj).1
  · rw [World.frozen?_setCell]; exact (h.res j hj).2
  · rw [World.cell?_setCell_other _ _ _ _ (ne _ _ (by omega))]; exact h.sup j v hv
  · rw [World.cell?_setCell_other _ _ _ _ (ne _ _ (by omega))]; exact h.is0
  · rw [World.cell?_setCell_other _ _ _ _ (ne _ _ (by omega))]; exact h.is1
end
/-- the same, ahead of the newest -/
structure LoadBase (w V : World) (A : Nat) (L : List Value) (b0 b1 : Bool) : Prop where
  low : Below w.heap.size w V
  res : V.there w.heap.size 0 10
  sup : V.rangeAt A 0 L
  is0 : V.cell? ⟨A + 1, 0, none⟩ = some (.bool b0)
  is1 : V.cell? ⟨A + 1, 1, none⟩ = some (.bool b1)
  lt : w.heap.size < A
  size : V.heap.size = A + 2
theorem load_base {w w1 : World} {L : List Value} (hL : L.length = 20) (hb : Below w.heap.size w w1) (hr : w1.there w.heap.size 0 10) (hlt : w.heap.size < w1.heap.size) (b0 b1 : Bool) (C E : Array Value) (hC : C.size = 20) (hE : E.size = 2) (t u : TypeId) :
    LoadBase w ((((w1.alloc (.cells C t)).alloc (.cells E u)).setCells w1.heap.size 0 L).setCells (w1.heap.size + 1) 0 [.bool b0, .bool b1]) w1.heap.size L b0 b1 := by
  obtain ⟨s1, s2, s3, s4⟩ := both_start w1 C E t u hC hE
  have hsz : ((w1.alloc (.cells C t)).alloc (.cells E u)).heap.size = w1.heap.size + 1 + 1 := by rw [World.size_alloc, World.size_alloc]
  obtain ⟨W, hW⟩ : ∃ W, W = (w1.alloc (.cells C t)).alloc (.cells E u) := ⟨_, rfl⟩
  rw [← hW] at s1 s2 s3 s4 hsz ⊢
  have r1 := World.rangeAt_setCells_same W w1.heap.size 0 L (by rw [hL]; exact s3)
  have t1 := World.there_setCells s4 w1.heap.size 0 L
  have r2 := World.rangeAt_setCells_apart r1 (w1.heap.size + 1) 0 [.bool b0, .bool b1] (.inl (by omega))
  have r3 := World.rangeAt_setCells_same (W.setCells w1.heap.size 0 L) (w1.heap.size + 1) 0 [.bool b0, .bool b1] t1
  exact ⟨((hb.trans (s1.mono (by omega))).trans (below_setCells (by omega) _)).trans (below_setCells (by omega) _), World.there_setCells (World.there_setCells (there_below hr hlt s1) _ _ _) _ _ _, r2, r3 0 _ rfl, r3 1 _ rfl, hlt, by rw [size_setCells, size_setCells, hsz]⟩
theorem load_start {w V : World} {A : Nat} {L : List Value} {b0 b1 : Bool} (h : LoadBase w V A L b0 b1) (v : TypeId) (n : Int) :
    LoadAt w (V.alloc (.cells #[.int .i64 n] v)) A V.heap.size n L b0 b1 := by
  have sz2 : (V.alloc (.cells #[.int .i64 n] v)).heap.size = V.heap.size + 1 := World.size_alloc ..
  have hl := h.lt
  have hs := h.size
  have cn : (V.alloc (.cells #[.int .i64 n] v)).there V.heap.size 0 1 := there_new V _ v 1 (Nat.le_refl _)
  have bb : ∀ b o, b < V.heap.size → (V.alloc (.cells #[.int .i64 n] v)).cell? ⟨b, o, none⟩ = V.cell? ⟨b, o, none⟩ := fun b o hb => World.cell?_alloc_lt _ _ _ hb
  exact ⟨h.low.alloc (by omega) _, World.there_alloc h.res _, World.rangeAt_alloc h.sup _, (bb _ _ (by omega)).trans h.is0, (bb _ _ (by omega)).trans h.is1, range_new V v [.int .i64 n] 0 _ rfl, (cn 0 (by decide)).2, hl, by omega, by omega⟩
end Go.Proofs.Ytgkhnfchohcjeaa
