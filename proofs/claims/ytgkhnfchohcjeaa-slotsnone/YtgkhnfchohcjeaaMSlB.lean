/- Several texts in one. The walk of slots' Both: what is in the two slots. The walk of slots' Load: the newer superblock of a drive. -/
import Derived.Test.YtgkhnfchohcjeaaMSlA
import Derived.Deep.LoopGhost
import Derived.BigQuiet
namespace Go.Proofs.Ytgkhnfchohcjeaa
open Go.RowKit

theorem info_sup2 : (Try.prog.info? 36).map (·.size) = some 20 := by kernel_rfl
theorem info_bool2 : (Try.prog.info? 37).map (·.size) = some 2 := by kernel_rfl
/-- two of them, one behind the other -/
theorem two_range {w : World} {b : Nat} {l0 l1 : List Value} (h0 : w.rangeAt b 0 l0) (h1 : w.rangeAt b 10 l1) (hl : l0.length = 10) : w.rangeAt b 0 (l0 ++ l1) := fun j v hv => by
  by_cases hj : j < 10
  · rw [List.getElem?_append_left (by omega)] at hv; exact h0 j v hv
  · rw [List.getElem?_append_right (by omega), hl] at hv
    have := h1 (j - 10) v hv
    rwa [show 10 + (j - 10) = 0 + j by omega] at this
theorem two_bools {w : World} {b : Nat} {x y : Value} (h0 : w.cell? ⟨b, 0, none⟩ = some x) (h1 : w.cell? ⟨b, 1, none⟩ = some y) : w.rangeAt b 0 [x, y] := fun j v hv => by
  match j, hv with
  | 0, hv => simp at hv; rw [← hv]; exact h0
  | 1, hv => simp at hv; rw [← hv]; exact h1
/-- behind one round -/
theorem round_world {w : World} {b c k : Nat} {l : List Value} {v : Value} (hb : w.there b 0 20) (hc : w.there c 0 2) (hbc : b ≠ c) (hk : k < 2) (hl : l.length = 10) :
    let w' := (w.setCells b (k * 10) l).setCell ⟨c, k, none⟩ v
    w'.rangeAt b (k * 10) l ∧ w'.cell? ⟨c, k, none⟩ = some v ∧ w'.there b 0 20 ∧ w'.there c 0 2 ∧ (∀ j, j < k → ∀ l', l'.length = 10 → w.rangeAt b (j * 10) l' → w'.rangeAt b (j * 10) l') ∧ (∀ j, j < k → w'.cell? ⟨c, j, none⟩ = w.cell? ⟨c, j, none⟩) := by
  have t1 : w.there b (k * 10) l.length := there_mono hb (by omega) (by omega)
  have r1 := World.rangeAt_setCells_same w b (k * 10) l t1
  have c1 := World.there_setCells hc b (k * 10) l
  have b1 := World.there_setCells hb b (k * 10) l
  have ne : ∀ o, (⟨c, k, none⟩ : Addr) ≠ ⟨b, o, none⟩ := fun o e => hbc (congrArg Addr.block e).symm
  obtain ⟨u, hu⟩ := Option.isSome_iff_exists.1 (c1 k hk).1
  rw [Nat.zero_add] at hu
  refine ⟨fun j x hx => ?_, World.cell?_setCell_same _ _ _ hu, fun j hj => ⟨?_, ?_⟩, fun j hj => ⟨?_, ?_⟩, fun j hj l' hl' h' i x hx => ?_, fun j hj => ?_⟩
  · rw [World.cell?_setCell_other _ _ _ _ (ne _)]; exact r1 j x hx
  · rw [World.cell?_setCell_other _ _ _ _ (ne _)]; exact (b1 j hj).1
  · rw [World.frozen?_setCell]; exact (b1 j hj).2
  · by_cases e : (⟨c, k, none⟩ : Addr) = ⟨c, 0 + j, none⟩
    · rw [← e, World.cell?_setCell_same _ _ _ hu]; rfl
    · rw [World.cell?_setCell_other _ _ _ _ e]; exact (c1 j hj).1
  · rw [World.frozen?_setCell]; exact (c1 j hj).2
  · rw [World.cell?_setCell_other _ _ _ _ (ne _)]
    have hi : i < 10 := by rw [← hl']; exact (List.getElem?_eq_some_iff.1 hx).1
    exact World.rangeAt_setCells_apart h' b (k * 10) l (.inr (.inl (by omega))) i x hx
  · rw [World.cell?_setCell_other _ _ _ _ (fun e => by injection e with _ e2; omega)]
    exact World.cell?_setCells_out b l (k * 10) w ⟨c, j, none⟩ (fun e _ => absurd e.symm hbc)
theorem both_start (w : World) (C E : Array Value) (t u : TypeId) (hC : C.size = 20) (hE : E.size = 2) :
    let w' := (w.alloc (.cells C t)).alloc (.cells E u)
    Below w.heap.size w w' ∧ w.heap.size + 2 ≤ w'.heap.size ∧ w'.there w.heap.size 0 20 ∧ w'.there (w.heap.size + 1) 0 2 := by
  have e : (w.alloc (.cells C t)).heap.size = w.heap.size + 1 := World.size_alloc w (.cells C t)
  have e2 : ((w.alloc (.cells C t)).alloc (.cells E u)).heap.size = w.heap.size + 1 + 1 := by rw [World.size_alloc, e]
  refine ⟨((Below.refl _ w).alloc (Nat.le_refl _) _).alloc (by rw [e]; omega) _, by rw [e2]; exact Nat.le_refl _, World.there_alloc (there_new w C t 20 (by omega)) _, ?_⟩
  rw [← e]
  exact there_new _ E u 2 (by omega)
structure BothAt (w : World) (b c k : Nat) (S : Nat → Su) (B : Nat → Bool) : Prop where
  sup : w.there b 0 20
  is : w.there c 0 2
  at_ : ∀ j, j < k → w.rangeAt b (j * 10) (supL (S j))
  was : ∀ j, j < k → w.cell? ⟨c, j, none⟩ = some (.bool (B j))

set_option maxRecDepth 100000 in
set_option maxHeartbeats 2000000 in
theorem both_any (X : SupSays) {w : World} {p : Nat} {D : Dr} {F : Nat → Prop} (h : DriveAt w p D F) :
    Calls Try.prog 11 #[.pointer (some ⟨p, 0, none⟩)] w fun e w' => e = .returned (.tuple #[.agg (supL (D.slS 0) ++ supL (D.slS 1)).toArray, .agg #[.bool (D.slB 0), .bool (D.slB 1)]]) ∧ Below w.heap.size w w' := by
  have H : Hid (DriveAt w p D F) := h
  have HX : Hid SupSays := X
  have HS1 : Hid _ := World.size_alloc w (.cells (supL Sup.none ++ supL Sup.none).toArray 36)
  have HS2 : Hid _ := World.size_alloc (w.alloc (.cells (supL Sup.none ++ supL Sup.none).toArray 36)) (.cells #[.bool false, .bool false] 37)
  clear h X
  go_enter Try.func11, Try.ntmps11
  go_wp2
  go_loopg [4, 5] 2 (fun gg v i wr => ∃ k : Nat, k ≤ 2 ∧ gg = 2 - k ∧ v = v ∧ i = .int .i64 k ∧ Below w.heap.size w wr ∧ w.heap.size + 2 ≤ wr.heap.size ∧ BothAt wr w.heap.size (w.heap.size + 1) k (fun j => D.slS j) (fun j => D.slB j))
  case atStart =>
    obtain ⟨b1, b2, b3, b4⟩ := both_start w (supL Sup.none ++ supL Sup.none).toArray #[.bool false, .bool false] 36 37 rfl rfl
    exact ⟨0, by omega, rfl, rfl, rfl, b1, b2, b3, b4, fun j hj => absurd hj (Nat.not_lt_zero _), fun j hj => absurd hj (Nat.not_lt_zero _)⟩
  case round =>
    obtain ⟨k, hk, rfl, -, rfl, hb, hsz, hB⟩ := hrel
    by_cases hlt : k < 2
    · have hI := in_any HX.out (H.out.below hb) k
      obtain ⟨l, el, L⟩ := sup_letter (D.slS k)
      obtain ⟨x, ex⟩ : ∃ x, x = D.slB k := ⟨_, rfl⟩
      rw [el, ← ex] at hI
      have HK : Hid (supL (D.slS k) = l ∧ x = D.slB k) := ⟨el, ex⟩
      have HL : Hid _ := L
      have HB : Hid (Below w.heap.size w wr ∧ w.heap.size + 2 ≤ wr.heap.size) := ⟨hb, hsz⟩
      have HA : Hid _ := hB
      have hki : (k : Int) < 2 := by omega
      clear el ex L hb hsz hB
      go_wp2_with fail
      refine hI.mono ?_
      rintro e w2 ⟨rfl, hb2⟩
      have HA2 : Hid (w2.there w.heap.size 0 20 ∧ w2.there (w.heap.size + 1) 0 2) := ⟨there_below HA.out.sup (by have := HB.out.2; omega) hb2, there_below HA.out.is (by have := HB.out.2; omega) hb2⟩
      have T : Hid (w2.there w.heap.size (k * 10) l.toArray.size) := there_mono HA2.out.1 (by omega) (by rw [HL.out.size]; omega)
      have HB2 : Hid (Below wr.heap.size wr w2) := hb2
      have tc := World.there_setCells HA2.out.2 w.heap.size (k * 10) l k hlt
      rw [Nat.zero_add] at tc
      obtain ⟨tc1, tf⟩ := tc
      obtain ⟨u, tu⟩ := Option.isSome_iff_exists.1 tc1
      clear hI hb2 tc1
      go_wp2_with (first
        | (refine wpList_store_mid rfl 30 _ _ rfl w.heap.size (k * 10) l.toArray rfl rfl T.out HL.out.infoA HL.out.one ?_; change wpList _ _ _ _ _ (World.setCells _ _ _ l)))
      go_roundg (2 - (k + 1))
      case rel =>
        obtain ⟨f1, f2, f3, f4, f5, f6⟩ := round_world (l := l) (v := .bool x) HA2.out.1 HA2.out.2 (show w.heap.size ≠ w.heap.size + 1 by omega) hlt HL.out.len
        have hsz : ((w2.setCells w.heap.size (k * 10) l).setCell ⟨w.heap.size + 1, k, none⟩ (.bool x)).heap.size = w2.heap.size := by rw [World.size_setCell, size_setCells]
        refine ⟨k + 1, by omega, rfl, trivial, by go_num, ?_, by rw [hsz]; exact Nat.le_trans HB.out.2 HB2.out.size, f3, f4, fun j hj => ?_, fun j hj => ?_⟩
        · exact ((HB.out.1.trans (HB2.out.mono (by have := HB.out.2; omega))).trans (below_setCells (Nat.le_refl _) _)).setCell (p := ⟨w.heap.size + 1, k, none⟩) (Nat.le_succ _) _
        · by_cases e : j = k
          · subst e; rw [HK.out.1]; exact f1
          · exact f5 j (by omega) _ (supL_len _) (range_below (HA.out.at_ j (by omega)) (by have := HB.out.2; omega) HB2.out)
        · by_cases e : j = k
          · subst e; rw [← HK.out.2]; exact f2
          · rw [f6 j (by omega)]
            exact (World.cell?_of_block (a := ⟨w.heap.size + 1, j, none⟩) (HB2.out.block _ (show w.heap.size + 1 < wr.heap.size by have := HB.out.2; omega))).trans (HA.out.was j (by omega))
      case measure => omega
    · have hkk : k = 2 := by omega
      subst hkk
      have HB : Hid (Below w.heap.size w wr) := hb
      have HA : Hid _ := hB
      clear hb hsz hB
      go_wp2
      refine bodyPost_ret (results_cell_cell rfl _ _ w.heap.size 0 (w.heap.size + 1) 0 (supL (D.slS 0) ++ supL (D.slS 1)) [.bool (D.slB 0), .bool (D.slB 1)] _ _ rfl (two_range (HA.out.at_ 0 (by decide)) (HA.out.at_ 1 (by decide)) rfl) Try.underlying36 rfl info_sup2
        rfl (two_bools (HA.out.was 0 (by decide)) (HA.out.was 1 (by decide))) Try.underlying37 rfl info_bool2) rfl ⟨rfl, HB.out⟩
end Go.Proofs.Ytgkhnfchohcjeaa

namespace Go.Proofs.Ytgkhnfchohcjeaa
open Go.RowKit

set_option maxRecDepth 100000 in
set_option maxHeartbeats 1000000 in
theorem newer_yes (w : World) (k : Nat) (nb fb : Nat) (hn : w.cell? ⟨nb, 0, none⟩ = some (.int .i64 (-1))) :
    Calls Try.prog 20 #[.int .i64 (k : Nat), .pointer (some ⟨nb, 0, none⟩), .pointer (some ⟨fb, 0, none⟩)] w fun e w' => e = .returned (.bool true) ∧ Below w.heap.size w w' := by
  go_enter Try.func20, Try.ntmps20
  go_wp2_with fail
  go_quiet (fail)
  go_wp2
  go_ret
  exact ⟨rfl, below_drewN (Below.refl _ _) _⟩
set_option maxRecDepth 100000 in
set_option maxHeartbeats 1000000 in
theorem newer_ask (w : World) (k m : Nat) (nb fb : Nat) (hk : (k : Int) < 2) (hm : (m : Int) < 2) (ek em : Nat) (hn : w.cell? ⟨nb, 0, none⟩ = some (.int .i64 (m : Nat))) (h1 : w.cell? ⟨fb, k * 10 + 1, none⟩ = some (.int .u64 (ek : Nat))) (h2 : w.cell? ⟨fb, m * 10 + 1, none⟩ = some (.int .u64 (em : Nat))) :
    Calls Try.prog 20 #[.int .i64 (k : Nat), .pointer (some ⟨nb, 0, none⟩), .pointer (some ⟨fb, 0, none⟩)] w fun e w' => e = .returned (.bool (decide (em < ek))) ∧ Below w.heap.size w w' := by
  have h0 : decide ((m : Int) < 0) = false := by rw [decide_eq_false_iff_not]; omega
  have h3 : decide ((em : Int) < (ek : Int)) = decide (em < ek) := by rw [decide_eq_decide]; omega
  go_enter Try.func20, Try.ntmps20
  go_wp2_with fail
  go_quiet (fail)
  go_wp2
  go_ret
  exact ⟨by first | rfl | simp [h3], below_drewN (Below.refl _ _) _⟩

set_option maxRecDepth 100000 in
set_option maxHeartbeats 1000000 in
theorem load_dead {w : World} {p : Nat} {D : Dr} {F : Nat → Prop} (h : DriveAt w p D F) (hd : D.dead = true) :
    Calls Try.prog 10 #[.pointer (some ⟨p, 0, none⟩)] w fun e w' => e = .returned (.tuple #[.agg (supL Sup.none).toArray, .int .i64 40]) ∧ Below w.heap.size w w' := by
  have hD := dead_any (h.below ((Below.refl w.heap.size w).alloc (Nat.le_refl _) (.cells (supL Sup.none).toArray 30)))
  rw [hd] at hD
  have T : Hid _ := there_new w (supL Sup.none).toArray 30 10 (by decide)
  clear h hd
  go_enter Try.func10, Try.ntmps10
  go_wp2_with fail
  refine hD.mono ?_
  rintro e w1 ⟨rfl, rfl⟩
  go_wp2_with (first
    | (refine wpList_store_mid rfl 30 _ _ rfl w.heap.size 0 (supL Sup.none).toArray rfl rfl T.out info_sup (supL_one _) ?_))
  refine bodyPost_ret (results_cell_slot rfl _ _ w.heap.size 0 (supL Sup.none) _ rfl (World.rangeAt_setCells_same _ _ _ _ T.out) Try.underlying30 rfl info_sup) rfl ⟨rfl, ?_⟩
  exact ((Below.refl _ w).alloc (Nat.le_refl _) _).trans (below_setCells (Nat.le_refl _) _)

/-- where Load keeps what it has found: the superblocks, which ones there are, the newest -/
structure LoadAt (w W : World) (A nb : Nat) (n : Int) (L : List Value) (b0 b1 : Bool) : Prop where
  low : Below w.heap.size w W
  res : W.there w.heap.size 0 10
  sup : W.rangeAt A 0 L
  is0 : W.cell? ⟨A + 1, 0, none⟩ = some (.bool b0)
  is1 : W.cell? ⟨A + 1, 1, none⟩ = some (.bool b1)
  now : W.cell? ⟨nb, 0, none⟩ = some (.int .i64 n)
  free : W.frozen? ⟨nb, 0, none⟩ = false
  lt : w.heap.size < A
  far : A + 2 ≤ nb
  size : nb < W.heap.size
section
variable {w W : World} {A nb : Nat} {n : Int} {L : List Value} {b0 b1 : Bool}
theorem LoadAt.below (h : LoadAt w W A nb n L b0 b1) {W' : World} (hb : Below W.heap.size W W') : LoadAt w W' A nb n L b0 b1 :=
  have hs := h.size
  have hl := h.lt
  have hn := h.far
  ⟨h.low.trans (hb.mono h.low.size), there_below h.res (by omega) hb, range_below h.sup (by omega) hb, (World.cell?_of_block (a := ⟨A + 1, 0, none⟩) (hb.block _ (show A + 1 < W.heap.size by omega))).trans h.is0,
    (World.cell?_of_block (a := ⟨A + 1, 1, none⟩) (hb.block _ (show A + 1 < W.heap.size by omega))).trans h.is1, (World.cell?_of_block (a := ⟨nb, 0, none⟩) (hb.block _ hs)).trans h.now,
    (World.frozen?_of_block (a := ⟨nb, 0, none⟩) (hb.block _ hs)).trans h.free, hl, hn, Nat.lt_of_lt_of_le hs hb.size⟩
theorem LoadAt.set (h : LoadAt w W A nb n L b0 b1) (m : Int) : LoadAt w (W.setCell ⟨nb, 0, none⟩ (.int .i64 m)) A nb m L b0 b1 := by
  have hl := h.lt
  have hn := h.far
  have ne : ∀ b o, b ≠ nb → (⟨nb, 0, none⟩ : Addr) ≠ ⟨b, o, none⟩ := fun b o hb e => hb (congrArg Addr.block e).symm
  refine ⟨h.low.setCell (p := ⟨nb, 0, none⟩) (show w.heap.size ≤ nb by omega) _, fun j hj => ⟨?_, ?_⟩, fun j v hv => ?_, ?_, ?_, World.cell?_setCell_same _ _ _ h.now, by rw [World.frozen?_setCell]; exact h.free, hl, hn, by rw [World.size_setCell]; exact h.size⟩
  · rw [World.cell?_setCell_other _ _ _ _ (ne _ _ (by omega))]; exact (h.res j hj).1
  · rw [World.frozen?_setCell]; exact (h.res j hj).2
  · rw [World.cell?_setCell_other _ _ _ _ (ne _ _ (by omega))]; exact h.sup j v hv
  · rw [World.cell?_setCell_other _ _ _ _ (ne _ _ (by omega))]; exact h.is0
  · rw [World.cell?_setCell_other _ _ _ _ (ne _ _ (by omega))]; exact h.is1
end
/-- the same, ahead of the newest -/
structure LoadBase (w V : World) (A : Nat) (L : List Value) (b0 b1 : Bool) : Prop where
  low : Below w.heap.size w V
  res : V.there w.heap.size 0 10
  sup : V.rangeAt A 0 L
  is0 : V.cell? ⟨A + 1, 0, none⟩ = some (.bool b0)
  is1 : V.cell? ⟨A + 1, 1, none⟩ = some (.bool b1)
  lt : w.heap.size < A
  size : V.heap.size = A + 2
theorem load_base {w w1 : World} {L : List Value} (hL : L.length = 20) (hb : Below w.heap.size w w1) (hr : w1.there w.heap.size 0 10) (hlt : w.heap.size < w1.heap.size) (b0 b1 : Bool) (C E : Array Value) (hC : C.size = 20) (hE : E.size = 2) (t u : TypeId) :
    LoadBase w ((((w1.alloc (.cells C t)).alloc (.cells E u)).setCells w1.heap.size 0 L).setCells (w1.heap.size + 1) 0 [.bool b0, .bool b1]) w1.heap.size L b0 b1 := by
  obtain ⟨s1, s2, s3, s4⟩ := both_start w1 C E t u hC hE
  have hsz : ((w1.alloc (.cells C t)).alloc (.cells E u)).heap.size = w1.heap.size + 1 + 1 := by rw [World.size_alloc, World.size_alloc]
  obtain ⟨W, hW⟩ : ∃ W, W = (w1.alloc (.cells C t)).alloc (.cells E u) := ⟨_, rfl⟩
  rw [← hW] at s1 s2 s3 s4 hsz ⊢
  have r1 := World.rangeAt_setCells_same W w1.heap.size 0 L (by rw [hL]; exact s3)
  have t1 := World.there_setCells s4 w1.heap.size 0 L
  have r2 := World.rangeAt_setCells_apart r1 (w1.heap.size + 1) 0 [.bool b0, .bool b1] (.inl (by omega))
  have r3 := World.rangeAt_setCells_same (W.setCells w1.heap.size 0 L) (w1.heap.size + 1) 0 [.bool b0, .bool b1] t1
  exact ⟨((hb.trans (s1.mono (by omega))).trans (below_setCells (by omega) _)).trans (below_setCells (by omega) _), World.there_setCells (World.there_setCells (there_below hr hlt s1) _ _ _) _ _ _, r2, r3 0 _ rfl, r3 1 _ rfl, hlt, by rw [size_setCells, size_setCells, hsz]⟩
theorem load_start {w V : World} {A : Nat} {L : List Value} {b0 b1 : Bool} (h : LoadBase w V A L b0 b1) (v : TypeId) (n : Int) :
    LoadAt w (V.alloc (.cells #[.int .i64 n] v)) A V.heap.size n L b0 b1 := by
  have sz2 : (V.alloc (.cells #[.int .i64 n] v)).heap.size = V.heap.size + 1 := World.size_alloc ..
  have hl := h.lt
  have hs := h.size
  have cn : (V.alloc (.cells #[.int .i64 n] v)).there V.heap.size 0 1 := there_new V _ v 1 (Nat.le_refl _)
  have bb : ∀ b o, b < V.heap.size → (V.alloc (.cells #[.int .i64 n] v)).cell? ⟨b, o, none⟩ = V.cell? ⟨b, o, none⟩ := fun b o hb => World.cell?_alloc_lt _ _ _ hb
  exact ⟨h.low.alloc (by omega) _, World.there_alloc h.res _, World.rangeAt_alloc h.sup _, (bb _ _ (by omega)).trans h.is0, (bb _ _ (by omega)).trans h.is1, range_new V v [.int .i64 n] 0 _ rfl, (cn 0 (by decide)).2, hl, by omega, by omega⟩
end Go.Proofs.Ytgkhnfchohcjeaa
