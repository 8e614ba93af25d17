/- The walk of slots' Both: what is in the two slots. -/
import Derived.Test.YtgkhnfchohcjeaaSlIn
import Derived.Deep.LoopGhost
namespace Go.Proofs.Ytgkhnfchohcjeaa
open Go.RowKit

theorem info_sup2 : (Try.prog.info? 36).map (·.size) = some 20 := by kernel_rfl
theorem info_bool2 : (Try.prog.info? 37).map (·.size) = some 2 := by kernel_rfl
/-- two of them, one behind the other -/
theorem two_range {w : World} {b : Nat} {l0 l1 : List Value} (h0 : w.rangeAt b 0 l0) (h1 : w.rangeAt b 10 l1) (hl : l0.length = 10) : w.rangeAt b 0 (l0 ++ l1) := fun j v hv => by
  by_cases hj : j < 10
  · rw [List.getElem?_append_left (by omega)] at hv; exact h0 j v hv
  · rw [List.getElem?_append_right (by omega), hl] at hv
    have := h1 (j - 10) v hv
    rwa [show 10 + (j - 10) = 0 + j by omega] at this
theorem two_bools {w : World} {b : Nat} {x y : Value} (h0 : w.cell? ⟨b, 0, none⟩ = some x) (h1 : w.cell? ⟨b, 1, none⟩ = some y) : w.rangeAt b 0 [x, y] := fun j v hv => by
  match j, hv with
  | 0, hv => simp at hv; rw [← hv]; exact h0
  | 1, hv => simp at hv; rw [← hv]; exact h1
/-- behind one round -/
theorem round_world {w : World} {b c k : Nat} {l : List Value} {v : Value} (hb : w.there b 0 20) (hc : w.there c 0 2) (hbc : b ≠ c) (hk : k < 2) (hl : l.length = 10) :
    let w' := (w.setCells b (k * 10) l).setCell ⟨c, k, none⟩ v
    w'.rangeAt b (k * 10) l ∧ w'.cell? ⟨c, k, none⟩ = some v ∧ w'.there b 0 20 ∧ w'.there c 0 2 ∧ (∀ j, j < k → ∀ l', l'.length = 10 → w.rangeAt b (j * 10) l' → w'.rangeAt b (j * 10) l') ∧ (∀ j, j < k → w'.cell? ⟨c, j, none⟩ = w.cell? ⟨c, j, none⟩) := by
  have t1 : w.there b (k * 10) l.length := there_mono hb (by omega) (by omega)
  have r1 := World.rangeAt_setCells_same w b (k * 10) l t1
  have c1 := World.there_setCells hc b (k * 10) l
  have b1 := World.there_setCells hb b (k * 10) l
  have ne : ∀ o, (⟨c, k, none⟩ : Addr) ≠ ⟨b, o, none⟩ := fun o e => hbc (congrArg Addr.block e).symm
  obtain ⟨u, hu⟩ := Option.isSome_iff_exists.1 (c1 k hk).1
  rw [Nat.zero_add] at hu
  refine ⟨fun j x hx => ?_, World.cell?_setCell_same _ _ _ hu, fun j hj => ⟨?_, ?_⟩, fun j hj => ⟨?_, ?_⟩, fun j hj l' hl' h' i x hx => ?_, fun j hj => ?_⟩
  · rw [World.cell?_setCell_other _ _ _ _ (ne _)]; exact r1 j x hx
  · rw [World.cell?_setCell_other _ _ _ _ (ne _)]; exact (b1 j hj).1
  · rw [World.frozen?_setCell]; exact (b1 j hj).2
  · by_cases e : (⟨c, k, none⟩ : Addr) = ⟨c, 0 + j, none⟩
    · rw [← e, World.cell?_setCell_same _ _ _ hu]; rfl
    · rw [World.cell?_setCell_other _ _ _ _ e]; exact (c1 j hj).1
  · rw [World.frozen?_setCell]; exact (c1 j hj).2
  · rw [World.cell?_setCell_other _ _ _ _ (ne _)]
    have hi : i < 10 := by rw [← hl']; exact (List.getElem?_eq_some_iff.1 hx).1
    exact World.rangeAt_setCells_apart h' b (k * 10) l (.inr (.inl (by omega))) i x hx
  · rw [World.cell?_setCell_other _ _ _ _ (fun e => by injection e with _ e2; omega)]
    exact World.cell?_setCells_out b l (k * 10) w ⟨c, j, none⟩ (fun e _ => absurd e.symm hbc)
theorem both_start (w : World) (C E : Array Value) (t u : TypeId) (hC : C.size = 20) (hE : E.size = 2) :
    let w' := (w.alloc (.cells C t)).alloc (.cells E u)
    Below w.heap.size w w' ∧ w.heap.size + 2 ≤ w'.heap.size ∧ w'.there w.heap.size 0 20 ∧ w'.there (w.heap.size + 1) 0 2 := by
  have e : (w.alloc (.cells C t)).heap.size = w.heap.size + 1 := World.size_alloc w (.cells C t)
  have e2 : ((w.alloc (.cells C t)).alloc (.cells E u)).heap.size = w.heap.size + 1 + 1 := by rw [World.size_alloc, e]
  refine ⟨((Below.refl _ w).alloc (Nat.le_refl _) _).alloc (by rw [e]; omega) _, by rw [e2]; exact Nat.le_refl _, World.there_alloc (there_new w C t 20 (by omega)) _, ?_⟩
  rw [← e]
  exact there_new _ E u 2 (by omega)
structure BothAt (w : World) (b c k : Nat) (S : Nat → Su) (B : Nat → Bool) : Prop where
  sup : w.there b 0 20
  is : w.there c 0 2
  at_ : ∀ j, j < k → w.rangeAt b (j * 10) (supL (S j))
  was : ∀ j, j < k → w.cell? ⟨c, j, none⟩ = some (.bool (B j))

set_option maxRecDepth 100000 in
set_option maxHeartbeats 2000000 in
theorem both_any (X : SupSays) {w : World} {p : Nat} {D : Dr} {F : Nat → Prop} (h : DriveAt w p D F) :
    Calls Try.prog 11 #[.pointer (some ⟨p, 0, none⟩)] w fun e w' => e = .returned (.tuple #[.agg (supL (D.slS 0) ++ supL (D.slS 1)).toArray, .agg #[.bool (D.slB 0), .bool (D.slB 1)]]) ∧ Below w.heap.size w w' := by
  have H : Hid (DriveAt w p D F) := h
  have HX : Hid SupSays := X
  have HS1 : Hid _ := World.size_alloc w (.cells (supL Sup.none ++ supL Sup.none).toArray 36)
  have HS2 : Hid _ := World.size_alloc (w.alloc (.cells (supL Sup.none ++ supL Sup.none).toArray 36)) (.cells #[.bool false, .bool false] 37)
  clear h X
  go_enter Try.func11, Try.ntmps11
  go_wp2
  go_loopg [4, 5] 2 (fun gg v i wr => ∃ k : Nat, k ≤ 2 ∧ gg = 2 - k ∧ v = v ∧ i = .int .i64 k ∧ Below w.heap.size w wr ∧ w.heap.size + 2 ≤ wr.heap.size ∧ BothAt wr w.heap.size (w.heap.size + 1) k (fun j => D.slS j) (fun j => D.slB j))
  case atStart =>
    obtain ⟨b1, b2, b3, b4⟩ := both_start w (supL Sup.none ++ supL Sup.none).toArray #[.bool false, .bool false] 36 37 rfl rfl
    exact ⟨0, by omega, rfl, rfl, rfl, b1, b2, b3, b4, fun j hj => absurd hj (Nat.not_lt_zero _), fun j hj => absurd hj (Nat.not_lt_zero _)⟩
  case round =>
    obtain ⟨k, hk, rfl, -, rfl, hb, hsz, hB⟩ := hrel
    by_cases hlt : k < 2
    · have hI := in_any HX.out (H.out.below hb) k
      obtain ⟨l, el, L⟩ := sup_letter (D.slS k)
      obtain ⟨x, ex⟩ : ∃ x, x = D.slB k := ⟨_, rfl⟩
      rw [el, ← ex] at hI
      have HK : Hid (supL (D.slS k) = l ∧ x = D.slB k) := ⟨el, ex⟩
      have HL : Hid _ := L
      have HB : Hid (Below w.heap.size w wr ∧ w.heap.size + 2 ≤ wr.heap.size) := ⟨hb, hsz⟩
      have HA : Hid _ := hB
      have hki : (k : Int) < 2 := by omega
      clear el ex L hb hsz hB
      go_wp2_with fail
      refine hI.mono ?_
      rintro e w2 ⟨rfl, hb2⟩
      have HA2 : Hid (w2.there w.heap.size 0 20 ∧ w2.there (w.heap.size + 1) 0 2) := ⟨there_below HA.out.sup (by have := HB.out.2; omega) hb2, there_below HA.out.is (by have := HB.out.2; omega) hb2⟩
      have T : Hid (w2.there w.heap.size (k * 10) l.toArray.size) := there_mono HA2.out.1 (by omega) (by rw [HL.out.size]; omega)
      have HB2 : Hid (Below wr.heap.size wr w2) := hb2
      have tc := World.there_setCells HA2.out.2 w.heap.size (k * 10) l k hlt
      rw [Nat.zero_add] at tc
      obtain ⟨tc1, tf⟩ := tc
      obtain ⟨u, tu⟩ := Option.isSome_iff_exists.1 tc1
      clear hI hb2 tc1
      go_wp2_with (first
        | (refine wpList_store_mid rfl 30 _ _ rfl w.heap.size (k * 10) l.toArray rfl rfl T.out HL.out.infoA HL.out.one ?_; change wpList _ _ _ _ _ (World.setCells _ _ _ l)))
      go_roundg (2 - (k + 1))
      case rel =>
        obtain ⟨f1, f2, f3, f4, f5, f6⟩ := round_world (l := l) (v := .bool x) HA2.out.1 HA2.out.2 (show w.heap.size ≠ w.heap.size + 1 by omega) hlt HL.out.len
        have hsz : ((w2.setCells w.heap.size (k * 10) l).setCell ⟨w.heap.size + 1, k, none⟩ (.bool x)).heap.size = w2.heap.size := by rw [World.size_setCell, size_setCells]
        refine ⟨k + 1, by omega, rfl, trivial, by go_num, ?_, by rw [hsz]; exact Nat.le_trans HB.out.2 HB2.out.size, f3, f4, fun j hj => ?_, fun j hj => ?_⟩
        · exact ((HB.out.1.trans (HB2.out.mono (by have := HB.out.2; omega))).trans (below_setCells (Nat.le_refl _) _)).setCell (p := ⟨w.heap.size + 1, k, none⟩) (Nat.le_succ _) _
        · by_cases e : j = k
          · subst e; rw [HK.out.1]; exact f1
          · exact f5 j (by omega) _ (supL_len _) (range_below (HA.out.at_ j (by omega)) (by have := HB.out.2; omega) HB2.out)
        · by_cases e : j = k
          · subst e; rw [← HK.out.2]; exact f2
          · rw [f6 j (by omega)]
            exact (World.cell?_of_block (a := ⟨w.heap.size + 1, j, none⟩) (HB2.out.block _ (show w.heap.size + 1 < wr.heap.size by have := HB.out.2; omega))).trans (HA.out.was j (by omega))
      case measure => omega
    · have hkk : k = 2 := by omega
      subst hkk
      have HB : Hid (Below w.heap.size w wr) := hb
      have HA : Hid _ := hB
      clear hb hsz hB
      go_wp2
      refine bodyPost_ret (results_cell_cell rfl _ _ w.heap.size 0 (w.heap.size + 1) 0 (supL (D.slS 0) ++ supL (D.slS 1)) [.bool (D.slB 0), .bool (D.slB 1)] _ _ rfl (two_range (HA.out.at_ 0 (by decide)) (HA.out.at_ 1 (by decide)) rfl) Try.underlying36 rfl info_sup2
        rfl (two_bools (HA.out.was 0 (by decide)) (HA.out.was 1 (by decide))) Try.underlying37 rfl info_bool2) rfl ⟨rfl, HB.out⟩
end Go.Proofs.Ytgkhnfchohcjeaa
