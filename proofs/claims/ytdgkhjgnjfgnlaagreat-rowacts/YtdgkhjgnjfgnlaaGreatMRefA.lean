/- Several texts in one. The document's own drive in memory: its block, and three rows that grow by append through its fields. The walk of the document's own New, at five sectors. The walks of the document's own may, off, use, Write and Flush, as DriveDead begins with them. The walks of the document's own Crash, where no sector has a write; Write, keep and Flush, as DriveDead begins with them. The walks of the document's own keep and Flush, as DriveDead begins with them. The document's own drive, whatever it holds, told by the same plain drive as the program's: where it lies; what may, Read and Spoil answer. Its power never goes. -/
import Derived.Test.YtdgkhjgnjfgnlaaGreatMDrvD
import Derived.Deep.LoopGhost
import Derived.Test.YtdgkhjgnjfgnlaaGreatDrvSettle
import Derived.Test.YtdgkhjgnjfgnlaaGreatMDrvC
namespace Go.Proofs.YtdgkhjgnjfgnlaaGreat
open Go.RowKit Go.Maps

structure RefIn (w : World) (B rp : Nat) (vS vW vP : Value) (S : List ByteArray) (Wl : List Value) (Pl : List Bool) (gone cut : Bool) (left : Int) : Prop where
  self : w.heap[rp]? = some (.cells #[vS, vW, vP, .bool gone, .bool cut, .int .i64 left] 73 (0, 0))
  lo : B ≤ rp
  safes : w.ownsRow B 9 1 vS S.length (S.map Value.string)
  writes : w.ownsRow B 40 1 vW Wl.length Wl
  spoilt : w.ownsRow B 4 1 vP Pl.length (Pl.map Value.bool)
def RFoot (rp : Nat) (vS vW vP : Value) (k : Nat) : Prop := k = rp ∨ vS.ownBlock = some k ∨ vW.ownBlock = some k ∨ vP.ownBlock = some k

section
variable {w : World} {B rp : Nat} {vS vW vP : Value} {S : List ByteArray} {Wl : List Value} {Pl : List Bool} {gone cut : Bool} {left : Int}
theorem row_type {w : World} {b t s n : Nat} {v : Value} {xs : List Value} (h : w.ownsRow b t s v n xs) {k : Nat} (hk : v.ownBlock = some k) : ∃ cur, w.heap[k]? = some (.cells cur t (0, 0)) := by
  rcases h.2 with ⟨rfl, _⟩ | ⟨g, cap, cur, rfl, _, hg, _⟩
  · simp [Value.ownBlock] at hk
  · simp [Value.ownBlock] at hk; subst hk; exact ⟨cur, hg⟩
theorem RefIn.lt (h : RefIn w B rp vS vW vP S Wl Pl gone cut left) : ∀ k, RFoot rp vS vW vP k → B ≤ k ∧ k < w.heap.size := by
  intro k hk
  rcases hk with rfl | hk | hk | hk
  · exact ⟨h.lo, (Array.getElem?_eq_some_iff.1 h.self).1⟩
  · exact h.safes.lt k hk
  · exact h.writes.lt k hk
  · exact h.spoilt.lt k hk
theorem RefIn.neS (h : RefIn w B rp vS vW vP S Wl Pl gone cut left) : vS.ownBlock ≠ some rp := fun e => by
  obtain ⟨cur, hc⟩ := row_type h.safes e; have := h.self; rw [hc] at this; simp at this
theorem RefIn.neW (h : RefIn w B rp vS vW vP S Wl Pl gone cut left) : vW.ownBlock ≠ some rp := fun e => by
  obtain ⟨cur, hc⟩ := row_type h.writes e; have := h.self; rw [hc] at this; simp at this
theorem RefIn.neP (h : RefIn w B rp vS vW vP S Wl Pl gone cut left) : vP.ownBlock ≠ some rp := fun e => by
  obtain ⟨cur, hc⟩ := row_type h.spoilt e; have := h.self; rw [hc] at this; simp at this
theorem RefIn.cell (h : RefIn w B rp vS vW vP S Wl Pl gone cut left) : w.cell? ⟨rp, 0, none⟩ = some vS ∧ w.cell? ⟨rp, 1, none⟩ = some vW ∧ w.cell? ⟨rp, 2, none⟩ = some vP ∧ w.cell? ⟨rp, 3, none⟩ = some (.bool gone) ∧ w.cell? ⟨rp, 4, none⟩ = some (.bool cut) ∧ w.cell? ⟨rp, 5, none⟩ = some (.int .i64 left) ∧ ∀ j, w.frozen? ⟨rp, j, none⟩ = false :=
  ⟨by rw [cell_of_row w rp 0 _ _ _ h.self]; rfl, by rw [cell_of_row w rp 1 _ _ _ h.self]; rfl, by rw [cell_of_row w rp 2 _ _ _ h.self]; rfl, by rw [cell_of_row w rp 3 _ _ _ h.self]; rfl,
   by rw [cell_of_row w rp 4 _ _ _ h.self]; rfl, by rw [cell_of_row w rp 5 _ _ _ h.self]; rfl, fun j => frozen_of_row w rp j _ _ h.self⟩
theorem RefIn.only (h : RefIn w B rp vS vW vP S Wl Pl gone cut left) {w' : World} {G : Nat → Prop} (hg : Only G w w') (hn : ∀ k, RFoot rp vS vW vP k → ¬ G k) : RefIn w' B rp vS vW vP S Wl Pl gone cut left :=
  ⟨(hg.block rp (h.lt rp (.inl rfl)).2 (hn rp (.inl rfl))).trans h.self, h.lo, ownsRow_only hg h.safes (fun k hk => hn k (.inr (.inl hk))), ownsRow_only hg h.writes (fun k hk => hn k (.inr (.inr (.inl hk)))), ownsRow_only hg h.spoilt (fun k hk => hn k (.inr (.inr (.inr hk))))⟩
theorem RefIn.alloc (h : RefIn w B rp vS vW vP S Wl Pl gone cut left) (o : Obj) : RefIn (w.alloc o) B rp vS vW vP S Wl Pl gone cut left := h.only (Only.alloc (fun _ => False) w o) (fun _ _ hf => hf)
/-- the drive's own cells, turned -/
theorem RefIn.turn (h : RefIn w B rp vS vW vP S Wl Pl gone cut left) {w' : World} {gone' cut' : Bool} {left' : Int} (hg : Only (One rp) w w')
    (hs : w'.heap[rp]? = some (.cells #[vS, vW, vP, .bool gone', .bool cut', .int .i64 left'] 73 (0, 0))) : RefIn w' B rp vS vW vP S Wl Pl gone' cut' left' :=
  ⟨hs, h.lo, ownsRow_only hg h.safes (fun k hk e => h.neS (by rw [hk]; exact congrArg some e)), ownsRow_only hg h.writes (fun k hk e => h.neW (by rw [hk]; exact congrArg some e)), ownsRow_only hg h.spoilt (fun k hk e => h.neP (by rw [hk]; exact congrArg some e))⟩
end
theorem append_ne {w w1 : World} {v : Value} {tmp : Obj} (hg : (w.alloc tmp).grownBy w1 v.ownBlock) {k : Nat} (hk : k < w.heap.size) (hn : v.ownBlock ≠ some k) : w1.heap[k]? = w.heap[k]? :=
  (hg.block k (by simp; omega) (fun e => hn e.symm)).trans (Below.heap_alloc w tmp k hk)
section
variable {w w1 : World} {B rp : Nat} {vS vW vP v' : Value} {S : List ByteArray} {Wl : List Value} {Pl : List Bool} {gone cut : Bool} {left : Int} {tmp : Obj}
theorem RefIn.grow0 (h : RefIn w B rp vS vW vP S Wl Pl gone cut left) {x : ByteArray} (ho : w1.ownsRow B 9 1 v' (S.length + 1) (S.map Value.string ++ [.string x])) (hg : (w.alloc tmp).grownBy w1 vS.ownBlock) :
    RefIn (w1.setCell ⟨rp, 0, none⟩ v') B rp v' vW vP (S ++ [x]) Wl Pl gone cut left ∧ w1.heap[rp]? = w.heap[rp]? := by
  have hrp := append_ne hg (h.lt rp (.inl rfl)).2 h.neS
  have o : Only (One rp) w1 (w1.setCell ⟨rp, 0, none⟩ v') := Only.setCell _ w1 ⟨rp, 0, none⟩ _ rfl
  have nev : v'.ownBlock ≠ some rp := fun e => by
    obtain ⟨cur, hc⟩ := row_type ho e; rw [hrp, h.self] at hc; simp at hc
  refine ⟨⟨?_, h.lo, ?_, ?_, ?_⟩, hrp⟩
  · rw [heap_setCell_same w1 rp 0 _ _ _ (hrp.trans h.self)]; rfl
  · rw [List.length_append, List.map_append]
    exact ownsRow_only o ho (fun k hk e => nev (by rw [hk]; exact congrArg some e))
  · exact ownsRow_only o (ownsRow_across h.writes h.safes (by decide) hg) (fun k hk e => h.neW (by rw [hk]; exact congrArg some e))
  · exact ownsRow_only o (ownsRow_across h.spoilt h.safes (by decide) hg) (fun k hk e => h.neP (by rw [hk]; exact congrArg some e))
theorem RefIn.grow1 (h : RefIn w B rp vS vW vP S Wl Pl gone cut left) {x : Value} (ho : w1.ownsRow B 40 1 v' (Wl.length + 1) (Wl ++ [x])) (hg : (w.alloc tmp).grownBy w1 vW.ownBlock) :
    RefIn (w1.setCell ⟨rp, 1, none⟩ v') B rp vS v' vP S (Wl ++ [x]) Pl gone cut left ∧ w1.heap[rp]? = w.heap[rp]? := by
  have hrp := append_ne hg (h.lt rp (.inl rfl)).2 h.neW
  have o : Only (One rp) w1 (w1.setCell ⟨rp, 1, none⟩ v') := Only.setCell _ w1 ⟨rp, 1, none⟩ _ rfl
  have nev : v'.ownBlock ≠ some rp := fun e => by
    obtain ⟨cur, hc⟩ := row_type ho e; rw [hrp, h.self] at hc; simp at hc
  refine ⟨⟨?_, h.lo, ?_, ?_, ?_⟩, hrp⟩
  · rw [heap_setCell_same w1 rp 1 _ _ _ (hrp.trans h.self)]; rfl
  · exact ownsRow_only o (ownsRow_across h.safes h.writes (by decide) hg) (fun k hk e => h.neS (by rw [hk]; exact congrArg some e))
  · rw [List.length_append]
    exact ownsRow_only o ho (fun k hk e => nev (by rw [hk]; exact congrArg some e))
  · exact ownsRow_only o (ownsRow_across h.spoilt h.writes (by decide) hg) (fun k hk e => h.neP (by rw [hk]; exact congrArg some e))
theorem RefIn.grow2 (h : RefIn w B rp vS vW vP S Wl Pl gone cut left) {x : Bool} (ho : w1.ownsRow B 4 1 v' (Pl.length + 1) (Pl.map Value.bool ++ [.bool x])) (hg : (w.alloc tmp).grownBy w1 vP.ownBlock) :
    RefIn (w1.setCell ⟨rp, 2, none⟩ v') B rp vS vW v' S Wl (Pl ++ [x]) gone cut left ∧ w1.heap[rp]? = w.heap[rp]? := by
  have hrp := append_ne hg (h.lt rp (.inl rfl)).2 h.neP
  have o : Only (One rp) w1 (w1.setCell ⟨rp, 2, none⟩ v') := Only.setCell _ w1 ⟨rp, 2, none⟩ _ rfl
  have nev : v'.ownBlock ≠ some rp := fun e => by
    obtain ⟨cur, hc⟩ := row_type ho e; rw [hrp, h.self] at hc; simp at hc
  refine ⟨⟨?_, h.lo, ?_, ?_, ?_⟩, hrp⟩
  · rw [heap_setCell_same w1 rp 2 _ _ _ (hrp.trans h.self)]; rfl
  · exact ownsRow_only o (ownsRow_across h.safes h.spoilt (by decide) hg) (fun k hk e => h.neS (by rw [hk]; exact congrArg some e))
  · exact ownsRow_only o (ownsRow_across h.writes h.spoilt (by decide) hg) (fun k hk e => h.neW (by rw [hk]; exact congrArg some e))
  · rw [List.length_append, List.map_append]
    exact ownsRow_only o ho (fun k hk e => nev (by rw [hk]; exact congrArg some e))
end
end Go.Proofs.YtdgkhjgnjfgnlaaGreat

namespace Go.Proofs.YtdgkhjgnjfgnlaaGreat
open Go.RowKit Go.Maps

def nilS : Value := .slice none 0 0
theorem info_str : (Tryz.prog.info? 9).map (fun i => (i.zero, i.size, i.bytes)) = some (some (.string ByteArray.empty), 1, 16) := by kernel_rfl
theorem info_strs : (Tryz.prog.info? 40).map (fun i => (i.zero, i.size, i.bytes)) = some (some (.slice none 0 0), 1, 24) := by kernel_rfl

set_option maxRecDepth 100000 in
set_option maxHeartbeats 2000000 in
theorem refNew5 (w : World) : Calls Tryz.prog 33 #[.int .i64 5] w fun e w' => ∃ rp vS vW vP, e = .returned (.pointer (some ⟨rp, 0, none⟩)) ∧
    RefIn w' w.heap.size rp vS vW vP (List.replicate 5 blankB) (List.replicate 5 nilS) (List.replicate 5 false) false false 0 ∧ Below w.heap.size w w' := by
  obtain ⟨iS, hS0, hS1, hS2, hS3⟩ := info_parts info_str
  obtain ⟨iW, hW0, hW1, hW2', hW3⟩ := info_parts info_strs
  obtain ⟨iP, hP0, hP1, hP2, hP3⟩ := info_parts info_bool3
  have hbl := blank_any
  obtain ⟨bk, ebk⟩ : ∃ bk, bk = blankB := ⟨_, rfl⟩
  rw [← ebk] at hbl ⊢
  clear ebk
  go_enter Tryz.func33, Tryz.ntmps33
  go_wp2_with (go_at_call 61; refine (hbl _).mono ?_; rintro e w' ⟨rfl, rfl⟩)
  go_loopg [5] 5 (fun g i wr => ∃ (k : Nat) (vS vW vP : Value), k ≤ 5 ∧ g = 5 - k ∧ i = .int .i64 k ∧ RefIn wr w.heap.size w.heap.size vS vW vP (List.replicate k bk) (List.replicate k nilS) (List.replicate k false) false false 0 ∧ Below w.heap.size w wr)
  case atStart =>
    refine ⟨0, .slice none 0 0, .slice none 0 0, .slice none 0 0, Nat.zero_le _, rfl, rfl, ⟨heap_alloc_last w _, Nat.le_refl _, World.ownsRow_nil _ _ _ _, World.ownsRow_nil _ _ _ _, World.ownsRow_nil _ _ _ _⟩, (Below.refl _ _).alloc (Nat.le_refl _) _⟩
  case round =>
    obtain ⟨k, vS, vW, vP, hk, rfl, rfl, hR, hb⟩ := hrel
    have R : Hid (RefIn wr w.heap.size w.heap.size vS vW vP (List.replicate k bk) (List.replicate k nilS) (List.replicate k false) false false 0) := hR
    have HB : Hid (Below w.heap.size w wr) := hb
    obtain ⟨c0, c1, c2, c3, c4, c5, cf⟩ := hR.cell
    have hlen : ∀ (α : Type) (x : α), (List.replicate k x).length = k := fun _ _ => List.length_replicate
    clear hR hb
    by_cases hlt : k < 5
    · have t1 : True := trivial
      have OS : Hid (wr.ownsRow w.heap.size 9 1 vS k ((List.replicate k bk).map Value.string)) := by have := R.out.safes; rwa [List.length_replicate] at this
      go_wp2_with (first
        | (at_builtin; have _t := t1; refine wpList_append_own _ rfl _ _ 40 rfl w.heap.size 9 iS (.string ByteArray.empty) 1 16 Tryz.underlying40 hS0 hS1 hS2 hS3 rfl (by decide) vS k ((List.replicate k bk).map Value.string) rfl (OS.out.alloc _) ⟨wr.heap.size, 0, none⟩ 1 1 [.string bk] rfl rfl (cell_one_new _ _ _) (by simp [Value.oneCell']) (by unfold maxLen; omega) (by omega) (by simp; have := HB.out.size; omega) ?_; intro v1 w1 hown1 hgrow1 _; obtain ⟨g1, p1, rfl⟩ := ownsRow_succ hown1; obtain ⟨R2, hr1⟩ := R.out.grow0 (x := bk) (by rw [List.length_replicate]; exact hown1) hgrow1; have RR2 : Hid (RefIn (w1.setCell ⟨w.heap.size, 0, none⟩ (.slice (some ⟨g1, 0, none⟩) (k + 1) p1)) w.heap.size w.heap.size (.slice (some ⟨g1, 0, none⟩) (k + 1) p1) vW vP (List.replicate k bk ++ [bk]) (List.replicate k nilS) (List.replicate k false) false false 0) := R2; have BB1 : Hid (Below w.heap.size w w1) := (HB.out.alloc HB.out.size _).grown hgrow1 (by simp; have := HB.out.size; omega) (fun j hj => (OS.out.lt j hj).1); have a0 := (World.cell?_of_block (a := ⟨w.heap.size, 0, none⟩) hr1).trans c0; have a1 := (World.cell?_of_block (a := ⟨w.heap.size, 1, none⟩) hr1).trans c1; have a2 := (World.cell?_of_block (a := ⟨w.heap.size, 2, none⟩) hr1).trans c2; have af : ∀ j, w1.frozen? ⟨w.heap.size, j, none⟩ = false := (fun j => (World.frozen?_of_block (a := ⟨w.heap.size, j, none⟩) hr1).trans (cf j)); have t2 : True := trivial; clear t1 R2 hown1 hgrow1 hr1)
        | (at_builtin; have _t := t2; generalize hW2 : World.setCell w1 _ _ = w2 at RR2 ⊢; have hz2 : w2.heap.size = w1.heap.size := (by rw [← hW2]; simp [World.setCell]); have BB2 : Hid (Below w.heap.size w w2) := (by unfold Hid; rw [← hW2]; exact BB1.out.setCell (p := ⟨w.heap.size, 0, none⟩) (Nat.le_refl _) _); have OW : Hid (w2.ownsRow w.heap.size 40 1 vW k (List.replicate k nilS)) := (by have := RR2.out.writes; rwa [List.length_replicate] at this); have CN : Hid (∀ j u, [nilS][j]? = some u → (w2.alloc (.cells #[nilS] 40)).cell? ((⟨w1.heap.size, 0, none⟩ : Addr).add j) = some u) := (by have := cell_one_new w2 nilS 40; rwa [hz2] at this); refine wpList_append_own _ rfl _ _ 70 rfl w.heap.size 40 iW (.slice none 0 0) 1 24 Tryz.underlying70 hW0 hW1 hW2' hW3 rfl (by decide) vW k (List.replicate k nilS) rfl (OW.out.alloc _) ⟨w1.heap.size, 0, none⟩ 1 1 [nilS] rfl rfl CN.out (by simp [Value.oneCell', nilS]) (by unfold maxLen; omega) (by omega) (by simp; have := BB2.out.size; omega) ?_; intro v2 w3 hown3 hgrow3 _; obtain ⟨g2, p2, rfl⟩ := ownsRow_succ hown3; obtain ⟨R3, hr3⟩ := RR2.out.grow1 (x := nilS) (by rw [List.length_replicate]; exact hown3) hgrow3; have RR3 : Hid (RefIn (w3.setCell ⟨w.heap.size, 1, none⟩ (.slice (some ⟨g2, 0, none⟩) (k + 1) p2)) w.heap.size w.heap.size (.slice (some ⟨g1, 0, none⟩) (k + 1) p1) (.slice (some ⟨g2, 0, none⟩) (k + 1) p2) vP (List.replicate k bk ++ [bk]) (List.replicate k nilS ++ [nilS]) (List.replicate k false) false false 0) := R3; have BB3 : Hid (Below w.heap.size w w3) := (BB2.out.alloc BB2.out.size _).grown hgrow3 (by simp; have := BB2.out.size; omega) (fun j hj => (OW.out.lt j hj).1); obtain ⟨d0, d1, d2, _, _, _, df⟩ := RR2.out.cell; have e1 := (World.cell?_of_block (a := ⟨w.heap.size, 1, none⟩) hr3).trans d1; have e2 := (World.cell?_of_block (a := ⟨w.heap.size, 2, none⟩) hr3).trans d2; have ef : ∀ j, w3.frozen? ⟨w.heap.size, j, none⟩ = false := (fun j => (World.frozen?_of_block (a := ⟨w.heap.size, j, none⟩) hr3).trans (df j)); have t3 : True := trivial; clear t2 R3 hown3 hgrow3 hr3 d0 d1 d2 df hz2 hW2)
        | (at_builtin; have _t := t3; generalize hW4 : World.setCell w3 _ _ = w4 at RR3 ⊢; have hz4 : w4.heap.size = w3.heap.size := (by rw [← hW4]; simp [World.setCell]); have BB4 : Hid (Below w.heap.size w w4) := (by unfold Hid; rw [← hW4]; exact BB3.out.setCell (p := ⟨w.heap.size, 1, none⟩) (Nat.le_refl _) _); have OP : Hid (w4.ownsRow w.heap.size 4 1 vP k ((List.replicate k false).map Value.bool)) := (by have := RR3.out.spoilt; rwa [List.length_replicate] at this); have CN : Hid (∀ j u, [Value.bool false][j]? = some u → (w4.alloc (.cells #[.bool false] 4)).cell? ((⟨w3.heap.size, 0, none⟩ : Addr).add j) = some u) := (by have := cell_one_new w4 (.bool false) 4; rwa [hz4] at this); refine wpList_append_own _ rfl _ _ 71 rfl w.heap.size 4 iP (.bool false) 1 1 Tryz.underlying71 hP0 hP1 hP2 hP3 rfl (by decide) vP k ((List.replicate k false).map Value.bool) rfl (OP.out.alloc _) ⟨w3.heap.size, 0, none⟩ 1 1 [.bool false] rfl rfl CN.out (by simp [Value.oneCell']) (by unfold maxLen; omega) (by omega) (by simp; have := BB4.out.size; omega) ?_; intro v5 w5 hown5 hgrow5 _; obtain ⟨g3, p3, rfl⟩ := ownsRow_succ hown5; obtain ⟨R5, hr5⟩ := RR3.out.grow2 (x := false) (by rw [List.length_replicate]; exact hown5) hgrow5; have RR5 : Hid (RefIn (w5.setCell ⟨w.heap.size, 2, none⟩ (.slice (some ⟨g3, 0, none⟩) (k + 1) p3)) w.heap.size w.heap.size (.slice (some ⟨g1, 0, none⟩) (k + 1) p1) (.slice (some ⟨g2, 0, none⟩) (k + 1) p2) (.slice (some ⟨g3, 0, none⟩) (k + 1) p3) (List.replicate k bk ++ [bk]) (List.replicate k nilS ++ [nilS]) (List.replicate k false ++ [false]) false false 0) := R5; have BB5 : Hid (Below w.heap.size w w5) := (BB4.out.alloc BB4.out.size _).grown hgrow5 (by simp; have := BB4.out.size; omega) (fun j hj => (OP.out.lt j hj).1); obtain ⟨d0, d1, d2, _, _, _, df⟩ := RR3.out.cell; have f2 := (World.cell?_of_block (a := ⟨w.heap.size, 2, none⟩) hr5).trans d2; have ff : ∀ j, w5.frozen? ⟨w.heap.size, j, none⟩ = false := (fun j => (World.frozen?_of_block (a := ⟨w.heap.size, j, none⟩) hr5).trans (df j)); clear t3 R5 hown5 hgrow5 hr5 d0 d1 d2 df hz4 hW4))
      go_roundg (5 - (k + 1))
      case measure => omega
      case rel =>
        have hfin := RR5.out
        rw [← List.replicate_succ', ← List.replicate_succ', ← List.replicate_succ'] at hfin
        exact ⟨k + 1, _, _, _, by omega, rfl, by go_num, hfin, BB5.out.setCell (p := ⟨w.heap.size, 2, none⟩) (Nat.le_refl _) _⟩
    · have hk5 : k = 5 := by omega
      subst hk5
      go_wp2
      go_ret
      exact ⟨_, _, _, _, rfl, R.out, HB.out⟩
end Go.Proofs.YtdgkhjgnjfgnlaaGreat

namespace Go.Proofs.YtdgkhjgnjfgnlaaGreat
open Go.RowKit Go.Maps

section
variable {w : World} {B rp : Nat} {vS vW vP : Value} {S : List ByteArray} {Wl : List Value} {Pl : List Bool} {gone cut : Bool} {left : Int}
/-- an element of a row of the call's own is turned -/
theorem ownsRow_put {w : World} {b e n : Nat} {v : Value} {xs : List Value} (h : w.ownsRow b e 1 v n xs) {g : Nat} (hg : v.ownBlock = some g) (j : Nat) (u : Value) : (w.setCell ⟨g, j, none⟩ u).ownsRow b e 1 v n (xs.set j u) := by
  refine ⟨by rw [List.length_set]; exact h.1, ?_⟩
  rcases h.2 with ⟨rfl, _⟩ | ⟨g', cap, cur, rfl, hb, hc, hn, hm, hs, ht⟩
  · simp [Value.ownBlock] at hg
  · simp [Value.ownBlock] at hg; subst hg
    refine .inr ⟨g', cap, _, rfl, hb, heap_setCell_same w g' j cur e u hc, hn, hm, by simpa using hs, ?_⟩
    rw [Array.toList_setIfInBounds, List.take_set, ht]
theorem ownsRow_at {w : World} {b e n : Nat} {v : Value} {xs : List Value} (h : w.ownsRow b e 1 v n xs) {j : Nat} (hj : j < n) : ∃ g cap, v = .slice (some ⟨g, 0, none⟩) n cap ∧ b ≤ g ∧ g < w.heap.size ∧ n ≤ cap ∧ cap ≤ maxLen ∧ w.cell? ⟨g, j, none⟩ = xs[j]? ∧ w.frozen? ⟨g, j, none⟩ = false := by
  rcases h.2 with ⟨_, rfl⟩ | ⟨g, cap, cur, rfl, hb, hc, hn, hm, hs, ht⟩
  · omega
  · refine ⟨g, cap, rfl, hb, (Array.getElem?_eq_some_iff.1 hc).1, hn, hm, ?_, frozen_of_row w g j cur e hc⟩
    rw [cell_of_row w g j cur e _ hc, ← ht, List.getElem?_take, if_pos (by omega)]; simp

set_option maxRecDepth 100000 in
set_option maxHeartbeats 400000 in
theorem refOff_alive (h : RefIn w B rp vS vW vP S Wl Pl gone false left) : Calls Tryz.prog 104 #[.pointer (some ⟨rp, 0, none⟩)] w fun e w' => e = .returned (.bool false) ∧ w' = w := by
  obtain ⟨_, _, _, _, c4, c5, _⟩ := h.cell
  clear h
  go_enter Tryz.func104, Tryz.ntmps104
  go_wp2
  go_ret
  exact ⟨rfl, rfl⟩
set_option maxRecDepth 100000 in
set_option maxHeartbeats 400000 in
theorem refUse_alive (h : RefIn w B rp vS vW vP S Wl Pl gone false left) : Calls Tryz.prog 103 #[.pointer (some ⟨rp, 0, none⟩)] w fun e w' => e = .returned (.tuple #[]) ∧ w' = w := by
  obtain ⟨_, _, _, _, c4, c5, _⟩ := h.cell
  clear h
  go_enter Tryz.func103, Tryz.ntmps103
  go_wp2
  go_end0
  exact ⟨rfl, rfl⟩
set_option maxRecDepth 100000 in
set_option maxHeartbeats 400000 in
theorem refMay_alive (h : RefIn w B rp vS vW vP S Wl Pl false false left) (i : Nat) (hi : i < S.length) : Calls Tryz.prog 73 #[.pointer (some ⟨rp, 0, none⟩), .int .i64 (i : Nat)] w fun e w' => e = .returned (.int .i64 0) ∧ w' = w := by
  have ho := refOff_alive h
  obtain ⟨c0, _, _, c3, _, _, _⟩ := h.cell
  obtain ⟨g, cap, e, _, _, hcap, hmax, _, _⟩ := ownsRow_at h.safes hi
  rw [e] at c0
  unfold maxLen at hmax
  obtain ⟨n, hn⟩ : ∃ n, n = S.length := ⟨_, rfl⟩
  rw [← hn] at c0 hi hcap
  clear h e hn
  go_enter Tryz.func73, Tryz.ntmps73
  go_wp2_with fail
  refine ho.mono ?_
  rintro e w' ⟨rfl, rfl⟩
  go_wp2
  go_ret
  exact ⟨rfl, rfl⟩
set_option maxRecDepth 100000 in
set_option maxHeartbeats 400000 in
theorem refMay_dead (h : RefIn w B rp vS vW vP S Wl Pl true cut left) (i : Int) : Calls Tryz.prog 73 #[.pointer (some ⟨rp, 0, none⟩), .int .i64 i] w fun e w' => e = .returned (.int .i64 40) ∧ w' = w := by
  obtain ⟨_, _, _, c3, _, _, _⟩ := h.cell
  clear h
  go_enter Tryz.func73, Tryz.ntmps73
  go_wp2
  go_ret
  exact ⟨rfl, rfl⟩
set_option maxRecDepth 100000 in
set_option maxHeartbeats 400000 in
theorem refWrite_dead (h : RefIn w B rp vS vW vP S Wl Pl true cut left) (i : Int) (s : ByteArray) : Calls Tryz.prog 72 #[.pointer (some ⟨rp, 0, none⟩), .int .i64 i, .string s] w fun e w' => e = .returned (.int .i64 40) ∧ w' = w := by
  have hm := refMay_dead h i
  clear h
  go_enter Tryz.func72, Tryz.ntmps72
  go_wp2_with fail
  refine hm.mono ?_
  rintro e w' ⟨rfl, rfl⟩
  go_wp2
  go_ret
  exact ⟨rfl, rfl⟩
set_option maxRecDepth 100000 in
set_option maxHeartbeats 400000 in
theorem refRead_dead (h : RefIn w B rp vS vW vP S Wl Pl true cut left) (i : Int) : Calls Tryz.prog 45 #[.pointer (some ⟨rp, 0, none⟩), .int .i64 i] w fun e w' => e = .returned (.tuple #[.string ⟨#[]⟩, .int .i64 40]) ∧ w' = w := by
  have hm := refMay_dead h i
  clear h
  go_enter Tryz.func45, Tryz.ntmps45
  go_wp2_with fail
  refine hm.mono ?_
  rintro e w' ⟨rfl, rfl⟩
  go_wp2
  go_ret2
  exact ⟨rfl, rfl⟩
set_option maxRecDepth 100000 in
set_option maxHeartbeats 400000 in
theorem refFlush_dead (h : RefIn w B rp vS vW vP S Wl Pl true cut left) : Calls Tryz.prog 74 #[.pointer (some ⟨rp, 0, none⟩)] w fun e w' => e = .returned (.int .i64 40) ∧ w' = w := by
  obtain ⟨_, _, _, c3, _, _, _⟩ := h.cell
  clear h
  go_enter Tryz.func74, Tryz.ntmps74
  go_wp2
  go_ret
  exact ⟨rfl, rfl⟩
set_option maxRecDepth 100000 in
set_option maxHeartbeats 400000 in
theorem refSpoil_dead (h : RefIn w B rp vS vW vP S Wl Pl true cut left) (i : Int) : Calls Tryz.prog 35 #[.pointer (some ⟨rp, 0, none⟩), .int .i64 i] w fun e w' => e = .returned (.int .i64 40) ∧ w' = w := by
  have hm := refMay_dead h i
  clear h
  go_enter Tryz.func35, Tryz.ntmps35
  go_wp2_with fail
  refine hm.mono ?_
  rintro e w' ⟨rfl, rfl⟩
  go_wp2
  go_ret
  exact ⟨rfl, rfl⟩
set_option maxRecDepth 100000 in
set_option maxHeartbeats 400000 in
theorem refOffCall (h : RefIn w B rp vS vW vP S Wl Pl gone cut left) (a : Int) : Calls Tryz.prog 37 #[.pointer (some ⟨rp, 0, none⟩), .int .i64 a] w fun e w' => e = .returned (.tuple #[]) ∧ RefIn w' B rp vS vW vP S Wl Pl gone true (a.toNat : Nat) ∧ Only (One rp) w w' := by
  obtain ⟨_, _, _, _, c4, c5, cf⟩ := h.cell
  have f4 := cf 4
  have f5 := cf 5
  obtain ⟨m, hm⟩ : ∃ m : Nat, m = a.toNat := ⟨_, rfl⟩
  have hmax : ∀ (ts : Array TypeId) (ty : TypeId) (W : World), (Builtin.max_ ts ty #[.int .i64 a, .int .i64 0]).run Tryz.prog W = .ok (.int .i64 (m : Int)) W := by
    intro ts ty W
    simp [Builtin.max_, Builtin.max2]
    omega
  have H : Hid (RefIn w B rp vS vW vP S Wl Pl gone cut left) := h
  have E : Hid (m = a.toNat) := hm
  clear hm h cf
  go_enter Tryz.func37, Tryz.ntmps37
  go_wp2
  go_end0
  obtain ⟨g1, g2⟩ := turn1 (j := 4) (v := .bool true) H.out.self
  obtain ⟨k1, k2⟩ := turn1 (j := 5) (v := .int .i64 (m : Nat)) g2
  refine ⟨rfl, H.out.turn (g1.then k1) (by rw [k2, ← E.out]; rfl), g1.then k1⟩
end
end Go.Proofs.YtdgkhjgnjfgnlaaGreat

namespace Go.Proofs.YtdgkhjgnjfgnlaaGreat
open Go.RowKit Go.Maps

section
variable {w : World} {B rp : Nat} {vS vW vP : Value} {S : List ByteArray} {Wl : List Value} {Pl : List Bool} {gone cut : Bool} {left : Int}
theorem row_head {w : World} {b e n m : Nat} {v : Value} {xs : List Value} (h : w.ownsRow b e 1 v n xs) {g cap : Nat} (hv : v = .slice (some ⟨g, 0, none⟩) m cap) {j : Nat} (hj : j < n) : g < w.heap.size ∧ w.cell? ⟨g, j, none⟩ = xs[j]? ∧ w.frozen? ⟨g, j, none⟩ = false := by
  obtain ⟨g', cap', e', _, h2, _, _, h5, h6⟩ := ownsRow_at h hj
  rw [e'] at hv
  injection hv with e1
  injection e1 with e1
  injection e1 with e1
  subst e1
  exact ⟨h2, h5, h6⟩
theorem row_cap {w : World} {b e n m : Nat} {v : Value} {xs : List Value} (h : w.ownsRow b e 1 v n xs) {g cap : Nat} (hv : v = .slice (some ⟨g, 0, none⟩) m cap) : n ≤ cap ∧ cap ≤ maxLen := by
  rcases h.2 with ⟨e, _⟩ | ⟨g', cap', cur, e, _, _, h1, h2, _⟩
  · rw [e] at hv; injection hv with e1; cases e1
  · rw [e] at hv
    injection hv with _ _ e3
    subst e3
    exact ⟨h1, h2⟩
theorem RefIn.putW (h : RefIn w B rp vS vW vP S Wl Pl gone cut left) {g : Nat} (hg : vW.ownBlock = some g) (j : Nat) (u : Value) : RefIn (w.setCell ⟨g, j, none⟩ u) B rp vS vW vP S (Wl.set j u) Pl gone cut left ∧ Only (One g) w (w.setCell ⟨g, j, none⟩ u) := by
  have o : Only (One g) w (w.setCell ⟨g, j, none⟩ u) := Only.setCell _ w ⟨g, j, none⟩ _ rfl
  have hgc := row_type h.writes hg
  refine ⟨⟨(o.block rp (h.lt rp (.inl rfl)).2 (fun e => h.neW (by rw [hg]; exact congrArg some e.symm))).trans h.self, h.lo, ownsRow_only o h.safes (fun k hk e => ?_), by rw [List.length_set]; exact ownsRow_put h.writes hg j u, ownsRow_only o h.spoilt (fun k hk e => ?_)⟩, o⟩
  · obtain ⟨c1, h1⟩ := hgc; obtain ⟨c2, h2⟩ := row_type h.safes hk; rw [show k = g from e, h1] at h2; simp at h2
  · obtain ⟨c1, h1⟩ := hgc; obtain ⟨c2, h2⟩ := row_type h.spoilt hk; rw [show k = g from e, h1] at h2; simp at h2
theorem RefIn.putP (h : RefIn w B rp vS vW vP S Wl Pl gone cut left) {g : Nat} (hg : vP.ownBlock = some g) (j : Nat) (b : Bool) : RefIn (w.setCell ⟨g, j, none⟩ (.bool b)) B rp vS vW vP S Wl (Pl.set j b) gone cut left ∧ Only (One g) w (w.setCell ⟨g, j, none⟩ (.bool b)) := by
  have o : Only (One g) w (w.setCell ⟨g, j, none⟩ (.bool b)) := Only.setCell _ w ⟨g, j, none⟩ _ rfl
  have hgc := row_type h.spoilt hg
  refine ⟨⟨(o.block rp (h.lt rp (.inl rfl)).2 (fun e => h.neP (by rw [hg]; exact congrArg some e.symm))).trans h.self, h.lo, ownsRow_only o h.safes (fun k hk e => ?_), ownsRow_only o h.writes (fun k hk e => ?_), by rw [List.length_set, List.map_set]; exact ownsRow_put h.spoilt hg j _⟩, o⟩
  · obtain ⟨c1, h1⟩ := hgc; obtain ⟨c2, h2⟩ := row_type h.safes hk; rw [show k = g from e, h1] at h2; simp at h2
  · obtain ⟨c1, h1⟩ := hgc; obtain ⟨c2, h2⟩ := row_type h.writes hk; rw [show k = g from e, h1] at h2; simp at h2
theorem RefIn.putS (h : RefIn w B rp vS vW vP S Wl Pl gone cut left) {g : Nat} (hg : vS.ownBlock = some g) (j : Nat) (x : ByteArray) : RefIn (w.setCell ⟨g, j, none⟩ (.string x)) B rp vS vW vP (S.set j x) Wl Pl gone cut left ∧ Only (One g) w (w.setCell ⟨g, j, none⟩ (.string x)) := by
  have o : Only (One g) w (w.setCell ⟨g, j, none⟩ (.string x)) := Only.setCell _ w ⟨g, j, none⟩ _ rfl
  have hgc := row_type h.safes hg
  refine ⟨⟨(o.block rp (h.lt rp (.inl rfl)).2 (fun e => h.neS (by rw [hg]; exact congrArg some e.symm))).trans h.self, h.lo, by rw [List.length_set, List.map_set]; exact ownsRow_put h.safes hg j _, ownsRow_only o h.writes (fun k hk e => ?_), ownsRow_only o h.spoilt (fun k hk e => ?_)⟩, o⟩
  · obtain ⟨c1, h1⟩ := hgc; obtain ⟨c2, h2⟩ := row_type h.writes hk; rw [show k = g from e, h1] at h2; simp at h2
  · obtain ⟨c1, h1⟩ := hgc; obtain ⟨c2, h2⟩ := row_type h.spoilt hk; rw [show k = g from e, h1] at h2; simp at h2

/-- the row of the writes where the third sector has one -/
def oneW (v : Value) : List Value := [nilS, nilS, v, nilS, nilS]

set_option maxRecDepth 100000 in
set_option maxHeartbeats 2000000 in
theorem refWrite2 (h : RefIn w B rp vS vW vP S (List.replicate 5 nilS) (List.replicate 5 false) false false left) (hS : S.length = 5) (s : ByteArray) (hs : s.size = 64) :
    Calls Tryz.prog 72 #[.pointer (some ⟨rp, 0, none⟩), .int .i64 2, .string s] w fun e w' => e = .returned (.int .i64 0) ∧ ∃ g cp, RefIn w' B rp vS vW vP S (oneW (.slice (some ⟨g, 0, none⟩) 1 cp)) (List.replicate 5 false) false false left ∧
      1 ≤ cp ∧ cp ≤ maxLen ∧ w'.cell? ⟨g, 0, none⟩ = some (.string s) ∧ w.heap.size ≤ g ∧ g < w'.heap.size ∧ Only (RFoot rp vS vW vP) w w' := by
  have hm := refMay_alive h 2 (by omega)
  obtain ⟨c0, c1, c2, _, _, _, cf⟩ := h.cell
  obtain ⟨gw, cw, ew, _, hgw, hcapw, hmaxw, hcw, hfw⟩ := ownsRow_at h.writes (j := 2) (by simp)
  obtain ⟨gp, cpp, ep, _, hgp, hcapp, hmaxp, hcp, hfp⟩ := ownsRow_at h.spoilt (j := 2) (by simp)
  rw [List.length_replicate] at ew ep hcapw hcapp
  rw [show (List.replicate 5 nilS)[2]? = some (.slice none 0 0) from rfl] at hcw
  rw [show ((List.replicate 5 false).map Value.bool)[2]? = some (.bool false) from rfl] at hcp
  rw [ew] at c1
  rw [ep] at c2
  unfold maxLen at hmaxw hmaxp
  obtain ⟨iS, hS0, hS1, hS2, hS3⟩ := info_parts info_str
  have H : Hid (RefIn w B rp vS vW vP S (List.replicate 5 nilS) (List.replicate 5 false) false false left) := h
  have EW : Hid (vW = .slice (some ⟨gw, 0, none⟩) 5 cw) := ew
  have EP : Hid (vP = .slice (some ⟨gp, 0, none⟩) 5 cpp) := ep
  have HSZ : Hid (s.size = 64) := hs
  have HMX : Hid (Tryz.prog.follows .mixedOrders = true) := by unfold Hid; kernel_rfl
  have hsz : ((s.size : Int) == 64) = true := by rw [beq_iff_eq]; omega
  have OWN : Hid ((w.alloc (.cells #[] 9)).ownsRow w.heap.size 9 1 (.slice (some ⟨w.heap.size, 0, none⟩) 0 0) 0 []) := World.ownsRow_made (base := w.heap.size) (e := 9) (size := 1) w #[] 0 (Nat.le_refl _) (by decide) rfl
  have hrpw : rp < w.heap.size := (h.lt rp (.inl rfl)).2
  have hgwp : gw ≠ rp := fun e => H.out.neW (by rw [EW.out, ← e]; rfl)
  clear h ew ep hs hS c0 cf
  go_enter Tryz.func72, Tryz.ntmps72
  go_wp2_with fail
  refine hm.mono ?_
  rintro e w' ⟨rfl, rfl⟩
  clear hm
  go_wp2_with fail
  have hB1 : Below w'.heap.size w' (w'.alloc (.cells #[] 9)).drew := ((Below.refl _ w').alloc (Nat.le_refl _) _).drew
  have hOW1 : Hid ((w'.alloc (.cells #[] 9)).drew.ownsRow w'.heap.size 9 1 (.slice (some ⟨w'.heap.size, 0, none⟩) 0 0) 0 []) := OWN.out
  refine wp_region_held (S := fun W => W.cell? ⟨rp, 1, none⟩ = some (.slice (some ⟨gw, 0, none⟩) 5 cw)) HMX.out ?_
  have hS : (fun W : World => W.cell? ⟨rp, 1, none⟩ = some (.slice (some ⟨gw, 0, none⟩) 5 cw)) (w'.alloc (.cells #[] 9)).drew := (hB1.cell (p := ⟨rp, 1, none⟩) hrpw).trans c1
  change wpAnyH _ _ _ _ _ _ _ _ (w'.alloc (.cells #[] 9)).drew
  generalize hW1 : (w'.alloc (.cells #[] 9)).drew = W1 at hB1 hOW1 hS ⊢
  clear hW1
  refine held_quiet 0 (v := ?v0q1) rfl (by kernel_rfl) (fun _ _ _ h => h) (by assumption) rfl ?hy0q1 ?rest0q1
  case hy0q1 => (intro wS hSw; (try dsimp only at hSw); go_simp; try with_reducible rfl)
  try simp only [Act.put, List.setIfInBounds_toArray, List.set_cons_zero, List.set_cons_succ]
  refine held_quiet 1 (v := ?v1q2) rfl (by kernel_rfl) (fun _ _ _ h => h) (by assumption) rfl ?hy1q2 ?rest1q2
  case hy1q2 => (intro wS hSw; (try dsimp only at hSw); go_simp; try with_reducible rfl)
  try simp only [Act.put, List.setIfInBounds_toArray, List.set_cons_zero, List.set_cons_succ]
  refine held_quiet 2 (v := ?v2q3) rfl (by kernel_rfl) (fun _ _ _ h => h) (by assumption) rfl ?hy2q3 ?rest2q3
  case hy2q3 => (intro wS hSw; (try dsimp only at hSw); go_simp; try with_reducible rfl)
  try simp only [Act.put, List.setIfInBounds_toArray, List.set_cons_zero, List.set_cons_succ]
  refine held_quiet 3 (v := ?v3q4) rfl (by kernel_rfl) (fun _ _ _ h => h) (by assumption) rfl ?hy3q4 ?rest3q4
  case hy3q4 => (intro wS hSw; (try dsimp only at hSw); go_simp; try with_reducible rfl)
  try simp only [Act.put, List.setIfInBounds_toArray, List.set_cons_zero, List.set_cons_succ]
  refine held_quiet 4 (v := ?v4q5) rfl (by kernel_rfl) (fun _ _ _ h => h) (by assumption) rfl ?hy4q5 ?rest4q5
  case hy4q5 => (intro wS hSw; (try dsimp only at hSw); go_simp; try with_reducible rfl)
  try simp only [Act.put, List.setIfInBounds_toArray, List.set_cons_zero, List.set_cons_succ]
  refine held_quiet 5 (v := ?v5q6) rfl (by kernel_rfl) (fun _ _ _ h => h) (by assumption) rfl ?hy5q6 ?rest5q6
  case hy5q6 => (intro wS hSw; (try dsimp only at hSw); go_simp; try with_reducible rfl)
  try simp only [Act.put, List.setIfInBounds_toArray, List.set_cons_zero, List.set_cons_succ]
  refine held_quiet 6 (v := ?v6q7) rfl (by kernel_rfl) (fun _ _ _ h => h) (by assumption) rfl ?hy6q7 ?rest6q7
  case hy6q7 => (intro wS hSw; (try dsimp only at hSw); go_simp; try with_reducible rfl)
  try simp only [Act.put, List.setIfInBounds_toArray, List.set_cons_zero, List.set_cons_succ]
  refine held_one 7 rfl (by kernel_rfl) ?_
  go_wp2
  have hc1b : (W1.alloc (.cells #[.string s] 9)).cell? ⟨rp, 1, none⟩ = some (.slice (some ⟨gw, 0, none⟩) 5 cw) := ((hB1.alloc hB1.size _).cell (p := ⟨rp, 1, none⟩) hrpw).trans c1
  try refine ⟨hc1b, ?_⟩
  refine held_one 8 rfl (by kernel_rfl) ?_
  refine wpList_append_own _ rfl _ _ 40 rfl w'.heap.size 9 iS (.string ByteArray.empty) 1 16 Tryz.underlying40 hS0 hS1 hS2 hS3 rfl (by decide) (.slice (some ⟨w'.heap.size, 0, none⟩) 0 0) 0 [] rfl (hOW1.out.alloc _) ⟨W1.heap.size, 0, none⟩ 1 1 [.string s] rfl rfl (cell_one_new _ _ _) (by simp [Value.oneCell']) (by decide) (by decide) (by simp; have := hB1.size; omega) ?_
  intro v' w3 hown3 hg3 _
  obtain ⟨g, cap, rfl⟩ := ownsRow_succ hown3
  obtain ⟨hg2, hgc, _⟩ := row_head hown3 rfl (j := 0) (by omega)
  have hg1 : w'.heap.size ≤ g := (hown3.lt g rfl).1
  obtain ⟨hcap1, hcap2⟩ := row_cap hown3 rfl
  have hgc' : w3.cell? ⟨g, 0, none⟩ = some (.string s) := hgc
  have B3 : Hid (Below w'.heap.size w' w3) := (hB1.alloc hB1.size _).grown hg3 (by simp; have := hB1.size; omega) (fun k hk => by cases hk; exact Nat.le_refl _)
  have hS3 : w3.cell? ⟨rp, 1, none⟩ = some (.slice (some ⟨gw, 0, none⟩) 5 cw) := (B3.out.cell (p := ⟨rp, 1, none⟩) hrpw).trans c1
  have R3 : RefIn w3 B rp vS vW vP S (List.replicate 5 nilS) (List.replicate 5 false) false false left := H.out.only (Only.of_below B3.out (fun _ => False)) (fun _ _ hf => hf)
  have hput := R3.putW (g := gw) (by rw [EW.out]; rfl) 2 (.slice (some ⟨g, 0, none⟩) (0 + 1) cap)
  have R4 : Hid (RefIn (w3.setCell ⟨gw, 2, none⟩ (.slice (some ⟨g, 0, none⟩) (0 + 1) cap)) B rp vS vW vP S (oneW (.slice (some ⟨g, 0, none⟩) 1 cap)) (List.replicate 5 false) false false left) := hput.1
  have O4 : Hid (Only (One gw) w3 (w3.setCell ⟨gw, 2, none⟩ (.slice (some ⟨g, 0, none⟩) (0 + 1) cap))) := hput.2
  have hcw3 := (B3.out.cell (p := ⟨gw, 2, none⟩) hgw).trans hcw
  have hfw3 := (row_head R3.writes EW.out (j := 2) (by simp)).2.2
  have G : Hid (w'.heap.size ≤ g ∧ g < w3.heap.size ∧ 1 ≤ cap ∧ cap ≤ maxLen ∧ w3.cell? ⟨g, 0, none⟩ = some (.string s) ∧ g ≠ gw ∧ g ≠ gp) := ⟨hg1, hg2, hcap1, hcap2, hgc', by omega, by omega⟩
  clear hgc hgc' hput R3 hown3 hg3 hg1 hg2 hcap1 hcap2
  refine ⟨hS3, ?_⟩
  refine held_quiet 9 (v := ?v9q8) rfl (by kernel_rfl) (fun _ _ _ h => h) (by assumption) rfl ?hy9q8 ?rest9q8
  case hy9q8 => (intro wS hSw; (try dsimp only at hSw); go_simp; try with_reducible rfl)
  try simp only [Act.put, List.setIfInBounds_toArray, List.set_cons_zero, List.set_cons_succ]
  refine held_one 10 rfl (by kernel_rfl) ?_
  go_wp2
  generalize hW4 : w3.setCell ⟨gw, 2, none⟩ (.slice (some ⟨g, 0, none⟩) (0 + 1) cap) = w4 at R4 O4 ⊢
  have c14 := R4.out.cell.2.1
  have c24 := R4.out.cell.2.2.1
  rw [EP.out] at c24
  obtain ⟨hgp4, hcp4, hfp4⟩ := row_head R4.out.spoilt EP.out (j := 2) (by simp)
  rw [show ((List.replicate 5 false).map Value.bool)[2]? = some (.bool false) from rfl] at hcp4
  have hgc4 : Hid (w4.cell? ⟨g, 0, none⟩ = some (.string s)) := (World.cell?_of_block (a := ⟨g, 0, none⟩) (O4.out.block g G.out.2.1 G.out.2.2.2.2.2.1)).trans G.out.2.2.2.2.1
  have hput := R4.out.putP (g := gp) (by rw [EP.out]; rfl) 2 false
  have R5 : Hid (RefIn (w4.setCell ⟨gp, 2, none⟩ (.bool false)) B rp vS vW vP S (oneW (.slice (some ⟨g, 0, none⟩) 1 cap)) (List.replicate 5 false) false false left) := hput.1
  have O5 : Hid (Only (One gp) w4 (w4.setCell ⟨gp, 2, none⟩ (.bool false))) := hput.2
  clear hput hW4
  try refine ⟨by rw [c14, EW.out], ?_⟩
  refine held_done (by kernel_rfl) ?_
  go_wp2_with fail
  refine (refUse_alive R5.out).mono ?_
  rintro e w6 ⟨rfl, rfl⟩
  go_wp2
  go_ret
  have hsz4 : w4.heap.size ≤ (w4.setCell ⟨gp, 2, none⟩ (.bool false)).heap.size := O5.out.size
  have hO : Only (RFoot rp vS vW vP) w' (w4.setCell ⟨gp, 2, none⟩ (.bool false)) :=
    ((Only.of_below B3.out _).then (O4.out.mono fun k hk => by cases hk; exact .inr (.inr (.inl (by rw [EW.out]; rfl))))).then (O5.out.mono fun k hk => by cases hk; exact .inr (.inr (.inr (by rw [EP.out]; rfl))))
  refine ⟨rfl, g, cap, R5.out, G.out.2.2.1, G.out.2.2.2.1, ?_, G.out.1, ?_, hO⟩
  · exact (World.cell?_of_block (a := ⟨g, 0, none⟩) (O5.out.block g (Nat.lt_of_lt_of_le G.out.2.1 O4.out.size) G.out.2.2.2.2.2.2)).trans hgc4.out
  · exact Nat.lt_of_lt_of_le G.out.2.1 (Nat.le_trans O4.out.size O5.out.size)
end
end Go.Proofs.YtdgkhjgnjfgnlaaGreat

namespace Go.Proofs.YtdgkhjgnjfgnlaaGreat
open Go.RowKit Go.Maps

section
variable {w : World} {B rp : Nat} {vS vW vP : Value} {S : List ByteArray} {Wl : List Value} {Pl : List Bool} {gone cut : Bool} {left : Int}
set_option maxRecDepth 100000 in
set_option maxHeartbeats 1000000 in
theorem refKeep0 (h : RefIn w B rp vS vW vP S Wl Pl gone cut left) (i : Nat) (hi : i < Wl.length) : Calls Tryz.prog 105 #[.pointer (some ⟨rp, 0, none⟩), .int .i64 (i : Nat), .int .i64 0] w fun e w' => e = .returned (.tuple #[]) ∧ RefIn w' B rp vS vW vP S (Wl.set i nilS) Pl gone cut left ∧ Only (RFoot rp vS vW vP) w w' := by
  obtain ⟨_, c1, _⟩ := h.cell
  obtain ⟨gw, cw, ew, _, hgw, hcapw, hmaxw, hcw, hfw⟩ := ownsRow_at h.writes hi
  obtain ⟨u, hu⟩ : ∃ u, Wl[i]? = some u := ⟨_, List.getElem?_eq_getElem hi⟩
  rw [hu] at hcw
  rw [ew] at c1
  unfold maxLen at hmaxw
  have hput := h.putW (g := gw) (by rw [ew]; rfl) i nilS
  have hO : Only (RFoot rp vS vW vP) w (w.setCell ⟨gw, i, none⟩ nilS) := hput.2.mono (fun k hk => by cases hk; exact .inr (.inr (.inl (by rw [ew]; rfl))))
  have H : Hid (RefIn (w.setCell ⟨gw, i, none⟩ nilS) B rp vS vW vP S (Wl.set i nilS) Pl gone cut left ∧ Only (RFoot rp vS vW vP) w (w.setCell ⟨gw, i, none⟩ nilS)) := ⟨hput.1, hO⟩
  obtain ⟨n, hn⟩ : ∃ n, n = Wl.length := ⟨_, rfl⟩
  rw [← hn] at c1 hi hcapw
  clear h ew hput hO hu hn
  go_enter Tryz.func105, Tryz.ntmps105
  go_wp2
  go_end0
  exact ⟨rfl, H.out⟩
set_option maxRecDepth 100000 in
set_option maxHeartbeats 2000000 in
theorem refKeep1 (h : RefIn w B rp vS vW vP S Wl Pl gone cut left) (i : Nat) (hi : i < Wl.length) (hiS : i < S.length) {g cp : Nat} {s : ByteArray} (hx : Wl[i]? = some (.slice (some ⟨g, 0, none⟩) 1 cp)) (_hcp : 1 ≤ cp) (_hcm : cp ≤ maxLen) (hc : w.cell? ⟨g, 0, none⟩ = some (.string s)) :
    Calls Tryz.prog 105 #[.pointer (some ⟨rp, 0, none⟩), .int .i64 (i : Nat), .int .i64 1] w fun e w' => e = .returned (.tuple #[]) ∧ RefIn w' B rp vS vW vP (S.set i s) (Wl.set i nilS) Pl gone cut left ∧ Only (RFoot rp vS vW vP) w w' := by
  obtain ⟨c0, c1, _⟩ := h.cell
  obtain ⟨gw, cw, ew, _, hgw, hcapw, hmaxw, hcw, hfw⟩ := ownsRow_at h.writes hi
  obtain ⟨gs, cs, es, _, hgs, hcaps, hmaxs, hcs, hfs⟩ := ownsRow_at h.safes hiS
  rw [hx] at hcw
  obtain ⟨u, hu⟩ : ∃ u, (S.map Value.string)[i]? = some u := ⟨_, List.getElem?_eq_getElem (by simpa using hiS)⟩
  rw [hu] at hcs
  rw [ew] at c1
  rw [es] at c0
  unfold maxLen at hmaxw hmaxs _hcm
  have hputS := h.putS (g := gs) (by rw [es]; rfl) i s
  have R1 : Hid (RefIn (w.setCell ⟨gs, i, none⟩ (.string s)) B rp vS vW vP (S.set i s) Wl Pl gone cut left) := hputS.1
  have O1 : Hid (Only (One gs) w (w.setCell ⟨gs, i, none⟩ (.string s))) := hputS.2
  have EW : Hid (vW = .slice (some ⟨gw, 0, none⟩) Wl.length cw) := ew
  have ES : Hid (vS = .slice (some ⟨gs, 0, none⟩) S.length cs) := es
  have HX : Hid (Wl[i]? = some (.slice (some ⟨g, 0, none⟩) 1 cp)) := hx
  have HI : Hid (i < Wl.length) := hi
  obtain ⟨n, hn⟩ : ∃ n, n = Wl.length := ⟨_, rfl⟩
  rw [← hn] at c1 hi hcapw
  have HN : Hid (n = Wl.length) := hn
  obtain ⟨m, hm⟩ : ∃ m, m = S.length := ⟨_, rfl⟩
  rw [← hm] at c0 hiS hcaps
  clear h ew es hputS hu hn hm hx
  go_enter Tryz.func105, Tryz.ntmps105
  go_wp2_with fail
  go_region
  have R2 : RefIn (w.setCell ⟨gs, i, none⟩ (.string s)).drew B rp vS vW vP (S.set i s) Wl Pl gone cut left := R1.out.only (Only.drew (fun _ => False) _) (fun _ _ hf => hf)
  have O2 : Only (RFoot rp vS vW vP) w (w.setCell ⟨gs, i, none⟩ (.string s)).drew := (O1.out.mono (fun k hk => by cases hk; exact .inr (.inl (by rw [ES.out]; rfl)))).then (Only.drew _ _)
  generalize hW1 : (w.setCell ⟨gs, i, none⟩ (.string s)).drew = w1 at R2 O2 ⊢
  clear hW1
  obtain ⟨_, c1', _⟩ := R2.cell
  obtain ⟨hgw', hcw', hfw'⟩ := row_head R2.writes EW.out (j := i) HI.out
  rw [HX.out] at hcw'
  rw [EW.out, ← HN.out] at c1'
  have hput := R2.putW (g := gw) (by rw [EW.out]; rfl) i nilS
  have hO : Only (RFoot rp vS vW vP) w (w1.setCell ⟨gw, i, none⟩ nilS) := O2.then (hput.2.mono (fun k hk => by cases hk; exact .inr (.inr (.inl (by rw [EW.out]; rfl)))))
  have H : Hid (RefIn (w1.setCell ⟨gw, i, none⟩ nilS) B rp vS vW vP (S.set i s) (Wl.set i nilS) Pl gone cut left ∧ Only (RFoot rp vS vW vP) w (w1.setCell ⟨gw, i, none⟩ nilS)) := ⟨hput.1, hO⟩
  clear hput hO R2 O2
  go_wp2
  go_end0
  exact ⟨rfl, H.out⟩
/-- what is safe, what is written, ahead of the k-th round of such a Flush -/
def sAt (S : List ByteArray) (s : ByteArray) (k : Nat) : List ByteArray := if k ≤ 2 then S else S.set 2 s
def wAt (v : Value) (k : Nat) : List Value := if k ≤ 2 then oneW v else List.replicate 5 nilS
theorem at_other (S : List ByteArray) (s : ByteArray) (v : Value) (k : Nat) (hk : k < 5) (h2 : k ≠ 2) : (wAt v k)[k]? = some nilS ∧ (sAt S s k = sAt S s (k + 1) ∧ (wAt v k).set k nilS = wAt v (k + 1)) := by
  have : k = 0 ∨ k = 1 ∨ k = 3 ∨ k = 4 := by omega
  rcases this with rfl | rfl | rfl | rfl <;> exact ⟨rfl, rfl, rfl⟩
set_option maxRecDepth 100000 in
set_option maxHeartbeats 2000000 in
/-- Flush where the third of five sectors has one write -/
theorem refFlush2 {g cp : Nat} (h : RefIn w B rp vS vW vP S (oneW (.slice (some ⟨g, 0, none⟩) 1 cp)) Pl false false left) (hS : S.length = 5) {s : ByteArray} (hcp : 1 ≤ cp) (hcm : cp ≤ maxLen) (hc : w.cell? ⟨g, 0, none⟩ = some (.string s)) (hgF : ¬ RFoot rp vS vW vP g) (hg : g < w.heap.size) :
    Calls Tryz.prog 74 #[.pointer (some ⟨rp, 0, none⟩)] w fun e w' => e = .returned (.int .i64 0) ∧ RefIn w' B rp vS vW vP (S.set 2 s) (List.replicate 5 nilS) Pl false false left ∧ Only (RFoot rp vS vW vP) w w' := by
  have ho := refOff_alive h
  have hu := refUse_alive h
  obtain ⟨_, c1, _, c3, _⟩ := h.cell
  obtain ⟨gw, cw, ew, _, _, hcapw, hmaxw, _, _⟩ := ownsRow_at h.writes (j := 0) (by simp [oneW])
  rw [show (oneW (.slice (some ⟨g, 0, none⟩) 1 cp)).length = 5 from rfl] at ew hcapw
  unfold maxLen at hmaxw
  have H : Hid (RefIn w B rp vS vW vP S (oneW (.slice (some ⟨g, 0, none⟩) 1 cp)) Pl false false left) := h
  have EW : Hid (vW = .slice (some ⟨gw, 0, none⟩) 5 cw) := ew
  have HC : Hid (w.cell? ⟨g, 0, none⟩ = some (.string s) ∧ ¬ RFoot rp vS vW vP g ∧ g < w.heap.size ∧ S.length = 5) := ⟨hc, hgF, hg, hS⟩
  clear h ew c1 hc hgF hg hS
  go_enter Tryz.func74, Tryz.ntmps74
  go_wp2_with (first
    | (go_at_call 104; refine ho.mono ?_; rintro e w' ⟨rfl, hw'⟩; replace hw' := hw'.symm; subst hw')
    | (go_at_call 103; refine hu.mono ?_; rintro e w' ⟨rfl, hw'⟩; replace hw' := hw'.symm; subst hw'))
  go_loopg [3] 5 (fun gg i wr => ∃ k : Nat, k ≤ 5 ∧ gg = 5 - k ∧ i = .int .i64 k ∧ RefIn wr B rp vS vW vP (sAt S s k) (wAt (.slice (some ⟨g, 0, none⟩) 1 cp) k) Pl false false left ∧ Only (RFoot rp vS vW vP) w wr)
  case atStart => exact ⟨0, Nat.zero_le _, rfl, rfl, H.out, Only.refl _ _⟩
  case round =>
    obtain ⟨k, hk, rfl, rfl, hR, hO⟩ := hrel
    have c1r := hR.cell.2.1
    rw [EW.out] at c1r
    have hcr : wr.cell? ⟨g, 0, none⟩ = some (.string s) := (World.cell?_of_block (a := ⟨g, 0, none⟩) (hO.block g HC.out.2.2.1 HC.out.2.1)).trans HC.out.1
    have hlS : (sAt S s k).length = 5 := by unfold sAt; split <;> simp [HC.out.2.2.2]
    have hlW : (wAt (.slice (some ⟨g, 0, none⟩) 1 cp) k).length = 5 := by unfold wAt; split <;> simp [oneW]
    by_cases hlt : k < 5
    · obtain ⟨_, hcw, _⟩ := row_head hR.writes EW.out (j := k) (by omega)
      by_cases h2 : k = 2
      · have e1 : (wAt (.slice (some ⟨g, 0, none⟩) 1 cp) k)[k]? = some (.slice (some ⟨g, 0, none⟩) 1 cp) := by rw [h2]; rfl
        have hkeep := refKeep1 hR k (by omega) (by omega) e1 hcp hcm hcr
        rw [e1] at hcw
        have e2 : Hid ((sAt S s k).set k s = sAt S s (k + 1) ∧ (wAt (.slice (some ⟨g, 0, none⟩) 1 cp) k).set k nilS = wAt (.slice (some ⟨g, 0, none⟩) 1 cp) (k + 1)) := by rw [h2]; exact ⟨rfl, rfl⟩
        have HO : Hid (Only (RFoot rp vS vW vP) w wr) := hO
        clear hR hO h2 e1 hlS hlW hcr
        go_wp2_with (go_at_call 105; refine hkeep.mono ?_; rintro e w' ⟨rfl, hR', hO'⟩; rw [e2.out.1, e2.out.2] at hR'; have RR : Hid (RefIn w' B rp vS vW vP (sAt S s (k + 1)) (wAt (.slice (some ⟨g, 0, none⟩) 1 cp) (k + 1)) Pl false false left ∧ Only (RFoot rp vS vW vP) w w') := ⟨hR', HO.out.then hO'⟩; clear hR' hO' hkeep)
        go_roundg (5 - (k + 1))
        case measure => omega
        case rel => exact ⟨k + 1, by omega, rfl, by go_num, RR.out⟩
      · obtain ⟨e1, e3⟩ := at_other S s (.slice (some ⟨g, 0, none⟩) 1 cp) k hlt h2
        have hkeep := refKeep0 hR k (by omega)
        rw [e1] at hcw
        have e2 : Hid (sAt S s k = sAt S s (k + 1) ∧ (wAt (.slice (some ⟨g, 0, none⟩) 1 cp) k).set k nilS = wAt (.slice (some ⟨g, 0, none⟩) 1 cp) (k + 1)) := e3
        have hcw' : wr.cell? ⟨gw, k, none⟩ = some (.slice none 0 0) := hcw
        have HO : Hid (Only (RFoot rp vS vW vP) w wr) := hO
        clear hR hO h2 e1 e3 hlS hlW hcr hcw
        go_wp2_with (go_at_call 105; refine hkeep.mono ?_; rintro e w' ⟨rfl, hR', hO'⟩; rw [e2.out.1, e2.out.2] at hR'; have RR : Hid (RefIn w' B rp vS vW vP (sAt S s (k + 1)) (wAt (.slice (some ⟨g, 0, none⟩) 1 cp) (k + 1)) Pl false false left ∧ Only (RFoot rp vS vW vP) w w') := ⟨hR', HO.out.then hO'⟩; clear hR' hO' hkeep)
        go_roundg (5 - (k + 1))
        case measure => omega
        case rel => exact ⟨k + 1, by omega, rfl, by go_num, RR.out⟩
    · have hk5 : k = 5 := by omega
      subst hk5
      have RR : Hid (RefIn wr B rp vS vW vP (S.set 2 s) (List.replicate 5 nilS) Pl false false left ∧ Only (RFoot rp vS vW vP) w wr) := ⟨hR, hO⟩
      clear hR hO hlS hlW
      go_wp2
      go_ret
      exact ⟨rfl, RR.out⟩
end
end Go.Proofs.YtdgkhjgnjfgnlaaGreat

namespace Go.Proofs.YtdgkhjgnjfgnlaaGreat
open Go.RowKit Go.Maps

def strs (l : List (List UInt8)) : List Value := l.map fun s => .string (txt s)
theorem strs_length (l : List (List UInt8)) : (strs l).length = l.length := List.length_map ..
theorem strs_at {l : List (List UInt8)} {j : Nat} (hj : j < l.length) : (strs l)[j]? = some (.string (txt (l.getD j []))) := by
  unfold strs
  rw [List.getElem?_map, List.getElem?_eq_getElem hj, List.getD_eq_getElem?_getD, List.getElem?_eq_getElem hj]; rfl
structure RefSt (w : World) (rp : Nat) (vS vW vP : Value) (hd : Nat → Value) (R : Dr) : Prop where
  at_ : RefIn w 0 rp vS vW vP (R.safe.map txt) ((List.range R.safe.length).map hd) R.spoilt R.dead R.goes (R.left : Int)
  ok : R.Ok
  rows : ∀ i, w.ownsRow 0 9 1 (hd i) (R.writes i).length (strs (R.writes i))
  off : ∀ i k, (hd i).ownBlock = some k → vS.ownBlock ≠ some k
  nil : ∀ i, R.writes i = [] → hd i = nilS
def RFeet (rp : Nat) (vS vW vP : Value) (hd : Nat → Value) (k : Nat) : Prop := RFoot rp vS vW vP k ∨ ∃ i, (hd i).ownBlock = some k
/-- It lies behind the pointer to block rp, within the blocks of which G holds. -/
def RefAt (w : World) (rp : Nat) (R : Dr) (G : Nat → Prop) : Prop := ∃ vS vW vP hd, RefSt w rp vS vW vP hd R ∧ ∀ k, RFeet rp vS vW vP hd k → G k
section
variable {w w' : World} {rp : Nat} {vS vW vP : Value} {hd : Nat → Value} {R : Dr} {G : Nat → Prop}
theorem RefSt.lt (h : RefSt w rp vS vW vP hd R) : ∀ k, RFeet rp vS vW vP hd k → k < w.heap.size := by
  intro k hk
  rcases hk with hk | ⟨i, hi⟩
  · exact (h.at_.lt k hk).2
  · exact ((h.rows i).lt k hi).2
theorem RefSt.only (h : RefSt w rp vS vW vP hd R) {H : Nat → Prop} (hg : Only H w w') (hn : ∀ k, RFeet rp vS vW vP hd k → ¬ H k) : RefSt w' rp vS vW vP hd R :=
  ⟨h.at_.only hg (fun k hk => hn k (.inl hk)), h.ok, fun i => ownsRow_only hg (h.rows i) (fun k hk => hn k (.inr ⟨i, hk⟩)), h.off, h.nil⟩
theorem RefAt.only {H : Nat → Prop} (h : RefAt w rp R G) (hg : Only H w w') (hn : ∀ k, k < w.heap.size → G k → ¬ H k) : RefAt w' rp R G := by
  obtain ⟨vS, vW, vP, hd, hin, hf⟩ := h
  exact ⟨vS, vW, vP, hd, hin.only hg (fun k hk => hn k (hin.lt k hk) (hf k hk)), hf⟩
theorem RefAt.below (h : RefAt w rp R G) (hb : Below w.heap.size w w') : RefAt w' rp R G :=
  h.only (Only.of_below hb (fun _ => False)) (fun _ _ _ hf => hf)
theorem RefAt.mono {H : Nat → Prop} (h : RefAt w rp R G) (hs : ∀ k, G k → H k) : RefAt w rp R H := by
  obtain ⟨vS, vW, vP, hd, hin, hf⟩ := h
  exact ⟨vS, vW, vP, hd, hin, fun k hk => hs k (hf k hk)⟩
theorem RefAt.tight (h : RefAt w rp R G) : RefAt w rp R (fun k => G k ∧ k < w.heap.size) := by
  obtain ⟨vS, vW, vP, hd, hin, hf⟩ := h
  exact ⟨vS, vW, vP, hd, hin, fun k hk => ⟨hf k hk, hin.lt k hk⟩⟩
theorem RefAt.ok (h : RefAt w rp R G) : R.Ok := by obtain ⟨_, _, _, _, hin, _⟩ := h; exact hin.ok
theorem RefAt.lt (h : RefAt w rp R G) : rp < w.heap.size := by obtain ⟨_, _, _, _, hin, _⟩ := h; exact hin.lt rp (.inl (.inl rfl))
theorem RefAt.mine (h : RefAt w rp R G) : G rp := by obtain ⟨_, _, _, _, _, hf⟩ := h; exact hf rp (.inl (.inl rfl))
theorem own_head {b e n : Nat} {v : Value} {xs : List Value} (h : w.ownsRow b e 1 v n xs) : ∃ a cap, v = .slice a n cap ∧ cap ≤ maxLen ∧ n ≤ cap := by
  rcases h.2 with ⟨rfl, rfl⟩ | ⟨g, cap, cur, rfl, _, _, hn, hm, _⟩
  · exact ⟨none, 0, rfl, Nat.zero_le _, Nat.le_refl _⟩
  · exact ⟨_, cap, rfl, hm, hn⟩
theorem wl_at {n i : Nat} (hi : i < n) (hd : Nat → Value) : ((List.range n).map hd)[i]? = some (hd i) := by simp [hi]

set_option maxRecDepth 100000 in
set_option maxHeartbeats 400000 in
theorem refMay_out {B : Nat} {S : List ByteArray} {Wl : List Value} {Pl : List Bool} {left : Int} (h : RefIn w B rp vS vW vP S Wl Pl false false left) (i : Int) (hi : i < 0 ∨ (S.length : Int) ≤ i) (hS : 0 < S.length) : Calls Tryz.prog 73 #[.pointer (some ⟨rp, 0, none⟩), .int .i64 i] w fun e w' => e = .returned (.int .i64 70) ∧ w' = w := by
  have ho := refOff_alive h
  obtain ⟨c0, _, _, c3, _, _, _⟩ := h.cell
  obtain ⟨g, cap, e, _, _, hcap, hmax, _, _⟩ := ownsRow_at h.safes hS
  rw [e] at c0
  unfold maxLen at hmax
  obtain ⟨n, hn⟩ : ∃ n, n = S.length := ⟨_, rfl⟩
  rw [← hn] at c0 hi hcap hS
  clear h e hn
  by_cases h0 : i < 0
  · go_enter Tryz.func73, Tryz.ntmps73
    go_wp2_with fail
    refine ho.mono ?_
    rintro e w' ⟨rfl, rfl⟩
    go_wp2
    go_ret
    exact ⟨rfl, rfl⟩
  · have h1 : (n : Int) ≤ i := by omega
    clear hi
    go_enter Tryz.func73, Tryz.ntmps73
    go_wp2_with fail
    refine ho.mono ?_
    rintro e w' ⟨rfl, rfl⟩
    go_wp2
    go_ret
    exact ⟨rfl, rfl⟩
/-- may, of whatever sector -/
theorem rMayE_any (h : RefSt w rp vS vW vP hd R) (hg : R.goes = false) (i : Int) : Calls Tryz.prog 73 #[.pointer (some ⟨rp, 0, none⟩), .int .i64 i] w fun e w' => e = .returned (.int .i64 (R.reachE i : Nat)) ∧ w' = w := by
  have ha := h.at_
  have hlen : (R.safe.map txt).length = R.safe.length := List.length_map ..
  rw [hg] at ha
  cases hd' : R.dead with
  | true =>
    rw [hd'] at ha
    rw [show R.reachE i = 40 by unfold Dr.reachE Dr.runsE; rw [hd']; rfl]
    exact refMay_dead ha i
  | false =>
    rw [hd'] at ha
    have hr : R.runsE = 0 := by unfold Dr.runsE; rw [hd', hg]; rfl
    by_cases hi : 0 ≤ i ∧ i < (R.safe.length : Int)
    · obtain ⟨k, rfl⟩ := Int.eq_ofNat_of_zero_le hi.1
      rw [reachE_yes hr (by omega)]
      exact refMay_alive ha k (by rw [hlen]; omega)
    · rw [show R.reachE i = 70 by
        unfold Dr.reachE Dr.hasB
        rw [if_pos hr, if_neg]
        simp only [Bool.and_eq_true, decide_eq_true_eq]; exact hi]
      exact refMay_out ha i (by rw [hlen]; omega) (by rw [hlen]; exact h.ok.pos)

set_option maxRecDepth 100000 in
set_option maxHeartbeats 1000000 in
theorem rRead_no (h : RefSt w rp vS vW vP hd R) (hg : R.goes = false) (i : Int) (hr : R.reachE i ≠ 0) : Calls Tryz.prog 45 #[.pointer (some ⟨rp, 0, none⟩), .int .i64 i] w fun e w' => e = .returned (.tuple #[.string ⟨#[]⟩, .int .i64 (R.reachE i : Nat)]) ∧ w' = w := by
  have hm := rMayE_any h hg i
  obtain ⟨r, er⟩ : ∃ r, r = R.reachE i := ⟨_, rfl⟩
  rw [← er] at hr hm ⊢
  have hne : ((r : Int) != 0) = true := by simp only [bne_iff_ne, ne_eq]; omega
  clear h er
  go_enter Tryz.func45, Tryz.ntmps45
  go_wp2_with fail
  refine hm.mono ?_
  rintro e w' ⟨rfl, rfl⟩
  go_wp2
  go_ret2
  exact ⟨rfl, rfl⟩
set_option maxRecDepth 100000 in
set_option maxHeartbeats 2000000 in
theorem rRead_yes (h : RefSt w rp vS vW vP hd R) (hg : R.goes = false) (i : Nat) (hi : i < R.safe.length) (hr : R.reachE i = 0) : Calls Tryz.prog 45 #[.pointer (some ⟨rp, 0, none⟩), .int .i64 (i : Nat)] w fun e w' => e = .returned (.tuple #[.string (if R.spoilt.getD i false then ⟨#[]⟩ else txt (R.last i)), .int .i64 (if R.spoilt.getD i false then 41 else 0)]) ∧ w' = w := by
  have hm := rMayE_any h hg i
  rw [hr] at hm
  obtain ⟨c0, c1, c2, _, _, _, _⟩ := h.at_.cell
  have hsp : R.spoilt.length = R.safe.length := h.ok.spoilt
  obtain ⟨gs, cs, es, _, hgs, hcaps, hmaxs, hcs, _⟩ := ownsRow_at h.at_.safes (j := i) (by rw [List.length_map]; exact hi)
  obtain ⟨gw, cw, ew, _, hgw, hcapw, hmaxw, hcw, _⟩ := ownsRow_at h.at_.writes (j := i) (by rw [List.length_map, List.length_range]; exact hi)
  obtain ⟨gp, cp, ep, _, hgp, hcapp, hmaxp, hcp, _⟩ := ownsRow_at h.at_.spoilt (j := i) (by rw [hsp]; exact hi)
  rw [wl_at hi] at hcw
  rw [List.length_map, List.length_range] at ew hcapw
  rw [List.length_map] at es hcaps
  rw [hsp] at ep hcapp
  have hx : ((R.safe.map txt).map Value.string)[i]? = some (.string (txt (R.safe.getD i []))) := by
    rw [List.getElem?_map, List.getElem?_map, List.getElem?_eq_getElem hi, List.getD_eq_getElem?_getD, List.getElem?_eq_getElem hi]; rfl
  rw [hx] at hcs
  have hy : (R.spoilt.map Value.bool)[i]? = some (.bool (R.spoilt.getD i false)) := by
    rw [List.getElem?_map, List.getElem?_eq_getElem (by rw [hsp]; exact hi), List.getD_eq_getElem?_getD, List.getElem?_eq_getElem (by rw [hsp]; exact hi)]; rfl
  rw [hy] at hcp
  rw [es] at c0
  rw [ew] at c1
  rw [ep] at c2
  unfold maxLen at hmaxs hmaxw hmaxp
  have hrow := h.rows i
  have hn4 := h.ok.le
  obtain ⟨n, hn⟩ : ∃ n, n = R.safe.length := ⟨_, rfl⟩
  rw [← hn] at c0 c1 c2 hi hcaps hcapw hcapp hn4
  cases hb : R.spoilt.getD i false with
  | true =>
    rw [hb] at hcp
    clear h es ew ep hx hy hn hr hrow
    go_enter Tryz.func45, Tryz.ntmps45
    go_wp2_with fail
    refine hm.mono ?_
    rintro e w' ⟨rfl, rfl⟩
    go_wp2
    go_ret2
    exact ⟨rfl, rfl⟩
  | false =>
    rw [hb] at hcp
    by_cases hw : R.writes i = []
    · have hlast : R.last i = R.safe.getD i [] := if_pos hw
      obtain ⟨a, cap, e, _, _⟩ := own_head hrow
      rw [hw] at e
      rw [e] at hcw
      rw [hlast]
      obtain ⟨x, ex⟩ : ∃ x, x = txt (R.safe.getD i []) := ⟨_, rfl⟩
      rw [← ex] at hcs ⊢
      simp only [List.length_nil] at hcw
      clear h es ew ep hx hy hn hr hrow e hlast hw ex
      go_enter Tryz.func45, Tryz.ntmps45
      go_wp2_with fail
      refine hm.mono ?_
      rintro e w' ⟨rfl, rfl⟩
      go_wp2
      go_ret2
      exact ⟨rfl, rfl⟩
    · have hlast : R.last i = (R.writes i).getD ((R.writes i).length - 1) [] := if_neg hw
      have hpos := List.length_pos_iff.2 hw
      obtain ⟨g, cap, e, _, _, hcap, hmax, hc, _⟩ := ownsRow_at hrow (j := (R.writes i).length - 1) (by omega)
      rw [strs_at (by omega)] at hc
      rw [e] at hcw
      rw [hlast]
      obtain ⟨x, ex⟩ : ∃ x, x = txt ((R.writes i).getD ((R.writes i).length - 1) []) := ⟨_, rfl⟩
      rw [← ex] at hc ⊢
      obtain ⟨m, em⟩ : ∃ m, m + 1 = (R.writes i).length := ⟨(R.writes i).length - 1, by omega⟩
      rw [← em] at hc hcw hcap
      rw [Nat.add_sub_cancel] at hc
      unfold maxLen at hmax
      have hcw2 : w.cell? ⟨gw, i, none⟩ = some (.slice (some ⟨g, 0, none⟩) (m + 1) cap) := hcw
      have hm1 : IntKind.i64.wrap (((m + 1 : Nat) : Int) - 1) = (m : Int) := by rw [IntKind.wrap_i64]; omega
      have hm2 : ((m + 1 : Nat) : Int) - 1 = (m : Int) := by omega
      clear h es ew ep hx hy hn hr hrow e hlast hw ex em hcw hpos
      go_enter Tryz.func45, Tryz.ntmps45
      go_wp2_with fail
      refine hm.mono ?_
      rintro e w' ⟨rfl, rfl⟩
      go_wp2
      go_ret2
      exact ⟨rfl, rfl⟩
theorem rRead_any (h : RefAt w rp R G) (hg : R.goes = false) (i : Int) : Calls Tryz.prog 45 #[.pointer (some ⟨rp, 0, none⟩), .int .i64 i] w fun e w' => e = .returned (.tuple #[.string (txt (R.readS i)), .int .i64 (R.readE i : Nat)]) ∧ w' = w := by
  obtain ⟨vS, vW, vP, hd, h, _⟩ := h
  unfold Dr.readS Dr.readE
  by_cases hr : R.reachE i = 0
  · obtain ⟨h0, hb⟩ := Dr.reach_has hr
    obtain ⟨k, rfl, hk⟩ := Dr.hasB_nat hb
    have := rRead_yes h hg k hk hr
    rw [hr]
    simp only [if_true, Int.toNat_natCast]
    refine this.mono ?_
    rintro e w' ⟨rfl, rfl⟩
    refine ⟨?_, rfl⟩
    rcases Bool.eq_false_or_eq_true (R.spoilt.getD k false) with hb | hb
    · simp only [hb]; rfl
    · simp only [hb]; rfl
  · simp only [if_neg hr]
    exact rRead_no h hg i hr
end
end Go.Proofs.YtdgkhjgnjfgnlaaGreat
