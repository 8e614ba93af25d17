import Derived.Test.YtdgkhjgnjfgnlaaGreatMRefA
namespace Go.Proofs.YtdgkhjgnjfgnlaaGreat
open Go.RowKit Go.Maps
set_option maxRecDepth 100000 in
set_option maxHeartbeats 2000000 in
theorem refNewN (n : Nat) (h1 : 1 ≤ n) (h2 : n ≤ 4096) (w : World) : Calls Tryz.prog 33 #[.int .i64 (n : Nat)] w fun e w' => ∃ rp vS vW vP, e = .returned (.pointer (some ⟨rp, 0, none⟩)) ∧
  RefIn w' w.heap.size rp vS vW vP (List.replicate n blankB) (List.replicate n nilS) (List.replicate n false) false false 0 ∧ Below w.heap.size w w' := by
 have g1 : ¬ (n : Int) < 1 := by omega
 have g2 : ¬ (4096 : Int) < (n : Int) := by omega
 obtain ⟨iS, hS0, hS1, hS2, hS3⟩ := info_parts info_str
 obtain ⟨iW, hW0, hW1, hW2', hW3⟩ := info_parts info_strs
 obtain ⟨iP, hP0, hP1, hP2, hP3⟩ := info_parts info_bool3
 have hbl := blank_any
 obtain ⟨bk, ebk⟩ : ∃ bk, bk = blankB := ⟨_, rfl⟩
 rw [← ebk] at hbl ⊢
 clear ebk
 go_enter Tryz.func33, Tryz.ntmps33
 go_wp2_with (go_at_call 61; refine (hbl _).mono ?_; rintro e w' ⟨rfl, rfl⟩)
 go_loopg [5] n (fun g i wr => ∃ (k : Nat) (vS vW vP : Value), k ≤ n ∧ g = n - k ∧ i = .int .i64 k ∧ RefIn wr w.heap.size w.heap.size vS vW vP (List.replicate k bk) (List.replicate k nilS) (List.replicate k false) false false 0 ∧ Below w.heap.size w wr)
 case atStart =>
  refine ⟨0, .slice none 0 0, .slice none 0 0, .slice none 0 0, Nat.zero_le _, rfl, rfl, ⟨heap_alloc_last w _, Nat.le_refl _, World.ownsRow_nil _ _ _ _, World.ownsRow_nil _ _ _ _, World.ownsRow_nil _ _ _ _⟩, (Below.refl _ _).alloc (Nat.le_refl _) _⟩
 case round =>
  obtain ⟨k, vS, vW, vP, hk, rfl, rfl, hR, hb⟩ := hrel
  have R : Hid (RefIn wr w.heap.size w.heap.size vS vW vP (List.replicate k bk) (List.replicate k nilS) (List.replicate k false) false false 0) := hR
  have HB : Hid (Below w.heap.size w wr) := hb
  obtain ⟨c0, c1, c2, c3, c4, c5, cf⟩ := hR.cell
  have hlen : ∀ (α : Type) (x : α), (List.replicate k x).length = k := fun _ _ => List.length_replicate
  clear hR hb
  by_cases hlt : k < n
  ·have hki : (k : Int) < (n : Int) := by omega
   have t1 : True := trivial
   have OS : Hid (wr.ownsRow w.heap.size 9 1 vS k ((List.replicate k bk).map Value.string)) := by have := R.out.safes; rwa [List.length_replicate] at this
   go_wp2_with (first
    | (at_builtin; have _t := t1; refine wpList_append_own _ rfl _ _ 40 rfl w.heap.size 9 iS (.string ByteArray.empty) 1 16 Tryz.underlying40 hS0 hS1 hS2 hS3 rfl (by decide) vS k ((List.replicate k bk).map Value.string) rfl (OS.out.alloc _) ⟨wr.heap.size, 0, none⟩ 1 1 [.string bk] rfl rfl (cell_one_new _ _ _) (by simp [Value.oneCell']) (by unfold maxLen; omega) (by omega) (by simp; have := HB.out.size; omega) ?_; intro v1 w1 hown1 hgrow1 _; obtain ⟨g1, p1, rfl⟩ := ownsRow_succ hown1; obtain ⟨R2, hr1⟩ := R.out.grow0 (x := bk) (by rw [List.length_replicate]; exact hown1) hgrow1; have RR2 : Hid (RefIn (w1.setCell ⟨w.heap.size, 0, none⟩ (.slice (some ⟨g1, 0, none⟩) (k + 1) p1)) w.heap.size w.heap.size (.slice (some ⟨g1, 0, none⟩) (k + 1) p1) vW vP (List.replicate k bk ++ [bk]) (List.replicate k nilS) (List.replicate k false) false false 0) := R2; have BB1 : Hid (Below w.heap.size w w1) := (HB.out.alloc HB.out.size _).grown hgrow1 (by simp; have := HB.out.size; omega) (fun j hj => (OS.out.lt j hj).1); have a0 := (World.cell?_of_block (a := ⟨w.heap.size, 0, none⟩) hr1).trans c0; have a1 := (World.cell?_of_block (a := ⟨w.heap.size, 1, none⟩) hr1).trans c1; have a2 := (World.cell?_of_block (a := ⟨w.heap.size, 2, none⟩) hr1).trans c2; have af : ∀ j, w1.frozen? ⟨w.heap.size, j, none⟩ = false := (fun j => (World.frozen?_of_block (a := ⟨w.heap.size, j, none⟩) hr1).trans (cf j)); have t2 : True := trivial; clear t1 R2 hown1 hgrow1 hr1)
    | (at_builtin; have _t := t2; generalize hW2 : World.setCell w1 _ _ = w2 at RR2 ⊢; have hz2 : w2.heap.size = w1.heap.size := (by rw [← hW2]; simp [World.setCell]); have BB2 : Hid (Below w.heap.size w w2) := (by unfold Hid; rw [← hW2]; exact BB1.out.setCell (p := ⟨w.heap.size, 0, none⟩) (Nat.le_refl _) _); have OW : Hid (w2.ownsRow w.heap.size 40 1 vW k (List.replicate k nilS)) := (by have := RR2.out.writes; rwa [List.length_replicate] at this); have CN : Hid (∀ j u, [nilS][j]? = some u → (w2.alloc (.cells #[nilS] 40)).cell? ((⟨w1.heap.size, 0, none⟩ : Addr).add j) = some u) := (by have := cell_one_new w2 nilS 40; rwa [hz2] at this); refine wpList_append_own _ rfl _ _ 70 rfl w.heap.size 40 iW (.slice none 0 0) 1 24 Tryz.underlying70 hW0 hW1 hW2' hW3 rfl (by decide) vW k (List.replicate k nilS) rfl (OW.out.alloc _) ⟨w1.heap.size, 0, none⟩ 1 1 [nilS] rfl rfl CN.out (by simp [Value.oneCell', nilS]) (by unfold maxLen; omega) (by omega) (by simp; have := BB2.out.size; omega) ?_; intro v2 w3 hown3 hgrow3 _; obtain ⟨g2, p2, rfl⟩ := ownsRow_succ hown3; obtain ⟨R3, hr3⟩ := RR2.out.grow1 (x := nilS) (by rw [List.length_replicate]; exact hown3) hgrow3; have RR3 : Hid (RefIn (w3.setCell ⟨w.heap.size, 1, none⟩ (.slice (some ⟨g2, 0, none⟩) (k + 1) p2)) w.heap.size w.heap.size (.slice (some ⟨g1, 0, none⟩) (k + 1) p1) (.slice (some ⟨g2, 0, none⟩) (k + 1) p2) vP (List.replicate k bk ++ [bk]) (List.replicate k nilS ++ [nilS]) (List.replicate k false) false false 0) := R3; have BB3 : Hid (Below w.heap.size w w3) := (BB2.out.alloc BB2.out.size _).grown hgrow3 (by simp; have := BB2.out.size; omega) (fun j hj => (OW.out.lt j hj).1); obtain ⟨d0, d1, d2, _, _, _, df⟩ := RR2.out.cell; have e1 := (World.cell?_of_block (a := ⟨w.heap.size, 1, none⟩) hr3).trans d1; have e2 := (World.cell?_of_block (a := ⟨w.heap.size, 2, none⟩) hr3).trans d2; have ef : ∀ j, w3.frozen? ⟨w.heap.size, j, none⟩ = false := (fun j => (World.frozen?_of_block (a := ⟨w.heap.size, j, none⟩) hr3).trans (df j)); have t3 : True := trivial; clear t2 R3 hown3 hgrow3 hr3 d0 d1 d2 df hz2 hW2)
    | (at_builtin; have _t := t3; generalize hW4 : World.setCell w3 _ _ = w4 at RR3 ⊢; have hz4 : w4.heap.size = w3.heap.size := (by rw [← hW4]; simp [World.setCell]); have BB4 : Hid (Below w.heap.size w w4) := (by unfold Hid; rw [← hW4]; exact BB3.out.setCell (p := ⟨w.heap.size, 1, none⟩) (Nat.le_refl _) _); have OP : Hid (w4.ownsRow w.heap.size 4 1 vP k ((List.replicate k false).map Value.bool)) := (by have := RR3.out.spoilt; rwa [List.length_replicate] at this); have CN : Hid (∀ j u, [Value.bool false][j]? = some u → (w4.alloc (.cells #[.bool false] 4)).cell? ((⟨w3.heap.size, 0, none⟩ : Addr).add j) = some u) := (by have := cell_one_new w4 (.bool false) 4; rwa [hz4] at this); refine wpList_append_own _ rfl _ _ 71 rfl w.heap.size 4 iP (.bool false) 1 1 Tryz.underlying71 hP0 hP1 hP2 hP3 rfl (by decide) vP k ((List.replicate k false).map Value.bool) rfl (OP.out.alloc _) ⟨w3.heap.size, 0, none⟩ 1 1 [.bool false] rfl rfl CN.out (by simp [Value.oneCell']) (by unfold maxLen; omega) (by omega) (by simp; have := BB4.out.size; omega) ?_; intro v5 w5 hown5 hgrow5 _; obtain ⟨g3, p3, rfl⟩ := ownsRow_succ hown5; obtain ⟨R5, hr5⟩ := RR3.out.grow2 (x := false) (by rw [List.length_replicate]; exact hown5) hgrow5; have RR5 : Hid (RefIn (w5.setCell ⟨w.heap.size, 2, none⟩ (.slice (some ⟨g3, 0, none⟩) (k + 1) p3)) w.heap.size w.heap.size (.slice (some ⟨g1, 0, none⟩) (k + 1) p1) (.slice (some ⟨g2, 0, none⟩) (k + 1) p2) (.slice (some ⟨g3, 0, none⟩) (k + 1) p3) (List.replicate k bk ++ [bk]) (List.replicate k nilS ++ [nilS]) (List.replicate k false ++ [false]) false false 0) := R5; have BB5 : Hid (Below w.heap.size w w5) := (BB4.out.alloc BB4.out.size _).grown hgrow5 (by simp; have := BB4.out.size; omega) (fun j hj => (OP.out.lt j hj).1); obtain ⟨d0, d1, d2, _, _, _, df⟩ := RR3.out.cell; have f2 := (World.cell?_of_block (a := ⟨w.heap.size, 2, none⟩) hr5).trans d2; have ff : ∀ j, w5.frozen? ⟨w.heap.size, j, none⟩ = false := (fun j => (World.frozen?_of_block (a := ⟨w.heap.size, j, none⟩) hr5).trans (df j)); clear t3 R5 hown5 hgrow5 hr5 d0 d1 d2 df hz4 hW4))
   go_roundg (n - (k + 1))
   case measure => omega
   case rel =>
    have hfin := RR5.out
    rw [← List.replicate_succ', ← List.replicate_succ', ← List.replicate_succ'] at hfin
    exact ⟨k + 1, _, _, _, by omega, rfl, by go_num, hfin, BB5.out.setCell (p := ⟨w.heap.size, 2, none⟩) (Nat.le_refl _) _⟩
  ·have hk5 : k = n := by omega
   subst hk5
   go_wp2
   go_ret
   exact ⟨_, _, _, _, rfl, R.out, HB.out⟩
end Go.Proofs.YtdgkhjgnjfgnlaaGreat
