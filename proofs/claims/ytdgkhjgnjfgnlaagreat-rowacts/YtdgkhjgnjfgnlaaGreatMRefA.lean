import Derived.Test.YtdgkhjgnjfgnlaaGreatMDrvD
import Derived.Deep.LoopGhost
import Derived.Test.YtdgkhjgnjfgnlaaGreatDrvSettle
import Derived.Test.YtdgkhjgnjfgnlaaGreatMDrvC
namespace Go.Proofs.YtdgkhjgnjfgnlaaGreat
open Go.RowKit Go.Maps
structure RefIn (w : World) (B rp : Nat) (vS vW vP : Value) (S : List ByteArray) (Wl : List Value) (Pl : List Bool) (gone cut : Bool) (left : Int) : Prop where
 self : w.heap[rp]? = some (.cells #[vS, vW, vP, .bool gone, .bool cut, .int .i64 left] 73 (0, 0))
 lo : B ≤ rp
 safes : w.ownsRow B 9 1 vS S.length (S.map Value.string)
 writes : w.ownsRow B 40 1 vW Wl.length Wl
 spoilt : w.ownsRow B 4 1 vP Pl.length (Pl.map Value.bool)
def RFoot (rp : Nat) (vS vW vP : Value) (k : Nat) : Prop := k = rp ∨ vS.ownBlock = some k ∨ vW.ownBlock = some k ∨ vP.ownBlock = some k
section
variable {w : World} {B rp : Nat} {vS vW vP : Value} {S : List ByteArray} {Wl : List Value} {Pl : List Bool} {gone cut : Bool} {left : Int}
theorem row_type {w : World} {b t s n : Nat} {v : Value} {xs : List Value} (h : w.ownsRow b t s v n xs) {k : Nat} (hk : v.ownBlock = some k) : ∃ cur, w.heap[k]? = some (.cells cur t (0, 0)) := by
 rcases h.2 with ⟨rfl, _⟩ | ⟨g, cap, cur, rfl, _, hg, _⟩
 ·simp [Value.ownBlock] at hk
 ·simp [Value.ownBlock] at hk; subst hk; exact ⟨cur, hg⟩
theorem RefIn.lt (h : RefIn w B rp vS vW vP S Wl Pl gone cut left) : ∀ k, RFoot rp vS vW vP k → B ≤ k ∧ k < w.heap.size := by
 intro k hk
 rcases hk with rfl | hk | hk | hk
 ·exact ⟨h.lo, (Array.getElem?_eq_some_iff.1 h.self).1⟩
 ·exact h.safes.lt k hk
 ·exact h.writes.lt k hk
 ·exact h.spoilt.lt k hk
theorem RefIn.neS (h : RefIn w B rp vS vW vP S Wl Pl gone cut left) : vS.ownBlock ≠ some rp := fun e => by
 obtain ⟨cur, hc⟩ := row_type h.safes e; have := h.self; rw [hc] at this; simp at this
theorem RefIn.neW (h : RefIn w B rp vS vW vP S Wl Pl gone cut left) : vW.ownBlock ≠ some rp := fun e => by
 obtain ⟨cur, hc⟩ := row_type h.writes e; have := h.self; rw [hc] at this; simp at this
theorem RefIn.neP (h : RefIn w B rp vS vW vP S Wl Pl gone cut left) : vP.ownBlock ≠ some rp := fun e => by
 obtain ⟨cur, hc⟩ := row_type h.spoilt e; have := h.self; rw [hc] at this; simp at this
theorem RefIn.cell (h : RefIn w B rp vS vW vP S Wl Pl gone cut left) : w.cell? ⟨rp, 0, none⟩ = some vS ∧ w.cell? ⟨rp, 1, none⟩ = some vW ∧ w.cell? ⟨rp, 2, none⟩ = some vP ∧ w.cell? ⟨rp, 3, none⟩ = some (.bool gone) ∧ w.cell? ⟨rp, 4, none⟩ = some (.bool cut) ∧ w.cell? ⟨rp, 5, none⟩ = some (.int .i64 left) ∧ ∀ j, w.frozen? ⟨rp, j, none⟩ = false :=
  ⟨by rw [cell_of_row w rp 0 _ _ _ h.self]; rfl, by rw [cell_of_row w rp 1 _ _ _ h.self]; rfl, by rw [cell_of_row w rp 2 _ _ _ h.self]; rfl, by rw [cell_of_row w rp 3 _ _ _ h.self]; rfl,
   by rw [cell_of_row w rp 4 _ _ _ h.self]; rfl, by rw [cell_of_row w rp 5 _ _ _ h.self]; rfl, fun j => frozen_of_row w rp j _ _ h.self⟩
theorem RefIn.only (h : RefIn w B rp vS vW vP S Wl Pl gone cut left) {w' : World} {G : Nat → Prop} (hg : Only G w w') (hn : ∀ k, RFoot rp vS vW vP k → ¬ G k) : RefIn w' B rp vS vW vP S Wl Pl gone cut left :=
 ⟨(hg.block rp (h.lt rp (.inl rfl)).2 (hn rp (.inl rfl))).trans h.self, h.lo, ownsRow_only hg h.safes (fun k hk => hn k (.inr (.inl hk))), ownsRow_only hg h.writes (fun k hk => hn k (.inr (.inr (.inl hk)))), ownsRow_only hg h.spoilt (fun k hk => hn k (.inr (.inr (.inr hk))))⟩
theorem RefIn.alloc (h : RefIn w B rp vS vW vP S Wl Pl gone cut left) (o : Obj) : RefIn (w.alloc o) B rp vS vW vP S Wl Pl gone cut left := h.only (Only.alloc (fun _ => False) w o) (fun _ _ hf => hf)
theorem RefIn.turn (h : RefIn w B rp vS vW vP S Wl Pl gone cut left) {w' : World} {gone' cut' : Bool} {left' : Int} (hg : Only (One rp) w w')
  (hs : w'.heap[rp]? = some (.cells #[vS, vW, vP, .bool gone', .bool cut', .int .i64 left'] 73 (0, 0))) : RefIn w' B rp vS vW vP S Wl Pl gone' cut' left' :=
 ⟨hs, h.lo, ownsRow_only hg h.safes (fun k hk e => h.neS (by rw [hk]; exact congrArg some e)), ownsRow_only hg h.writes (fun k hk e => h.neW (by rw [hk]; exact congrArg some e)), ownsRow_only hg h.spoilt (fun k hk e => h.neP (by rw [hk]; exact congrArg some e))⟩
end
theorem append_ne {w w1 : World} {v : Value} {tmp : Obj} (hg : (w.alloc tmp).grownBy w1 v.ownBlock) {k : Nat} (hk : k < w.heap.size) (hn : v.ownBlock ≠ some k) : w1.heap[k]? = w.heap[k]? :=
 (hg.block k (by simp; omega) (fun e => hn e.symm)).trans (Below.heap_alloc w tmp k hk)
section
variable {w w1 : World} {B rp : Nat} {vS vW vP v' : Value} {S : List ByteArray} {Wl : List Value} {Pl : List Bool} {gone cut : Bool} {left : Int} {tmp : Obj}
theorem RefIn.grow0 (h : RefIn w B rp vS vW vP S Wl Pl gone cut left) {x : ByteArray} (ho : w1.ownsRow B 9 1 v' (S.length + 1) (S.map Value.string ++ [.string x])) (hg : (w.alloc tmp).grownBy w1 vS.ownBlock) :
  RefIn (w1.setCell ⟨rp, 0, none⟩ v') B rp v' vW vP (S ++ [x]) Wl Pl gone cut left ∧ w1.heap[rp]? = w.heap[rp]? := by
 have hrp := append_ne hg (h.lt rp (.inl rfl)).2 h.neS
 have o : Only (One rp) w1 (w1.setCell ⟨rp, 0, none⟩ v') := Only.setCell _ w1 ⟨rp, 0, none⟩ _ rfl
 have nev : v'.ownBlock ≠ some rp := fun e => by
  obtain ⟨cur, hc⟩ := row_type ho e; rw [hrp, h.self] at hc; simp at hc
 refine ⟨⟨?_, h.lo, ?_, ?_, ?_⟩, hrp⟩
 ·rw [heap_setCell_same w1 rp 0 _ _ _ (hrp.trans h.self)]; rfl
 ·rw [List.length_append, List.map_append]
  exact ownsRow_only o ho (fun k hk e => nev (by rw [hk]; exact congrArg some e))
 ·exact ownsRow_only o (ownsRow_across h.writes h.safes (by decide) hg) (fun k hk e => h.neW (by rw [hk]; exact congrArg some e))
 ·exact ownsRow_only o (ownsRow_across h.spoilt h.safes (by decide) hg) (fun k hk e => h.neP (by rw [hk]; exact congrArg some e))
theorem RefIn.grow1 (h : RefIn w B rp vS vW vP S Wl Pl gone cut left) {x : Value} (ho : w1.ownsRow B 40 1 v' (Wl.length + 1) (Wl ++ [x])) (hg : (w.alloc tmp).grownBy w1 vW.ownBlock) :
  RefIn (w1.setCell ⟨rp, 1, none⟩ v') B rp vS v' vP S (Wl ++ [x]) Pl gone cut left ∧ w1.heap[rp]? = w.heap[rp]? := by
 have hrp := append_ne hg (h.lt rp (.inl rfl)).2 h.neW
 have o : Only (One rp) w1 (w1.setCell ⟨rp, 1, none⟩ v') := Only.setCell _ w1 ⟨rp, 1, none⟩ _ rfl
 have nev : v'.ownBlock ≠ some rp := fun e => by
  obtain ⟨cur, hc⟩ := row_type ho e; rw [hrp, h.self] at hc; simp at hc
 refine ⟨⟨?_, h.lo, ?_, ?_, ?_⟩, hrp⟩
 ·rw [heap_setCell_same w1 rp 1 _ _ _ (hrp.trans h.self)]; rfl
 ·exact ownsRow_only o (ownsRow_across h.safes h.writes (by decide) hg) (fun k hk e => h.neS (by rw [hk]; exact congrArg some e))
 ·rw [List.length_append]
  exact ownsRow_only o ho (fun k hk e => nev (by rw [hk]; exact congrArg some e))
 ·exact ownsRow_only o (ownsRow_across h.spoilt h.writes (by decide) hg) (fun k hk e => h.neP (by rw [hk]; exact congrArg some e))
theorem RefIn.grow2 (h : RefIn w B rp vS vW vP S Wl Pl gone cut left) {x : Bool} (ho : w1.ownsRow B 4 1 v' (Pl.length + 1) (Pl.map Value.bool ++ [.bool x])) (hg : (w.alloc tmp).grownBy w1 vP.ownBlock) :
  RefIn (w1.setCell ⟨rp, 2, none⟩ v') B rp vS vW v' S Wl (Pl ++ [x]) gone cut left ∧ w1.heap[rp]? = w.heap[rp]? := by
 have hrp := append_ne hg (h.lt rp (.inl rfl)).2 h.neP
 have o : Only (One rp) w1 (w1.setCell ⟨rp, 2, none⟩ v') := Only.setCell _ w1 ⟨rp, 2, none⟩ _ rfl
 have nev : v'.ownBlock ≠ some rp := fun e => by
  obtain ⟨cur, hc⟩ := row_type ho e; rw [hrp, h.self] at hc; simp at hc
 refine ⟨⟨?_, h.lo, ?_, ?_, ?_⟩, hrp⟩
 ·rw [heap_setCell_same w1 rp 2 _ _ _ (hrp.trans h.self)]; rfl
 ·exact ownsRow_only o (ownsRow_across h.safes h.spoilt (by decide) hg) (fun k hk e => h.neS (by rw [hk]; exact congrArg some e))
 ·exact ownsRow_only o (ownsRow_across h.writes h.spoilt (by decide) hg) (fun k hk e => h.neW (by rw [hk]; exact congrArg some e))
 ·rw [List.length_append, List.map_append]
  exact ownsRow_only o ho (fun k hk e => nev (by rw [hk]; exact congrArg some e))
end
end Go.Proofs.YtdgkhjgnjfgnlaaGreat
namespace Go.Proofs.YtdgkhjgnjfgnlaaGreat
open Go.RowKit Go.Maps
def nilS : Value := .slice none 0 0
theorem info_str : (Tryz.prog.info? 9).map (fun i => (i.zero, i.size, i.bytes)) = some (some (.string ByteArray.empty), 1, 16) := by kernel_rfl
theorem info_strs : (Tryz.prog.info? 40).map (fun i => (i.zero, i.size, i.bytes)) = some (some (.slice none 0 0), 1, 24) := by kernel_rfl
end Go.Proofs.YtdgkhjgnjfgnlaaGreat
namespace Go.Proofs.YtdgkhjgnjfgnlaaGreat
open Go.RowKit Go.Maps
section
variable {w : World} {B rp : Nat} {vS vW vP : Value} {S : List ByteArray} {Wl : List Value} {Pl : List Bool} {gone cut : Bool} {left : Int}
theorem ownsRow_put {w : World} {b e n : Nat} {v : Value} {xs : List Value} (h : w.ownsRow b e 1 v n xs) {g : Nat} (hg : v.ownBlock = some g) (j : Nat) (u : Value) : (w.setCell ⟨g, j, none⟩ u).ownsRow b e 1 v n (xs.set j u) := by
 refine ⟨by rw [List.length_set]; exact h.1, ?_⟩
 rcases h.2 with ⟨rfl, _⟩ | ⟨g', cap, cur, rfl, hb, hc, hn, hm, hs, ht⟩
 ·simp [Value.ownBlock] at hg
 ·simp [Value.ownBlock] at hg; subst hg
  refine .inr ⟨g', cap, _, rfl, hb, heap_setCell_same w g' j cur e u hc, hn, hm, by simpa using hs, ?_⟩
  rw [Array.toList_setIfInBounds, List.take_set, ht]
theorem ownsRow_at {w : World} {b e n : Nat} {v : Value} {xs : List Value} (h : w.ownsRow b e 1 v n xs) {j : Nat} (hj : j < n) : ∃ g cap, v = .slice (some ⟨g, 0, none⟩) n cap ∧ b ≤ g ∧ g < w.heap.size ∧ n ≤ cap ∧ cap ≤ maxLen ∧ w.cell? ⟨g, j, none⟩ = xs[j]? ∧ w.frozen? ⟨g, j, none⟩ = false := by
 rcases h.2 with ⟨_, rfl⟩ | ⟨g, cap, cur, rfl, hb, hc, hn, hm, hs, ht⟩
 ·omega
 ·refine ⟨g, cap, rfl, hb, (Array.getElem?_eq_some_iff.1 hc).1, hn, hm, ?_, frozen_of_row w g j cur e hc⟩
  rw [cell_of_row w g j cur e _ hc, ← ht, List.getElem?_take, if_pos (by omega)]; simp
set_option maxRecDepth 100000 in
set_option maxHeartbeats 400000 in
theorem refOff_alive (h : RefIn w B rp vS vW vP S Wl Pl gone false left) : Calls Tryz.prog 104 #[.pointer (some ⟨rp, 0, none⟩)] w fun e w' => e = .returned (.bool false) ∧ w' = w := by
 obtain ⟨_, _, _, _, c4, c5, _⟩ := h.cell
 clear h
 go_enter Tryz.func104, Tryz.ntmps104
 go_wp2
 go_ret
 exact ⟨rfl, rfl⟩
set_option maxRecDepth 100000 in
set_option maxHeartbeats 400000 in
theorem refUse_alive (h : RefIn w B rp vS vW vP S Wl Pl gone false left) : Calls Tryz.prog 103 #[.pointer (some ⟨rp, 0, none⟩)] w fun e w' => e = .returned (.tuple #[]) ∧ w' = w := by
 obtain ⟨_, _, _, _, c4, c5, _⟩ := h.cell
 clear h
 go_enter Tryz.func103, Tryz.ntmps103
 go_wp2
 go_end0
 exact ⟨rfl, rfl⟩
set_option maxRecDepth 100000 in
set_option maxHeartbeats 400000 in
theorem refMay_dead (h : RefIn w B rp vS vW vP S Wl Pl true cut left) (i : Int) : Calls Tryz.prog 73 #[.pointer (some ⟨rp, 0, none⟩), .int .i64 i] w fun e w' => e = .returned (.int .i64 40) ∧ w' = w := by
 obtain ⟨_, _, _, c3, _, _, _⟩ := h.cell
 clear h
 go_enter Tryz.func73, Tryz.ntmps73
 go_wp2
 go_ret
 exact ⟨rfl, rfl⟩
set_option maxRecDepth 100000 in
set_option maxHeartbeats 400000 in
theorem refFlush_dead (h : RefIn w B rp vS vW vP S Wl Pl true cut left) : Calls Tryz.prog 74 #[.pointer (some ⟨rp, 0, none⟩)] w fun e w' => e = .returned (.int .i64 40) ∧ w' = w := by
 obtain ⟨_, _, _, c3, _, _, _⟩ := h.cell
 clear h
 go_enter Tryz.func74, Tryz.ntmps74
 go_wp2
 go_ret
 exact ⟨rfl, rfl⟩
set_option maxRecDepth 100000 in
set_option maxHeartbeats 400000 in
theorem refOffCall (h : RefIn w B rp vS vW vP S Wl Pl gone cut left) (a : Int) : Calls Tryz.prog 37 #[.pointer (some ⟨rp, 0, none⟩), .int .i64 a] w fun e w' => e = .returned (.tuple #[]) ∧ RefIn w' B rp vS vW vP S Wl Pl gone true (a.toNat : Nat) ∧ Only (One rp) w w' := by
 obtain ⟨_, _, _, _, c4, c5, cf⟩ := h.cell
 have f4 := cf 4
 have f5 := cf 5
 obtain ⟨m, hm⟩ : ∃ m : Nat, m = a.toNat := ⟨_, rfl⟩
 have hmax : ∀ (ts : Array TypeId) (ty : TypeId) (W : World), (Builtin.max_ ts ty #[.int .i64 a, .int .i64 0]).run Tryz.prog W = .ok (.int .i64 (m : Int)) W := by
  intro ts ty W
  simp [Builtin.max_, Builtin.max2]
  omega
 have H : Hid (RefIn w B rp vS vW vP S Wl Pl gone cut left) := h
 have E : Hid (m = a.toNat) := hm
 clear hm h cf
 go_enter Tryz.func37, Tryz.ntmps37
 go_wp2
 go_end0
 obtain ⟨g1, g2⟩ := turn1 (j := 4) (v := .bool true) H.out.self
 obtain ⟨k1, k2⟩ := turn1 (j := 5) (v := .int .i64 (m : Nat)) g2
 refine ⟨rfl, H.out.turn (g1.then k1) (by rw [k2, ← E.out]; rfl), g1.then k1⟩
end
end Go.Proofs.YtdgkhjgnjfgnlaaGreat
namespace Go.Proofs.YtdgkhjgnjfgnlaaGreat
open Go.RowKit Go.Maps
section
variable {w : World} {B rp : Nat} {vS vW vP : Value} {S : List ByteArray} {Wl : List Value} {Pl : List Bool} {gone cut : Bool} {left : Int}
theorem row_head {w : World} {b e n m : Nat} {v : Value} {xs : List Value} (h : w.ownsRow b e 1 v n xs) {g cap : Nat} (hv : v = .slice (some ⟨g, 0, none⟩) m cap) {j : Nat} (hj : j < n) : g < w.heap.size ∧ w.cell? ⟨g, j, none⟩ = xs[j]? ∧ w.frozen? ⟨g, j, none⟩ = false := by
 obtain ⟨g', cap', e', _, h2, _, _, h5, h6⟩ := ownsRow_at h hj
 rw [e'] at hv
 injection hv with e1
 injection e1 with e1
 injection e1 with e1
 subst e1
 exact ⟨h2, h5, h6⟩
theorem RefIn.putW (h : RefIn w B rp vS vW vP S Wl Pl gone cut left) {g : Nat} (hg : vW.ownBlock = some g) (j : Nat) (u : Value) : RefIn (w.setCell ⟨g, j, none⟩ u) B rp vS vW vP S (Wl.set j u) Pl gone cut left ∧ Only (One g) w (w.setCell ⟨g, j, none⟩ u) := by
 have o : Only (One g) w (w.setCell ⟨g, j, none⟩ u) := Only.setCell _ w ⟨g, j, none⟩ _ rfl
 have hgc := row_type h.writes hg
 refine ⟨⟨(o.block rp (h.lt rp (.inl rfl)).2 (fun e => h.neW (by rw [hg]; exact congrArg some e.symm))).trans h.self, h.lo, ownsRow_only o h.safes (fun k hk e => ?_), by rw [List.length_set]; exact ownsRow_put h.writes hg j u, ownsRow_only o h.spoilt (fun k hk e => ?_)⟩, o⟩
 ·obtain ⟨c1, h1⟩ := hgc; obtain ⟨c2, h2⟩ := row_type h.safes hk; rw [show k = g from e, h1] at h2; simp at h2
 ·obtain ⟨c1, h1⟩ := hgc; obtain ⟨c2, h2⟩ := row_type h.spoilt hk; rw [show k = g from e, h1] at h2; simp at h2
theorem RefIn.putP (h : RefIn w B rp vS vW vP S Wl Pl gone cut left) {g : Nat} (hg : vP.ownBlock = some g) (j : Nat) (b : Bool) : RefIn (w.setCell ⟨g, j, none⟩ (.bool b)) B rp vS vW vP S Wl (Pl.set j b) gone cut left ∧ Only (One g) w (w.setCell ⟨g, j, none⟩ (.bool b)) := by
 have o : Only (One g) w (w.setCell ⟨g, j, none⟩ (.bool b)) := Only.setCell _ w ⟨g, j, none⟩ _ rfl
 have hgc := row_type h.spoilt hg
 refine ⟨⟨(o.block rp (h.lt rp (.inl rfl)).2 (fun e => h.neP (by rw [hg]; exact congrArg some e.symm))).trans h.self, h.lo, ownsRow_only o h.safes (fun k hk e => ?_), ownsRow_only o h.writes (fun k hk e => ?_), by rw [List.length_set, List.map_set]; exact ownsRow_put h.spoilt hg j _⟩, o⟩
 ·obtain ⟨c1, h1⟩ := hgc; obtain ⟨c2, h2⟩ := row_type h.safes hk; rw [show k = g from e, h1] at h2; simp at h2
 ·obtain ⟨c1, h1⟩ := hgc; obtain ⟨c2, h2⟩ := row_type h.writes hk; rw [show k = g from e, h1] at h2; simp at h2
theorem RefIn.putS (h : RefIn w B rp vS vW vP S Wl Pl gone cut left) {g : Nat} (hg : vS.ownBlock = some g) (j : Nat) (x : ByteArray) : RefIn (w.setCell ⟨g, j, none⟩ (.string x)) B rp vS vW vP (S.set j x) Wl Pl gone cut left ∧ Only (One g) w (w.setCell ⟨g, j, none⟩ (.string x)) := by
 have o : Only (One g) w (w.setCell ⟨g, j, none⟩ (.string x)) := Only.setCell _ w ⟨g, j, none⟩ _ rfl
 have hgc := row_type h.safes hg
 refine ⟨⟨(o.block rp (h.lt rp (.inl rfl)).2 (fun e => h.neS (by rw [hg]; exact congrArg some e.symm))).trans h.self, h.lo, by rw [List.length_set, List.map_set]; exact ownsRow_put h.safes hg j _, ownsRow_only o h.writes (fun k hk e => ?_), ownsRow_only o h.spoilt (fun k hk e => ?_)⟩, o⟩
 ·obtain ⟨c1, h1⟩ := hgc; obtain ⟨c2, h2⟩ := row_type h.writes hk; rw [show k = g from e, h1] at h2; simp at h2
 ·obtain ⟨c1, h1⟩ := hgc; obtain ⟨c2, h2⟩ := row_type h.spoilt hk; rw [show k = g from e, h1] at h2; simp at h2
def oneW (v : Value) : List Value := [nilS, nilS, v, nilS, nilS]
end
end Go.Proofs.YtdgkhjgnjfgnlaaGreat
namespace Go.Proofs.YtdgkhjgnjfgnlaaGreat
open Go.RowKit Go.Maps
section
variable {w : World} {B rp : Nat} {vS vW vP : Value} {S : List ByteArray} {Wl : List Value} {Pl : List Bool} {gone cut : Bool} {left : Int}
def sAt (S : List ByteArray) (s : ByteArray) (k : Nat) : List ByteArray := if k ≤ 2 then S else S.set 2 s
def wAt (v : Value) (k : Nat) : List Value := if k ≤ 2 then oneW v else List.replicate 5 nilS
end
end Go.Proofs.YtdgkhjgnjfgnlaaGreat
namespace Go.Proofs.YtdgkhjgnjfgnlaaGreat
open Go.RowKit Go.Maps
def strs (l : List (List UInt8)) : List Value := l.map fun s => .string (txt s)
theorem strs_length (l : List (List UInt8)) : (strs l).length = l.length := List.length_map ..
theorem strs_at {l : List (List UInt8)} {j : Nat} (hj : j < l.length) : (strs l)[j]? = some (.string (txt (l.getD j []))) := by
 unfold strs
 rw [List.getElem?_map, List.getElem?_eq_getElem hj, List.getD_eq_getElem?_getD, List.getElem?_eq_getElem hj]; rfl
structure RefSt (w : World) (rp : Nat) (vS vW vP : Value) (hd : Nat → Value) (R : Dr) : Prop where
 at_ : RefIn w 0 rp vS vW vP (R.safe.map txt) ((List.range R.safe.length).map hd) R.spoilt R.dead R.goes (R.left : Int)
 ok : R.Ok
 rows : ∀ i, w.ownsRow 0 9 1 (hd i) (R.writes i).length (strs (R.writes i))
 off : ∀ i k, (hd i).ownBlock = some k → vS.ownBlock ≠ some k
 nil : ∀ i, R.writes i = [] → hd i = nilS
def RFeet (rp : Nat) (vS vW vP : Value) (hd : Nat → Value) (k : Nat) : Prop := RFoot rp vS vW vP k ∨ ∃ i, (hd i).ownBlock = some k
def RefAt (w : World) (rp : Nat) (R : Dr) (G : Nat → Prop) : Prop := ∃ vS vW vP hd, RefSt w rp vS vW vP hd R ∧ ∀ k, RFeet rp vS vW vP hd k → G k
section
variable {w w' : World} {rp : Nat} {vS vW vP : Value} {hd : Nat → Value} {R : Dr} {G : Nat → Prop}
theorem RefSt.lt (h : RefSt w rp vS vW vP hd R) : ∀ k, RFeet rp vS vW vP hd k → k < w.heap.size := by
 intro k hk
 rcases hk with hk | ⟨i, hi⟩
 ·exact (h.at_.lt k hk).2
 ·exact ((h.rows i).lt k hi).2
theorem RefSt.only (h : RefSt w rp vS vW vP hd R) {H : Nat → Prop} (hg : Only H w w') (hn : ∀ k, RFeet rp vS vW vP hd k → ¬ H k) : RefSt w' rp vS vW vP hd R :=
 ⟨h.at_.only hg (fun k hk => hn k (.inl hk)), h.ok, fun i => ownsRow_only hg (h.rows i) (fun k hk => hn k (.inr ⟨i, hk⟩)), h.off, h.nil⟩
theorem RefAt.only {H : Nat → Prop} (h : RefAt w rp R G) (hg : Only H w w') (hn : ∀ k, k < w.heap.size → G k → ¬ H k) : RefAt w' rp R G := by
 obtain ⟨vS, vW, vP, hd, hin, hf⟩ := h
 exact ⟨vS, vW, vP, hd, hin.only hg (fun k hk => hn k (hin.lt k hk) (hf k hk)), hf⟩
theorem RefAt.below (h : RefAt w rp R G) (hb : Below w.heap.size w w') : RefAt w' rp R G :=
 h.only (Only.of_below hb (fun _ => False)) (fun _ _ _ hf => hf)
theorem RefAt.mono {H : Nat → Prop} (h : RefAt w rp R G) (hs : ∀ k, G k → H k) : RefAt w rp R H := by
 obtain ⟨vS, vW, vP, hd, hin, hf⟩ := h
 exact ⟨vS, vW, vP, hd, hin, fun k hk => hs k (hf k hk)⟩
theorem RefAt.tight (h : RefAt w rp R G) : RefAt w rp R (fun k => G k ∧ k < w.heap.size) := by
 obtain ⟨vS, vW, vP, hd, hin, hf⟩ := h
 exact ⟨vS, vW, vP, hd, hin, fun k hk => ⟨hf k hk, hin.lt k hk⟩⟩
theorem RefAt.ok (h : RefAt w rp R G) : R.Ok := by obtain ⟨_, _, _, _, hin, _⟩ := h; exact hin.ok
theorem RefAt.lt (h : RefAt w rp R G) : rp < w.heap.size := by obtain ⟨_, _, _, _, hin, _⟩ := h; exact hin.lt rp (.inl (.inl rfl))
theorem own_head {b e n : Nat} {v : Value} {xs : List Value} (h : w.ownsRow b e 1 v n xs) : ∃ a cap, v = .slice a n cap ∧ cap ≤ maxLen ∧ n ≤ cap := by
 rcases h.2 with ⟨rfl, rfl⟩ | ⟨g, cap, cur, rfl, _, _, hn, hm, _⟩
 ·exact ⟨none, 0, rfl, Nat.zero_le _, Nat.le_refl _⟩
 ·exact ⟨_, cap, rfl, hm, hn⟩
theorem wl_at {n i : Nat} (hi : i < n) (hd : Nat → Value) : ((List.range n).map hd)[i]? = some (hd i) := by simp [hi]
end
end Go.Proofs.YtdgkhjgnjfgnlaaGreat
