/- The document's own drive in memory: its block, and three rows that grow by append through its fields. -/
import Derived.Test.YtpflfdbkndomfaaDrvFirst
import Derived.Deep.LoopGhost
namespace Go.Proofs.Ytpflfdbkndomfaa
open Go.RowKit Go.Maps

structure RefIn (w : World) (B rp : Nat) (vS vW vP : Value) (S : List ByteArray) (Wl : List Value) (Pl : List Bool) (gone cut : Bool) (left : Int) : Prop where
  self : w.heap[rp]? = some (.cells #[vS, vW, vP, .bool gone, .bool cut, .int .i64 left] 44 (0, 0))
  lo : B ≤ rp
  safes : w.ownsRow B 9 1 vS S.length (S.map Value.string)
  writes : w.ownsRow B 22 1 vW Wl.length Wl
  spoilt : w.ownsRow B 4 1 vP Pl.length (Pl.map Value.bool)
def RFoot (rp : Nat) (vS vW vP : Value) (k : Nat) : Prop := k = rp ∨ vS.ownBlock = some k ∨ vW.ownBlock = some k ∨ vP.ownBlock = some k

section
variable {w : World} {B rp : Nat} {vS vW vP : Value} {S : List ByteArray} {Wl : List Value} {Pl : List Bool} {gone cut : Bool} {left : Int}
theorem row_type {w : World} {b t s n : Nat} {v : Value} {xs : List Value} (h : w.ownsRow b t s v n xs) {k : Nat} (hk : v.ownBlock = some k) : ∃ cur, w.heap[k]? = some (.cells cur t (0, 0)) := by
  rcases h.2 with ⟨rfl, _⟩ | ⟨g, cap, cur, rfl, _, hg, _⟩
  · simp [Value.ownBlock] at hk
  · simp [Value.ownBlock] at hk; subst hk; exact ⟨cur, hg⟩
theorem RefIn.lt (h : RefIn w B rp vS vW vP S Wl Pl gone cut left) : ∀ k, RFoot rp vS vW vP k → B ≤ k ∧ k < w.heap.size := by
  intro k hk
  rcases hk with rfl | hk | hk | hk
  · exact ⟨h.lo, (Array.getElem?_eq_some_iff.1 h.self).1⟩
  · exact h.safes.lt k hk
  · exact h.writes.lt k hk
  · exact h.spoilt.lt k hk
theorem RefIn.neS (h : RefIn w B rp vS vW vP S Wl Pl gone cut left) : vS.ownBlock ≠ some rp := fun e => by
  obtain ⟨cur, hc⟩ := row_type h.safes e; have := h.self; rw [hc] at this; simp at this
theorem RefIn.neW (h : RefIn w B rp vS vW vP S Wl Pl gone cut left) : vW.ownBlock ≠ some rp := fun e => by
  obtain ⟨cur, hc⟩ := row_type h.writes e; have := h.self; rw [hc] at this; simp at this
theorem RefIn.neP (h : RefIn w B rp vS vW vP S Wl Pl gone cut left) : vP.ownBlock ≠ some rp := fun e => by
  obtain ⟨cur, hc⟩ := row_type h.spoilt e; have := h.self; rw [hc] at this; simp at this
theorem RefIn.cell (h : RefIn w B rp vS vW vP S Wl Pl gone cut left) : w.cell? ⟨rp, 0, none⟩ = some vS ∧ w.cell? ⟨rp, 1, none⟩ = some vW ∧ w.cell? ⟨rp, 2, none⟩ = some vP ∧ w.cell? ⟨rp, 3, none⟩ = some (.bool gone) ∧ w.cell? ⟨rp, 4, none⟩ = some (.bool cut) ∧ w.cell? ⟨rp, 5, none⟩ = some (.int .i64 left) ∧ ∀ j, w.frozen? ⟨rp, j, none⟩ = false :=
  ⟨by rw [cell_of_row w rp 0 _ _ _ h.self]; rfl, by rw [cell_of_row w rp 1 _ _ _ h.self]; rfl, by rw [cell_of_row w rp 2 _ _ _ h.self]; rfl, by rw [cell_of_row w rp 3 _ _ _ h.self]; rfl,
   by rw [cell_of_row w rp 4 _ _ _ h.self]; rfl, by rw [cell_of_row w rp 5 _ _ _ h.self]; rfl, fun j => frozen_of_row w rp j _ _ h.self⟩
theorem RefIn.only (h : RefIn w B rp vS vW vP S Wl Pl gone cut left) {w' : World} {G : Nat → Prop} (hg : Only G w w') (hn : ∀ k, RFoot rp vS vW vP k → ¬ G k) : RefIn w' B rp vS vW vP S Wl Pl gone cut left :=
  ⟨(hg.block rp (h.lt rp (.inl rfl)).2 (hn rp (.inl rfl))).trans h.self, h.lo, ownsRow_only hg h.safes (fun k hk => hn k (.inr (.inl hk))), ownsRow_only hg h.writes (fun k hk => hn k (.inr (.inr (.inl hk)))), ownsRow_only hg h.spoilt (fun k hk => hn k (.inr (.inr (.inr hk))))⟩
theorem RefIn.alloc (h : RefIn w B rp vS vW vP S Wl Pl gone cut left) (o : Obj) : RefIn (w.alloc o) B rp vS vW vP S Wl Pl gone cut left := h.only (Only.alloc (fun _ => False) w o) (fun _ _ hf => hf)
/-- the drive's own cells, turned -/
theorem RefIn.turn (h : RefIn w B rp vS vW vP S Wl Pl gone cut left) {w' : World} {gone' cut' : Bool} {left' : Int} (hg : Only (One rp) w w')
    (hs : w'.heap[rp]? = some (.cells #[vS, vW, vP, .bool gone', .bool cut', .int .i64 left'] 44 (0, 0))) : RefIn w' B rp vS vW vP S Wl Pl gone' cut' left' :=
  ⟨hs, h.lo, ownsRow_only hg h.safes (fun k hk e => h.neS (by rw [hk]; exact congrArg some e)), ownsRow_only hg h.writes (fun k hk e => h.neW (by rw [hk]; exact congrArg some e)), ownsRow_only hg h.spoilt (fun k hk e => h.neP (by rw [hk]; exact congrArg some e))⟩
end
theorem append_ne {w w1 : World} {v : Value} {tmp : Obj} (hg : (w.alloc tmp).grownBy w1 v.ownBlock) {k : Nat} (hk : k < w.heap.size) (hn : v.ownBlock ≠ some k) : w1.heap[k]? = w.heap[k]? :=
  (hg.block k (by simp; omega) (fun e => hn e.symm)).trans (Below.heap_alloc w tmp k hk)
section
variable {w w1 : World} {B rp : Nat} {vS vW vP v' : Value} {S : List ByteArray} {Wl : List Value} {Pl : List Bool} {gone cut : Bool} {left : Int} {tmp : Obj}
theorem RefIn.grow0 (h : RefIn w B rp vS vW vP S Wl Pl gone cut left) {x : ByteArray} (ho : w1.ownsRow B 9 1 v' (S.length + 1) (S.map Value.string ++ [.string x])) (hg : (w.alloc tmp).grownBy w1 vS.ownBlock) :
    RefIn (w1.setCell ⟨rp, 0, none⟩ v') B rp v' vW vP (S ++ [x]) Wl Pl gone cut left ∧ w1.heap[rp]? = w.heap[rp]? := by
  have hrp := append_ne hg (h.lt rp (.inl rfl)).2 h.neS
  have o : Only (One rp) w1 (w1.setCell ⟨rp, 0, none⟩ v') := Only.setCell _ w1 ⟨rp, 0, none⟩ _ rfl
  have nev : v'.ownBlock ≠ some rp := fun e => by
    obtain ⟨cur, hc⟩ := row_type ho e; rw [hrp, h.self] at hc; simp at hc
  refine ⟨⟨?_, h.lo, ?_, ?_, ?_⟩, hrp⟩
  · rw [heap_setCell_same w1 rp 0 _ _ _ (hrp.trans h.self)]; rfl
  · rw [List.length_append, List.map_append]
    exact ownsRow_only o ho (fun k hk e => nev (by rw [hk]; exact congrArg some e))
  · exact ownsRow_only o (ownsRow_across h.writes h.safes (by decide) hg) (fun k hk e => h.neW (by rw [hk]; exact congrArg some e))
  · exact ownsRow_only o (ownsRow_across h.spoilt h.safes (by decide) hg) (fun k hk e => h.neP (by rw [hk]; exact congrArg some e))
theorem RefIn.grow1 (h : RefIn w B rp vS vW vP S Wl Pl gone cut left) {x : Value} (ho : w1.ownsRow B 22 1 v' (Wl.length + 1) (Wl ++ [x])) (hg : (w.alloc tmp).grownBy w1 vW.ownBlock) :
    RefIn (w1.setCell ⟨rp, 1, none⟩ v') B rp vS v' vP S (Wl ++ [x]) Pl gone cut left ∧ w1.heap[rp]? = w.heap[rp]? := by
  have hrp := append_ne hg (h.lt rp (.inl rfl)).2 h.neW
  have o : Only (One rp) w1 (w1.setCell ⟨rp, 1, none⟩ v') := Only.setCell _ w1 ⟨rp, 1, none⟩ _ rfl
  have nev : v'.ownBlock ≠ some rp := fun e => by
    obtain ⟨cur, hc⟩ := row_type ho e; rw [hrp, h.self] at hc; simp at hc
  refine ⟨⟨?_, h.lo, ?_, ?_, ?_⟩, hrp⟩
  · rw [heap_setCell_same w1 rp 1 _ _ _ (hrp.trans h.self)]; rfl
  · exact ownsRow_only o (ownsRow_across h.safes h.writes (by decide) hg) (fun k hk e => h.neS (by rw [hk]; exact congrArg some e))
  · rw [List.length_append]
    exact ownsRow_only o ho (fun k hk e => nev (by rw [hk]; exact congrArg some e))
  · exact ownsRow_only o (ownsRow_across h.spoilt h.writes (by decide) hg) (fun k hk e => h.neP (by rw [hk]; exact congrArg some e))
theorem RefIn.grow2 (h : RefIn w B rp vS vW vP S Wl Pl gone cut left) {x : Bool} (ho : w1.ownsRow B 4 1 v' (Pl.length + 1) (Pl.map Value.bool ++ [.bool x])) (hg : (w.alloc tmp).grownBy w1 vP.ownBlock) :
    RefIn (w1.setCell ⟨rp, 2, none⟩ v') B rp vS vW v' S Wl (Pl ++ [x]) gone cut left ∧ w1.heap[rp]? = w.heap[rp]? := by
  have hrp := append_ne hg (h.lt rp (.inl rfl)).2 h.neP
  have o : Only (One rp) w1 (w1.setCell ⟨rp, 2, none⟩ v') := Only.setCell _ w1 ⟨rp, 2, none⟩ _ rfl
  have nev : v'.ownBlock ≠ some rp := fun e => by
    obtain ⟨cur, hc⟩ := row_type ho e; rw [hrp, h.self] at hc; simp at hc
  refine ⟨⟨?_, h.lo, ?_, ?_, ?_⟩, hrp⟩
  · rw [heap_setCell_same w1 rp 2 _ _ _ (hrp.trans h.self)]; rfl
  · exact ownsRow_only o (ownsRow_across h.safes h.spoilt (by decide) hg) (fun k hk e => h.neS (by rw [hk]; exact congrArg some e))
  · exact ownsRow_only o (ownsRow_across h.writes h.spoilt (by decide) hg) (fun k hk e => h.neW (by rw [hk]; exact congrArg some e))
  · rw [List.length_append, List.map_append]
    exact ownsRow_only o ho (fun k hk e => nev (by rw [hk]; exact congrArg some e))
end
end Go.Proofs.Ytpflfdbkndomfaa
