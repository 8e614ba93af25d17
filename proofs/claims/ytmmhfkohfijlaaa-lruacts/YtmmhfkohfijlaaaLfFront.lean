/- The walk of front: one key put ahead of the others in the document's own list. -/
import Derived.Test.YtmmhfkohfijlaaaLfTake
namespace Go.Proofs.Ytmmhfkohfijlaaa
open Go.RowKit Lr
attribute [local go_sem] Oper.semAt_some

namespace Lr
/-- a literal of one number, whatever lies ahead -/
theorem row_one (w : World) (B : Nat) (hB : B ≤ w.heap.size) (x : Int) : (w.alloc (.cells #[.int .i64 x] 3)).ownsRow B 3 1 (.slice (some ⟨w.heap.size, 0, none⟩) 1 1) 1 (iV [x]) :=
  ⟨rfl, .inr ⟨w.heap.size, 1, #[.int .i64 x], rfl, hB, World.alloc_heap_new w _, Nat.le_refl _, by unfold maxLen; decide, rfl, rfl⟩⟩
end Lr

set_option maxRecDepth 100000 in
set_option maxHeartbeats 4000000 in
theorem rfront14_any {w : World} {rp room : Nat} {vk vp : Value} {l : L} (h : RefIn w rp room vk vp l) (hn : l.length ≤ 1000) (k : Int) (q : Nat) :
    Calls Try.prog 35 #[.pointer (some ⟨rp, 0, none⟩), .int .i64 k, .int .i64 (q : Int)] w fun r w' => r = .returned (.tuple #[]) ∧
      (∃ vk' vp', RefIn w' rp room vk' vp' ((k, q) :: l) ∧ (∀ g, vk'.ownBlock = some g → w.heap.size ≤ g) ∧ ∀ g, vp'.ownBlock = some g → w.heap.size ≤ g) ∧ Only (fun k => k = rp) w w' := by
  have hrk := h.rp_k
  have hrp := h.rp_p
  have c1 := h.c1
  have c2 := h.c2
  have rlt := h.lt
  have hself := h.self
  obtain ⟨ka, kc, rfl, hK, _⟩ := RowI.of_owns (k := .i64) h.k
  obtain ⟨pa, pc, rfl, hP, _⟩ := RowI.of_owns (k := .i64) h.p
  obtain ⟨n, hne⟩ : ∃ n, n = l.length := ⟨_, rfl⟩
  have hself' : w.heap[rp]? = some (.cells #[.int .i64 (room : Nat), .slice ka n kc, .slice pa n pc] 35 (0, 0)) := by rw [hne]; exact hself
  rw [← hne] at c1 c2 hK hP hn
  have HS : Hid (w.heap[rp]? = some (.cells #[.int .i64 (room : Nat), .slice ka n kc, .slice pa n pc] 35 (0, 0))) := hself'
  have HK : Hid (RowI .i64 w ka n (fun j => (keys l).getD j 0)) := hK
  have HP : Hid (RowI .i64 w pa n (fun j => (pinsL l).getD j 0)) := hP
  have HNK : Hid ((keys l).length = n) := by show _ = _; rw [keys_length, hne]
  have HNP : Hid ((pinsL l).length = n) := by show _ = _; rw [pinsL_length, hne]
  have kb1 : Below w.heap.size w (w.alloc (.cells #[.int .i64 k] 3)) := (Below.refl _ w).alloc (Nat.le_refl _) _
  have KB1 : Hid (Below w.heap.size w (w.alloc (.cells #[.int .i64 k] 3))) := kb1
  have L1 : Hid ((w.alloc (.cells #[.int .i64 k] 3)).ownsRow w.heap.size 3 1 (.slice (some ⟨w.heap.size, 0, none⟩) 1 1) 1 (iV [k])) := row_one w _ (Nat.le_refl _) k
  have HNR : Hid (∀ x : Addr, pa = some x → x.block ≠ rp) := fun x hx e => by
    rcases h.p.2 with ⟨e1, _⟩ | ⟨g, cap, cur, e1, _⟩
    · injection e1 with e2 e3 e4
      rw [e2] at hx; cases hx
    · injection e1 with e2 e3 e4
      rw [e2] at hx
      cases hx
      exact hrp (by rw [e2]; simp only [Value.ownBlock]; exact congrArg some e)
  clear h hself hself' hK hP hne kb1 hrk hrp
  go_enter Try.func35, Try.ntmps35
  have t1 : True := trivial
  go_wp2_with (first
    | (at_builtin; have _t := t1; refine wpList_append_ints _ rfl _ _ rfl w.heap.size w.heap.size 1 1 [k] rfl L1.out ka n kc (keys l) rfl HNK.out (HK.out.below KB1.out) (by omega) (by simp) ?_; clear _t t1; go_loud (
        intro g1 cap1 w1 hown1 hgrow1 hlies1
        have hb1 : Below w.heap.size w w1 := KB1.out.grown hgrow1 (by simp) (fun j hj => by cases hj; exact Nat.le_refl _)
        have HB1 : Hid (Below w.heap.size w w1) := hb1
        have hs1 := (hb1.block rp rlt).trans HS.out
        have fz1 : w1.frozen? ⟨rp, 1, none⟩ = false := frozen_of_row w1 rp 1 _ _ hs1
        have d1 : w1.cell? ⟨rp, 1, none⟩ = some (.slice ka n kc) := by rw [cell_of_row w1 rp 1 _ _ _ hs1]; rfl
        have d2 : w1.cell? ⟨rp, 2, none⟩ = some (.slice pa n pc) := by rw [cell_of_row w1 rp 2 _ _ _ hs1]; rfl
        have rlt1 : rp < w1.heap.size := Nat.lt_of_lt_of_le rlt hb1.size
        have OW1 : Hid (w1.ownsRow w.heap.size 3 1 (.slice (some ⟨g1, 0, none⟩) (1 + n) cap1) (1 + n) (iV ([k] ++ keys l))) := hown1
        have HS1 : Hid (w1.heap[rp]? = some (.cells #[.int .i64 (room : Nat), .slice ka n kc, .slice pa n pc] 35 (0, 0))) := hs1
        have hsY : (w1.setCell ⟨rp, 1, none⟩ (.slice (some ⟨g1, 0, none⟩) (1 + n) cap1)).heap.size = w1.heap.size := by simp [World.setCell]
        have hoY : Only (fun j => j = rp) w1 (w1.setCell ⟨rp, 1, none⟩ (.slice (some ⟨g1, 0, none⟩) (1 + n) cap1)) := Only.setCell _ _ _ _ rfl
        have l2 := row_one (w1.setCell ⟨rp, 1, none⟩ (.slice (some ⟨g1, 0, none⟩) (1 + n) cap1)) w.heap.size (by rw [hsY]; exact hb1.size) (q : Int)
        rw [hsY] at l2
        have L2 : Hid (((w1.setCell ⟨rp, 1, none⟩ (.slice (some ⟨g1, 0, none⟩) (1 + n) cap1)).alloc (.cells #[.int .i64 (q : Int)] 3)).ownsRow w.heap.size 3 1 (.slice (some ⟨w1.heap.size, 0, none⟩) 1 1) 1 (iV [(q : Int)])) := l2
        have hbY : Below w.heap.size w1 ((w1.setCell ⟨rp, 1, none⟩ (.slice (some ⟨g1, 0, none⟩) (1 + n) cap1)).alloc (.cells #[.int .i64 (q : Int)] 3)) → True := fun _ => trivial
        have oYZ := hoY.then (Only.alloc (fun j => j = rp) (w1.setCell ⟨rp, 1, none⟩ (.slice (some ⟨g1, 0, none⟩) (1 + n) cap1)) (.cells #[.int .i64 (q : Int)] 3))
        have OYZ : Hid (Only (fun j => j = rp) w1 ((w1.setCell ⟨rp, 1, none⟩ (.slice (some ⟨g1, 0, none⟩) (1 + n) cap1)).alloc (.cells #[.int .i64 (q : Int)] 3))) := oYZ
        have HPZ : Hid (RowI .i64 ((w1.setCell ⟨rp, 1, none⟩ (.slice (some ⟨g1, 0, none⟩) (1 + n) cap1)).alloc (.cells #[.int .i64 (q : Int)] 3)) pa n (fun j => (pinsL l).getD j 0)) := fun j hj => by
          obtain ⟨b, o, e, hc⟩ := HP.out j hj
          have hbl := World.block_lt_of_cell? w _ hc
          refine ⟨b, o, e, ?_⟩
          have hbb : b ≠ rp := by
            intro e1
            subst e1
            exact HNR.out ⟨b, o, none⟩ e rfl
          exact (World.cell?_of_block (a := ⟨b, o + j, none⟩) ((oYZ.block b (Nat.lt_of_lt_of_le hbl hb1.size) hbb).trans (hb1.block b hbl))).trans hc
        clear hown1 hgrow1 hlies1 hb1 hs1 hsY hoY l2 hbY oYZ))
    | (at_builtin; refine wpList_append_ints _ rfl _ _ rfl w.heap.size w1.heap.size 1 1 [(q : Int)] rfl L2.out pa n pc (pinsL l) rfl HNP.out HPZ.out (by omega) (by have := HB1.out.size; simp [World.setCell]; omega) ?_; go_loud (
        intro g2 cap2 w2 hown2 hgrow2 hlies2
        have hzs : ((w1.setCell ⟨rp, 1, none⟩ (.slice (some ⟨g1, 0, none⟩) (1 + n) cap1)).alloc (.cells #[.int .i64 (q : Int)] 3)).heap.size = w1.heap.size + 1 := by simp [World.setCell]
        have HW2 : Hid (∀ j, j < w1.heap.size → j ≠ rp → w2.heap[j]? = w1.heap[j]?) := fun j hj hne => (hgrow2.block j (by rw [hzs]; omega) (fun e => by cases e; omega)).trans (OYZ.out.block j hj hne)
        have HSZ : Hid (w1.heap.size ≤ w2.heap.size) := Nat.le_trans (by rw [hzs]; omega) hgrow2.size
        have hs2 : w2.heap[rp]? = some (.cells #[.int .i64 (room : Nat), .slice (some ⟨g1, 0, none⟩) (1 + n) cap1, .slice pa n pc] 35 (0, 0)) := (hgrow2.block rp (by rw [hzs]; omega) (fun e => by cases e; exact Nat.lt_irrefl _ rlt1)).trans ((Only.alloc (fun _ => False) (w1.setCell ⟨rp, 1, none⟩ (.slice (some ⟨g1, 0, none⟩) (1 + n) cap1)) (.cells #[.int .i64 (q : Int)] 3)).block rp (by simp [World.setCell]; exact rlt1) (fun h => h) |>.trans (heap_setCell_same w1 rp 1 _ _ (.slice (some ⟨g1, 0, none⟩) (1 + n) cap1) HS1.out))
        have fz2 : w2.frozen? ⟨rp, 2, none⟩ = false := frozen_of_row w2 rp 2 _ _ hs2
        have d3 : w2.cell? ⟨rp, 2, none⟩ = some (.slice pa n pc) := by rw [cell_of_row w2 rp 2 _ _ _ hs2]; rfl
        have OW2 : Hid (w2.ownsRow w.heap.size 3 1 (.slice (some ⟨g2, 0, none⟩) (1 + n) cap2) (1 + n) (iV ([(q : Int)] ++ pinsL l))) := hown2
        have HG2 : Hid (g2 = w1.heap.size ∨ g2 = w1.heap.size + 1) := hlies2.imp id (fun e => by rw [e, hzs])
        have HS2 : Hid (w2.heap[rp]? = some (.cells #[.int .i64 (room : Nat), .slice (some ⟨g1, 0, none⟩) (1 + n) cap1, .slice pa n pc] 35 (0, 0))) := hs2
        have HO2 : Hid (Only (fun j => j = rp) w1 w2) := ⟨hgrow2.os.trans OYZ.out.os, hgrow2.tape.trans OYZ.out.tape, hgrow2.output.trans OYZ.out.output, HSZ.out, HW2.out⟩
        clear hown2 hgrow2 hlies2 hzs hs2)))
  go_end0
  have hoF : Only (fun j => j = rp) w2 (w2.setCell ⟨rp, 2, none⟩ (.slice (some ⟨g2, 0, none⟩) (1 + n) cap2)) := Only.setCell _ _ _ _ rfl
  have ho1 : Only (fun j => j = rp) w w1 := ⟨HB1.out.os, HB1.out.tape, HB1.out.output, HB1.out.size, fun j hj _ => HB1.out.block j hj⟩
  have hl : 1 + n = ((k, q) :: l).length := by rw [List.length_cons, ← keys_length l, HNK.out]; omega
  have hg1 : w.heap.size ≤ g1 ∧ g1 < w1.heap.size := OW1.out.lt g1 (by simp [Value.ownBlock])
  have hg2 : w.heap.size ≤ g2 ∧ g2 < w2.heap.size := OW2.out.lt g2 (by simp [Value.ownBlock])
  have own1 : ∀ g, (Value.slice (some ⟨g1, 0, none⟩) (1 + n) cap1).ownBlock = some g → g = g1 := fun g hg => by simp [Value.ownBlock] at hg; exact hg.symm
  have own2 : ∀ g, (Value.slice (some ⟨g2, 0, none⟩) (1 + n) cap2).ownBlock = some g → g = g2 := fun g hg => by simp [Value.ownBlock] at hg; exact hg.symm
  refine ⟨rfl, ⟨_, _, ⟨heap_setCell_same w2 rp 2 _ _ _ HS2.out, ?_, ?_, fun g h1 h2 => ?_⟩, fun g hg => by rw [own1 g hg]; exact hg1.1, fun g hg => by rw [own2 g hg]; exact hg2.1⟩, (ho1.then HO2.out).then hoF⟩
  · have := owns_only (HO2.out.then hoF) (low_row OW1.out) (fun g hg e => by have e1 := own1 g hg; have e2 : g = rp := e; omega)
    rw [← hl]; exact this
  · have := owns_only hoF (low_row OW2.out) (fun g hg e => by have e1 := own2 g hg; have e2 : g = rp := e; omega)
    rw [← hl]; exact this
  · have e1 := own1 g h1
    have e2 := own2 g h2
    have := HG2.out
    omega
end Go.Proofs.Ytmmhfkohfijlaaa
