/- The walk of take: one key off the document's own list, into two rows of the call's own. -/
import Derived.Test.YtmmhfkohfijlaaaLfWalk
import Derived.Maps.AppendAt
import Derived.Lib.JoinLaws
namespace Go.Proofs.Ytmmhfkohfijlaaa
open Go.RowKit Lr
attribute [local go_sem] Oper.semAt_some

namespace Lr
/-- what stands ahead of place j, without place i -/
def er (xs : List Int) (i j : Nat) : List Int := (xs.take j).eraseIdx i
theorem er_zero (xs : List Int) (i : Nat) : er xs i 0 = [] := by simp [er]
theorem er_same {xs : List Int} {i : Nat} (h : i < xs.length) : er xs i (i + 1) = er xs i i := by
  unfold er
  rw [List.take_succ_eq_append_getElem h, List.eraseIdx_append_of_length_le (by rw [List.length_take]; omega), List.eraseIdx_of_length_le (k := i) (by rw [List.length_take]; omega)]
  rw [show i - (xs.take i).length = 0 by rw [List.length_take]; omega]
  simp
theorem er_other {xs : List Int} {i j : Nat} (h : j < xs.length) (hne : j ≠ i) : er xs i (j + 1) = er xs i j ++ [xs[j]] := by
  unfold er
  rw [List.take_succ_eq_append_getElem h]
  by_cases hij : i < j
  · rw [List.eraseIdx_append_of_lt_length (by rw [List.length_take]; omega)]
  · rw [List.eraseIdx_of_length_le (by rw [List.length_append, List.length_take, List.length_cons, List.length_nil]; omega), List.eraseIdx_of_length_le (by rw [List.length_take]; omega)]
theorem er_all (xs : List Int) (i : Nat) : er xs i xs.length = xs.eraseIdx i := by unfold er; rw [List.take_length]
theorem er_length_le (xs : List Int) (i j : Nat) : (er xs i j).length ≤ j := by
  unfold er
  have := List.length_eraseIdx_le (xs.take j) i
  rw [List.length_take] at this; omega
/-- a literal of none -/
theorem row_none (w : World) (B : Nat) (hB : B ≤ w.heap.size) : (w.alloc (.cells #[] 3)).ownsRow B 3 1 (.slice (some ⟨w.heap.size, 0, none⟩) 0 0) 0 (iV []) :=
  ⟨rfl, .inr ⟨w.heap.size, 0, #[], rfl, hB, World.alloc_heap_new w _, Nat.le_refl _, Nat.zero_le _, rfl, rfl⟩⟩
theorem pinsL_getElem {l : L} {i : Nat} (h : i < (pinsL l).length) : (pinsL l)[i] = (((l.getD i (0, 0)).2 : Nat) : Int) := by
  have hl : i < l.length := by rwa [pinsL_length] at h
  rw [← pinsL_at l hl, getD_at' h]
theorem low_row {w : World} {B n t : Nat} {v : Value} {xs : List Value} (h : w.ownsRow B t 1 v n xs) : w.ownsRow 0 t 1 v n xs :=
  ⟨h.1, h.2.imp id fun ⟨g, cap, cur, e, _, r⟩ => ⟨g, cap, cur, e, Nat.zero_le _, r⟩⟩
theorem keys_erase' (l : L) (i : Nat) : keys (l.eraseIdx i) = (keys l).eraseIdx i := map_erase _ l i
/-- two rows are stored -/
theorem RefIn.stored {w : World} {rp room : Nat} {vk vp vk' vp' : Value} {l' : L} (h : w.heap[rp]? = some (.cells #[.int .i64 (room : Nat), vk, vp] 35 (0, 0))) {B : Nat} (hB : rp < B) (ht : TwoR w B vk' vp' (keys l') (pinsL l')) :
    RefIn ((w.setCell ⟨rp, 1, none⟩ vk').setCell ⟨rp, 2, none⟩ vp') rp room vk' vp' l' := by
  have ho : Only (fun k => k = rp) w ((w.setCell ⟨rp, 1, none⟩ vk').setCell ⟨rp, 2, none⟩ vp') := (Only.setCell (fun k => k = rp) _ _ _ rfl).then (Only.setCell (fun k => k = rp) _ _ _ rfl)
  have h1 := heap_setCell_same _ rp 2 _ _ vp' (heap_setCell_same w rp 1 _ _ vk' h)
  have ha := ht.a
  have hb := ht.b
  rw [keys_length] at ha
  rw [pinsL_length] at hb
  exact ⟨h1, low_row (owns_only ho ha fun g hg e => by have := (ha.lt g hg).1; omega), low_row (owns_only ho hb fun g hg e => by have := (hb.lt g hg).1; omega), ht.ap⟩
end Lr

set_option maxRecDepth 100000 in
set_option maxHeartbeats 4000000 in
theorem rtake14_any {w : World} {rp room : Nat} {vk vp : Value} {l : L} (h : RefIn w rp room vk vp l) (hn : l.length ≤ 1000) {i : Nat} (hi : i < l.length) :
    Calls Try.prog 36 #[.pointer (some ⟨rp, 0, none⟩), .int .i64 (i : Int)] w fun r w' => r = .returned (.int .i64 (((l.getD i (0, 0)).2 : Nat) : Int)) ∧
      (∃ vk' vp', RefIn w' rp room vk' vp' (l.eraseIdx i) ∧ (∀ g, vk'.ownBlock = some g → w.heap.size ≤ g) ∧ ∀ g, vp'.ownBlock = some g → w.heap.size ≤ g) ∧ Only (fun k => k = rp) w w' := by
  have c1 := h.c1
  have c2 := h.c2
  have rlt := h.lt
  have hself := h.self
  obtain ⟨ka, kc, rfl, hK, _⟩ := RowI.of_owns (k := .i64) h.k
  obtain ⟨pa, pc, rfl, hP, _⟩ := RowI.of_owns (k := .i64) h.p
  obtain ⟨n, hne⟩ : ∃ n, n = l.length := ⟨_, rfl⟩
  rw [← hne] at c1 c2 hK hP hn hi
  have hself' : w.heap[rp]? = some (.cells #[.int .i64 (room : Nat), .slice ka n kc, .slice pa n pc] 35 (0, 0)) := by rw [hne]; exact hself
  have HS : Hid (w.heap[rp]? = some (.cells #[.int .i64 (room : Nat), .slice ka n kc, .slice pa n pc] 35 (0, 0))) := hself'
  have HK : Hid (RowI .i64 w ka n (fun j => (keys l).getD j 0)) := hK
  have HP : Hid (RowI .i64 w pa n (fun j => (pinsL l).getD j 0)) := hP
  have HN : Hid (n = l.length) := hne
  obtain ⟨pb, po, hpa, cpi⟩ := hP i hi
  subst hpa
  dsimp only at cpi
  rw [pinsL_at l (by rw [← hne]; exact hi)] at cpi
  have plt := World.block_lt_of_cell? w _ cpi
  obtain ⟨kb, ko, hka, cki⟩ := hK i hi
  subst hka
  have klt := World.block_lt_of_cell? w _ cki
  obtain ⟨q, hq⟩ : ∃ q, q = (l.getD i (0, 0)).2 := ⟨_, rfl⟩
  rw [← hq] at cpi ⊢
  obtain ⟨i0, h1, h2, h3, h4⟩ := info_parts (show (Try.prog.info? 3).map (fun i => (i.zero, i.size, i.bytes)) = some (some (.int .i64 0), 1, 8) by kernel_rfl)
  have HI0 : Hid (Try.prog.info? 3 = some i0 ∧ i0.zero = some (.int .i64 0) ∧ i0.size = 1 ∧ i0.bytes = 8) := ⟨h1, h2, h3, h4⟩
  have kb1 := (Below.refl w.heap.size w).alloc (Nat.le_refl _) (.cells #[] 3)
  have kb2 := kb1.alloc (by simp) (.cells #[] 3)
  have T0 : TwoR ((w.alloc (.cells #[] 3)).alloc (.cells #[] 3)) w.heap.size (.slice (some ⟨w.heap.size, 0, none⟩) 0 0) (.slice (some ⟨w.heap.size + 1, 0, none⟩) 0 0) [] [] := by
    refine ⟨(row_none w _ (Nat.le_refl _)).alloc _, ?_, fun g hg hg2 => ?_⟩
    · have := row_none (w.alloc (.cells #[] 3)) w.heap.size (by simp)
      rw [World.size_alloc] at this; exact this
    · have e1 : w.heap.size = g := by simpa [Value.ownBlock] using hg
      have e2 : w.heap.size + 1 = g := by simpa [Value.ownBlock] using hg2
      omega
  have T0 : Hid (TwoR ((w.alloc (.cells #[] 3)).alloc (.cells #[] 3)) w.heap.size (.slice (some ⟨w.heap.size, 0, none⟩) 0 0) (.slice (some ⟨w.heap.size + 1, 0, none⟩) 0 0) [] []) := T0
  have KB2 : Hid (Below w.heap.size w ((w.alloc (.cells #[] 3)).alloc (.cells #[] 3))) := kb2
  have CK : Hid (∀ W, Below w.heap.size w W → W.cell? ⟨rp, 1, none⟩ = some (.slice (some ⟨kb, ko, none⟩) n kc) ∧ W.cell? ⟨rp, 2, none⟩ = some (.slice (some ⟨pb, po, none⟩) n pc) ∧
      ∀ j, j < n → W.cell? ⟨kb, ko + j, none⟩ = some (.int .i64 ((keys l).getD j 0)) ∧ W.cell? ⟨pb, po + j, none⟩ = some (.int .i64 ((pinsL l).getD j 0))) := fun W hb => by
    refine ⟨(hb.cell (p := ⟨rp, 1, none⟩) rlt).trans c1, (hb.cell (p := ⟨rp, 2, none⟩) rlt).trans c2, fun j hj => ⟨?_, ?_⟩⟩
    · obtain ⟨b, o, e, hc⟩ := hK j hj
      cases e
      exact (hb.cell (p := ⟨kb, ko + j, none⟩) klt).trans hc
    · obtain ⟨b, o, e, hc⟩ := hP j hj
      cases e
      exact (hb.cell (p := ⟨pb, po + j, none⟩) plt).trans hc
  clear h hself hself' hK hP hne hq h1 h2 h3 h4 kb1 kb2 cki
  go_enter Try.func36, Try.ntmps36
  go_wp2_with fail
  go_loopg [5, 6, 8] n (fun g s5 s6 s8 wr => ∃ j : Nat, j ≤ n ∧ g = n - j ∧ s8 = .int .i64 (j : Int) ∧ TwoR wr w.heap.size s5 s6 (er (keys l) i j) (er (pinsL l) i j) ∧ Below w.heap.size w wr)
  case atStart => exact ⟨0, Nat.zero_le _, rfl, rfl, by rw [er_zero, er_zero]; exact T0.out, KB2.out⟩
  case round =>
    obtain ⟨j, hj, rfl, rfl, hT, hb⟩ := hrel
    have TR : Hid (TwoR wr w.heap.size u5 u6 (er (keys l) i j) (er (pinsL l) i j)) := hT
    have HB : Hid (Below w.heap.size w wr) := hb
    obtain ⟨d1, d2, d3⟩ := CK.out wr hb
    clear T0 KB2 hT c1 c2 cpi
    by_cases hlt : j < n
    · obtain ⟨ck, cp⟩ := d3 j hlt
      have hkl : j < (keys l).length := by rw [keys_length, ← HN.out]; exact hlt
      have hpl : j < (pinsL l).length := by rw [pinsL_length, ← HN.out]; exact hlt
      rw [getD_at' hkl] at ck
      rw [getD_at' hpl] at cp
      by_cases hij : j = i
      · have e1 := er_same (xs := keys l) (i := i) (by rw [← hij]; exact hkl)
        have e2 := er_same (xs := pinsL l) (i := i) (by rw [← hij]; exact hpl)
        have E1 : Hid (er (keys l) i (j + 1) = er (keys l) i j) := by rw [hij]; exact e1
        have E2 : Hid (er (pinsL l) i (j + 1) = er (pinsL l) i j) := by rw [hij]; exact e2
        have hx : ((j : Int) == (i : Int)) = true := by rw [hij]; simp
        clear d3 ck cp e1 e2 hij hb hkl hpl
        go_wp2_with fail
        go_roundg (n - (j + 1))
        case measure => omega
        case rel => exact ⟨j + 1, by omega, rfl, by go_num, by rw [E1.out, E2.out]; exact TR.out, HB.out⟩
      · have e1 := er_other (xs := keys l) hkl hij
        have e2 := er_other (xs := pinsL l) hpl hij
        have l1 := er_length_le (keys l) i j
        have l2 := er_length_le (pinsL l) i j
        obtain ⟨x, hx⟩ : ∃ x, x = (keys l)[j] := ⟨_, rfl⟩
        obtain ⟨y, hy⟩ : ∃ y, y = (pinsL l)[j] := ⟨_, rfl⟩
        obtain ⟨A, hA⟩ : ∃ A, A = er (keys l) i j := ⟨_, rfl⟩
        obtain ⟨D, hD⟩ : ∃ D, D = er (pinsL l) i j := ⟨_, rfl⟩
        rw [← hx] at ck e1
        rw [← hy] at cp e2
        rw [← hA] at e1 l1 TR
        rw [← hD] at e2 l2 TR
        obtain ⟨m, hm⟩ : ∃ m, m = A.length := ⟨_, rfl⟩
        obtain ⟨m2, hm2⟩ : ∃ m2, m2 = D.length := ⟨_, rfl⟩
        have HM : Hid (m = A.length) := hm
        have HM2 : Hid (m2 = D.length) := hm2
        rw [← hm] at l1
        rw [← hm2] at l2
        have E1 : Hid (er (keys l) i (j + 1) = A ++ [x]) := e1
        have E2 : Hid (er (pinsL l) i (j + 1) = D ++ [y]) := e2
        have ow1 := TR.out.a
        rw [← hm] at ow1
        have OW1 : Hid (wr.ownsRow w.heap.size 3 1 u5 m (iV A)) := ow1
        have hne : ((j : Int) == (i : Int)) = false := by rw [beq_eq_false_iff_ne]; omega
        have hsz := hb.size
        have CP : Hid (∀ W, Below w.heap.size w W → W.cell? ⟨rp, 2, none⟩ = some (.slice (some ⟨pb, po, none⟩) n pc) ∧ W.cell? ⟨pb, po + j, none⟩ = some (.int .i64 y)) := fun W hW => by
          obtain ⟨_, q2, q3⟩ := CK.out W hW
          have := (q3 j hlt).2
          rw [getD_at' hpl, ← hy] at this
          exact ⟨q2, this⟩
        obtain ⟨h1, h2, h3, h4⟩ := HI0.out
        clear d3 e1 e2 hij hb hkl hpl hx hy hA hD hm hm2 ow1 cp d2
        have hO : Below w.heap.size w (wr.alloc (.cells #[.int .i64 x] 3)) := HB.out.alloc hsz _
        have t1 : True := trivial
        go_wp2_with (first
          | (at_builtin; have _t := t1; refine wpList_append_lies _ rfl _ _ 32 rfl w.heap.size 3 i0 (.int .i64 0) 1 8 Try.underlying32 h1 h2 h3 h4 rfl (by decide) u5 m (iV A) rfl (OW1.out.alloc _) ⟨wr.heap.size, 0, none⟩ 1 1 [.int .i64 x] rfl rfl (cell_one_new _ _ _) (by simp [Value.oneCell']) (by decide) (by unfold maxLen; omega) (by omega) (by simp; omega) (wr.heap.size + 1) (by simp) ?_; clear _t t1; intro g1 cap1 w1 hown1 hgrow1 hlies1 _; have tw1 := (TR.out.alloc (.cells #[.int .i64 x] 3)).grown (zs := A ++ [x]) (by rw [List.length_append, ← HM.out, List.length_singleton]) (by rw [← iV_snoc]; exact hown1) hgrow1 (by rw [World.size_alloc]; exact hlies1); have TW1 : Hid (TwoR w1 w.heap.size (.slice (some ⟨g1, 0, none⟩) (m + 1) cap1) u6 (A ++ [x]) D) := tw1; have hb1 := (TR.out.alloc (.cells #[.int .i64 x] 3)).below hO (by simp; omega) hgrow1; have HB1 : Hid (Below w.heap.size w w1) := hb1; obtain ⟨d2, cp⟩ := CP.out w1 hb1; have ow2 := tw1.b; rw [← HM2.out] at ow2; have OW2 : Hid (w1.ownsRow w.heap.size 3 1 u6 m2 (iV D)) := ow2; have hsz1 := hb1.size; have hO1 : Below w.heap.size w (w1.alloc (.cells #[.int .i64 y] 3)) := hb1.alloc hsz1 _; clear hown1 hgrow1 hlies1 tw1 hb1 ow2)
          | (at_builtin; refine wpList_append_lies _ rfl _ _ 32 rfl w.heap.size 3 i0 (.int .i64 0) 1 8 Try.underlying32 h1 h2 h3 h4 rfl (by decide) u6 m2 (iV D) rfl (OW2.out.alloc _) ⟨w1.heap.size, 0, none⟩ 1 1 [.int .i64 y] rfl rfl (cell_one_new _ _ _) (by simp [Value.oneCell']) (by decide) (by unfold maxLen; omega) (by omega) (by simp; omega) (w1.heap.size + 1) (by simp) ?_; intro g2 cap2 w2 hown2 hgrow2 hlies2 _; have tw2 := (TW1.out.swap.alloc (.cells #[.int .i64 y] 3)).grown (zs := D ++ [y]) (by rw [List.length_append, ← HM2.out, List.length_singleton]) (by rw [← iV_snoc]; exact hown2) hgrow2 (by rw [World.size_alloc]; exact hlies2); have TW2 : Hid (TwoR w2 w.heap.size (.slice (some ⟨g2, 0, none⟩) (m2 + 1) cap2) (.slice (some ⟨g1, 0, none⟩) (m + 1) cap1) (D ++ [y]) (A ++ [x])) := tw2; have HB2 : Hid (Below w.heap.size w w2) := (TW1.out.swap.alloc (.cells #[.int .i64 y] 3)).below hO1 (by simp; omega) hgrow2; clear hown2 hgrow2 hlies2 tw2))
        go_roundg (n - (j + 1))
        case measure => omega
        case rel => exact ⟨j + 1, by omega, rfl, by go_num, by rw [E1.out, E2.out]; exact TW2.out.swap, HB2.out⟩
    · have hx : ¬ (j : Int) < (n : Int) := by omega
      have hjn : j = n := by omega
      have TF : Hid (TwoR wr w.heap.size u5 u6 (keys (l.eraseIdx i)) (pinsL (l.eraseIdx i))) := by
        have := TR.out
        rw [hjn] at this
        rw [show n = (keys l).length by rw [keys_length]; exact HN.out, er_all, show (keys l).length = (pinsL l).length by rw [keys_length, pinsL_length], er_all, ← keys_erase', ← pinsL_erase] at this
        exact this
      have hsw : wr.heap[rp]? = some (.cells #[.int .i64 (room : Nat), .slice (some ⟨kb, ko, none⟩) n kc, .slice (some ⟨pb, po, none⟩) n pc] 35 (0, 0)) := (hb.block rp rlt).trans HS.out
      have hin := RefIn.stored hsw rlt TF.out
      have fz1 : wr.frozen? ⟨rp, 1, none⟩ = false := frozen_of_row wr rp 1 _ _ hsw
      have fz2 : wr.frozen? ⟨rp, 2, none⟩ = false := frozen_of_row wr rp 2 _ _ hsw
      have HIN : Hid (RefIn ((wr.setCell ⟨rp, 1, none⟩ u5).setCell ⟨rp, 2, none⟩ u6) rp room u5 u6 (l.eraseIdx i)) := hin
      have HO : Hid (Only (fun k => k = rp) w ((wr.setCell ⟨rp, 1, none⟩ u5).setCell ⟨rp, 2, none⟩ u6)) := by
        have o1 : Only (fun k => k = rp) w wr := ⟨hb.os, hb.tape, hb.output, hb.size, fun k hk _ => hb.block k hk⟩
        exact o1.then ((Only.setCell (fun k => k = rp) _ _ _ rfl).then (Only.setCell (fun k => k = rp) _ _ _ rfl))
      obtain ⟨a5, c5, e5, _, _⟩ := RowI.of_owns (k := .i64) TF.out.a
      obtain ⟨a6, c6, e6, _, _⟩ := RowI.of_owns (k := .i64) TF.out.b
      clear d3 hb hsw hin hjn hlt
      subst e5 e6
      go_wp2
      go_ret
      exact ⟨rfl, ⟨_, _, HIN.out, fun g hg => (TF.out.a.lt g hg).1, fun g hg => (TF.out.b.lt g hg).1⟩, HO.out⟩
end Go.Proofs.Ytmmhfkohfijlaaa
