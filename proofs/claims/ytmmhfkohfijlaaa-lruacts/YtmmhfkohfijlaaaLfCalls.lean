/- The walks of the document's own list's calls: Get, Put, Pin, Unpin, Drop, Pinned. -/
import Derived.Test.YtmmhfkohfijlaaaLfFront
namespace Go.Proofs.Ytmmhfkohfijlaaa
open Go.RowKit Lr
attribute [local go_sem] Oper.semAt_some

namespace Lr
variable {w w' : World} {rp room : Nat} {l : L} {G : Nat → Prop}
theorem RefAt.of {vk' vp' : Value} {l' : L} (h : RefIn w' rp room vk' vp' l') (hG : G rp) (h1 : ∀ g, vk'.ownBlock = some g → w.heap.size ≤ g) (h2 : ∀ g, vp'.ownBlock = some g → w.heap.size ≤ g) : RefAt w' rp room l' (Plus G w.heap.size) :=
  ⟨vk', vp', h, .inl hG, fun g hg => .inr (h1 g hg), fun g hg => .inr (h2 g hg)⟩
theorem atI_yes {k : Int} (h : idx l k < l.length) : atI l k = (idx l k : Int) := if_pos h
theorem atI_no {k : Int} (h : ¬ idx l k < l.length) : atI l k = -1 := if_neg h
theorem pinTo_length' (l : L) (i n : Nat) : (pinTo l i n).length = l.length := by simp [pinTo]
theorem pinTo_keys' {l : L} {i : Nat} (hi : i < l.length) (n : Nat) : keys (pinTo l i n) = keys l := by
  unfold keys pinTo
  rw [getD_at' hi]
  apply List.ext_getElem
  · simp
  · intro j h1 h2
    rw [List.getElem_map, List.getElem_map, List.getElem_set]
    by_cases e : i = j
    · subst e; rw [if_pos rfl]
    · rw [if_neg e]
/-- another number in a row of the call's own -/
theorem owns_set {base n g cap i : Nat} {xs : List Int} (h : w.ownsRow base 3 1 (.slice (some ⟨g, 0, none⟩) n cap) n (iV xs)) (_hi : i < n) (y : Int) :
    (w.setCell ⟨g, i, none⟩ (.int .i64 y)).ownsRow base 3 1 (.slice (some ⟨g, 0, none⟩) n cap) n (iV (xs.set i y)) := by
  refine ⟨by have := h.1; simpa using this, ?_⟩
  rcases h.2 with ⟨e, _⟩ | ⟨g', cap', cur, e, h1, h2, r1, r2, r3, r4⟩
  · cases e
  · injection e with e1 e2 e3
    injection e1 with e1
    injection e1 with e1
    subst e1 e3
    refine .inr ⟨g, cap, _, rfl, h1, heap_setCell_same w g i cur _ _ h2, r1, r2, by simpa using r3, ?_⟩
    rw [Array.toList_setIfInBounds, List.take_set, r4, iV, iV, List.map_set]
end Lr

set_option maxRecDepth 100000 in
set_option maxHeartbeats 2000000 in
theorem rPinned14_any {w : World} {rp room : Nat} {l : L} {G : Nat → Prop} (h : RefAt w rp room l G) (hn : l.length ≤ 1000) (k : Int) :
    Calls Try.prog 15 #[.pointer (some ⟨rp, 0, none⟩), .int .i64 k] w fun r w' => r = .returned (.int .i64 (pins l k : Nat)) ∧ w' = w := by
  obtain ⟨vk, vp, hin, _, _, _⟩ := h
  have ha := rat14_any hin hn k
  have c2 := hin.c2
  by_cases hy : idx l k < l.length
  · rw [atI_yes hy] at ha
    obtain ⟨pa, pc, rfl, hP, _⟩ := RowI.of_owns (k := .i64) hin.p
    obtain ⟨pb, po, rfl, cp⟩ := hP _ hy
    dsimp only at cp
    rw [pinsL_at l hy, show (l.getD (idx l k) (0, 0)).2 = pins l k from rfl] at cp
    obtain ⟨i, hi⟩ : ∃ i, i = idx l k := ⟨_, rfl⟩
    obtain ⟨n, hne⟩ : ∃ n, n = l.length := ⟨_, rfl⟩
    obtain ⟨q, hq⟩ : ∃ q, q = pins l k := ⟨_, rfl⟩
    rw [← hi] at ha hy cp
    rw [← hne] at hy c2 hn
    rw [← hq] at cp ⊢
    clear hin hP hi hne hq
    go_enter Try.func15, Try.ntmps15
    go_wp2_with fail
    refine ha.mono ?_
    rintro e w1 ⟨rfl, rfl⟩
    clear ha
    go_wp2
    go_ret
    exact ⟨rfl, rfl⟩
  · rw [atI_no hy] at ha
    rw [pins_out hy]
    clear hin c2
    go_enter Try.func15, Try.ntmps15
    go_wp2_with fail
    refine ha.mono ?_
    rintro e w1 ⟨rfl, rfl⟩
    clear ha
    go_wp2
    go_ret
    exact ⟨rfl, rfl⟩

set_option maxRecDepth 100000 in
set_option maxHeartbeats 2000000 in
theorem rGet14_any {w : World} {rp room : Nat} {l : L} {G : Nat → Prop} (h : RefAt w rp room l G) (hn : l.length ≤ 1000) (k : Int) :
    Calls Try.prog 23 #[.pointer (some ⟨rp, 0, none⟩), .int .i64 k] w fun r w' => r = .returned (.bool (Lr.has l k)) ∧ RefAt w' rp room (Lr.get l k) (Plus G w.heap.size) ∧ Only G w w' := by
  obtain ⟨vk, vp, hin, hG, hGk, hGp⟩ := h
  have ha := rat14_any hin hn k
  by_cases hy : idx l k < l.length
  · rw [atI_yes hy] at ha
    have ht := rtake14_any hin hn hy
    have hkey := idx_key hy
    have e1 : Lr.has l k = true := decide_eq_true hy
    have e2 : Lr.get l k = (k, (l.getD (idx l k) (0, 0)).2) :: l.eraseIdx (idx l k) := by
      unfold Lr.get
      rw [if_pos hy, front]
      exact congrArg (· :: _) (Prod.ext hkey rfl)
    rw [e1, e2]
    have hl2 : (l.eraseIdx (idx l k)).length ≤ 1000 := Nat.le_trans (List.length_eraseIdx_le _ _) hn
    obtain ⟨l2, hl2e⟩ : ∃ l2, l2 = l.eraseIdx (idx l k) := ⟨_, rfl⟩
    obtain ⟨q, hq⟩ : ∃ q, q = (l.getD (idx l k) (0, 0)).2 := ⟨_, rfl⟩
    obtain ⟨i, hi⟩ : ∃ i, i = idx l k := ⟨_, rfl⟩
    rw [← hi] at ha ht
    rw [hi, ← hl2e, ← hq, ← hi] at ht
    rw [← hl2e] at hl2 ⊢
    rw [← hq]
    have HG : Hid (G rp) := hG
    clear hin hG hGk hGp e1 e2 hy hkey hl2e hq hi
    go_enter Try.func23, Try.ntmps23
    go_wp2_with fail
    refine ha.mono ?_
    rintro e w1 ⟨rfl, rfl⟩
    clear ha
    go_wp2_with fail
    refine ht.mono ?_
    rintro e w2 ⟨rfl, ⟨vk2, vp2, hin2, _, _⟩, ho2⟩
    have HO2 : Hid (Only (fun j => j = rp) w1 w2) := ho2
    have hf := rfront14_any hin2 hl2 k q
    clear ht hin2 ho2
    go_wp2_with fail
    refine hf.mono ?_
    rintro e w3 ⟨rfl, ⟨vk3, vp3, hin3, h5, h6⟩, ho3⟩
    have HR : Hid (RefAt w3 rp room ((k, q) :: l2) (Plus G w1.heap.size)) := RefAt.of (w := w1) hin3 HG.out (fun g hg => Nat.le_trans HO2.out.size (h5 g hg)) (fun g hg => Nat.le_trans HO2.out.size (h6 g hg))
    have HO : Hid (Only G w1 w3) := (HO2.out.then ho3).mono fun j hj => by rw [show j = rp from hj]; exact HG.out
    clear hin3 h5 h6 ho3 hf
    go_wp2
    go_ret
    exact ⟨rfl, HR.out, HO.out⟩
  · rw [atI_no hy] at ha
    have e1 : Lr.has l k = false := decide_eq_false hy
    have e2 : Lr.get l k = l := if_neg hy
    rw [e1, e2]
    have HR : Hid (RefAt w rp room l (Plus G w.heap.size)) := ⟨vk, vp, hin, .inl hG, fun g hg => .inl (hGk g hg), fun g hg => .inl (hGp g hg)⟩
    clear hin e1 e2 hG hGk hGp
    go_enter Try.func23, Try.ntmps23
    go_wp2_with fail
    refine ha.mono ?_
    rintro e w1 ⟨rfl, rfl⟩
    clear ha
    go_wp2
    go_ret
    exact ⟨rfl, HR.out, Only.refl _ _⟩

/-- a row of the call's own that has something, told by its block -/
theorem own_at {w : World} {base n : Nat} {v : Value} {xs : List Int} (h : w.ownsRow base 3 1 v n (iV xs)) {i : Nat} (hi : i < n) : ∃ g cap, v = .slice (some ⟨g, 0, none⟩) n cap ∧ g < w.heap.size ∧ w.cell? ⟨g, i, none⟩ = some (.int .i64 (xs.getD i 0)) ∧ w.frozen? ⟨g, i, none⟩ = false := by
  obtain ⟨a, cap, rfl, hR, _⟩ := RowI.of_owns (k := .i64) h
  rcases h.2 with ⟨e, h1⟩ | ⟨g, cap', cur, e, hg, hc, r1, r2, r3, r4⟩
  · omega
  · injection e with e1 e2 e3
    subst e1 e3
    obtain ⟨b, o, e4, hx⟩ := hR i hi
    cases e4
    rw [Nat.zero_add] at hx
    exact ⟨g, cap, rfl, (Array.getElem?_eq_some_iff.1 hc).1, hx, frozen_of_row w g i _ _ hc⟩
theorem pinsL_set (l : L) (i n : Nat) : pinsL (pinTo l i n) = (pinsL l).set i (n : Int) := by
  unfold pinsL pinTo
  rw [List.map_set]
/-- one is pinned so often -/
theorem Lr.RefIn.pinned {w : World} {rp room g cap n : Nat} {vk : Value} {l : L} (h : RefIn w rp room vk (.slice (some ⟨g, 0, none⟩) n cap) l) (hn : n = l.length) {i : Nat} (hi : i < l.length) (q : Nat) :
    RefIn (w.setCell ⟨g, i, none⟩ (.int .i64 (q : Int))) rp room vk (.slice (some ⟨g, 0, none⟩) n cap) (pinTo l i q) ∧ Only (fun j => j = g) w (w.setCell ⟨g, i, none⟩ (.int .i64 (q : Int))) := by
  have ho : Only (fun j => j = g) w (w.setCell ⟨g, i, none⟩ (.int .i64 (q : Int))) := Only.setCell _ _ _ _ rfl
  have hg : (Value.slice (some ⟨g, 0, none⟩) n cap).ownBlock = some g := rfl
  have hp := h.p
  rw [← hn] at hp
  refine ⟨⟨(ho.block rp h.lt (fun e => h.rp_p (by rw [hg, show rp = g from e]))).trans h.self, ?_, ?_, h.ap⟩, ho⟩
  · have := owns_only ho h.k (fun j hj e => h.ap j hj (by rw [hg, show j = g from e]))
    rwa [pinTo_length', pinTo_keys' hi]
  · rw [pinTo_length', pinsL_set, ← hn]
    exact owns_set hp (by omega) _
end Go.Proofs.Ytmmhfkohfijlaaa
