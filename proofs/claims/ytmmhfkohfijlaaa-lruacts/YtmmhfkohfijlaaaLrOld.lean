/- The walk of the search for the one that goes: the last one that is not pinned. -/
import Derived.Test.YtmmhfkohfijlaaaLrIter
namespace Go.Proofs.Ytmmhfkohfijlaaa
open Go.RowKit Go.Maps Go.Shelf Lr
attribute [local go_sem] Oper.semAt_some

/-- what the search answers -/
def OldAns (w : World) (ns : N) (r : Ending) (w' : World) : Prop :=
  ((r = .returned (.pointer none) ∧ ∀ x ∈ ns, x.2.2 ≠ 0) ∨ (∃ pr x t, ns.reverse = pr ++ x :: t ∧ (∀ y ∈ pr, y.2.2 ≠ 0) ∧ x.2.2 = 0 ∧ r = .returned (.pointer (some ⟨x.1, 0, none⟩)))) ∧ Below w.heap.size w w'

set_option maxRecDepth 100000 in
set_option maxHeartbeats 4000000 in
theorem oldest_any {w : World} {p e mb room : Nat} {ns : N} (h : LruIn w p e mb room ns) :
    Calls Try.prog 31 #[.pointer (some ⟨p, 0, none⟩)] w (OldAns w ns) := by
  have plt := h.lt (.inl rfl)
  have c1 := h.c1
  have kb1 := (Below.refl _ w).alloc (Nat.le_refl w.heap.size) (.cells #[.pointer none] 48)
  have hR : Hid (RingAt w e ns) := h.ring
  clear h
  refine (callsIn_wide (n := 3)).1 ?_
  refine callsIn_of_wp_marks Try.func31 rfl trivial ?_ rfl
  simp only [Try.ntmps31, List.size_toArray, List.length_cons, List.length_nil, Nat.reduceAdd, Nat.reduceSub, Array.replicate_succ, Array.replicate_zero, List.push_toArray, List.append_toArray, List.nil_append, List.cons_append]
  gi_wp2_with fail
  refine ⟨trivial, (callsIn_wide.2 (upward_any e _)).mono ?_⟩
  rintro r w' ⟨rfl, rfl⟩
  gi_wp2_with fail
  have kb2 := kb1.alloc (by simp) (.cells #[.pointer (some ⟨e, 0, none⟩)] 48)
  have bO := (Boxed.new w 48 (.pointer none)).alloc (.cells #[.pointer (some ⟨e, 0, none⟩)] 48)
  have bI := Boxed.new (w.alloc (.cells #[.pointer none] 48)) 48 (.pointer (some ⟨e, 0, none⟩))
  simp only [World.size_alloc] at bI
  have hRX : Hid (RingAt ((w.alloc (.cells #[.pointer none] 48)).alloc (.cells #[.pointer (some ⟨e, 0, none⟩)] 48)) e ns) := hR.out.only (Only.of_below kb2 (fun _ => False)) (fun _ _ h => h)
  have hG : ∀ k, ItG (w.heap.size + 1) e ns k → k < ((w.alloc (.cells #[.pointer none] 48)).alloc (.cells #[.pointer (some ⟨e, 0, none⟩)] 48)).heap.size := fun k hk => by
    rcases hk with rfl | hk
    · simp
    · exact hRX.out.lt hk
  refine wpIn_rangeFunc_ownG rfl (by decide) (gf := 37) (lb := #[.pointer (some ⟨w.heap.size + 1, 0, none⟩)]) rfl trivial (enters_of Try.func37 (by kernel_rfl) rfl)
    (upward_stops Fence.wide (3 - 1) trivial rfl (by decide) (w.heap.size + 1) e ns _ hRX.out bI) (fun h k => SameOn.trans h k) (SameOn.put hG) (Below.refl _ _) (fun _ => rfl)
    (fun pre W => (∀ y ∈ pre, y.1.2.2 ≠ 0) ∧ (Boxed W w.heap.size 48 (.pointer none) ∧ Below w.heap.size w W))
    (fun c pre W => (c = Code.ret ∧ ∃ pr x, pre = pr ++ [x] ∧ (∀ y ∈ pr, y.1.2.2 ≠ 0) ∧ x.1.2.2 = 0 ∧ Boxed W w.heap.size 48 (.pointer (some ⟨x.1.1, 0, none⟩))) ∧ Below w.heap.size w W)
    (OwnFrom.and (fun _ _ _ _ h _ _ => h) (OwnFrom.and (Own.from (boxed_own _ _ _) _) (ownFrom_below (Nat.le_refl _) (by simp <;> omega))))
    (fun c => OwnFrom.and (fun s A B row hs hg hr => by
        obtain ⟨e1, pr, x, e2, e3, e4, e5⟩ := hs
        exact ⟨e1, pr, x, e2, e3, e4, (Own.from (boxed_own w.heap.size 48 (fun _ : Unit => .pointer (some ⟨x.1.1, 0, none⟩))) _) () A B row e5 hg hr⟩) (ownFrom_below (Nat.le_refl _) (by simp <;> omega)))
    ⟨by simp, bO, kb2⟩
    (fun x => { tmps := #[.pointer (some ⟨p, 0, none⟩), undef, .pointer (some ⟨w.heap.size, 0, none⟩), .pointer (some ⟨x.1.1, 0, none⟩), .pointer (some ⟨p, 0, none⟩), .pointer (some ⟨p, 0, none⟩), .pointer (some ⟨p, 1, none⟩), .pointer (some ⟨e, 0, none⟩),
          .func (.func 37) #[] #[.pointer (some ⟨w.heap.size + 1, 0, none⟩)], .pointer (some ⟨x.1.1, 0, none⟩), undef, undef, undef, undef, undef, undef, undef], defers := [] }) ?assign ?body ?done ?stop
  case assign =>
    intro l x W K hK
    gi_wp2
    exact hK
  case body =>
    rintro _ pre ⟨x, hx⟩ W ⟨hp, hv, hB⟩ hlt
    have c3 := ((hR.out.only (Only.of_below hB (fun _ => False)) (fun _ _ h => h)).free hx).c3
    have cv := hv.cell
    have fv := hv.frozen
    have HP : Hid (∀ y ∈ pre, y.1.2.2 ≠ 0) := hp
    clear hp
    by_cases hz : x.2.2 = 0
    · rw [hz] at c3
      gi_wp2
      exact ⟨(KeepsOthers.setCell _ _ _).from _, ⟨rfl, pre, ⟨x, hx⟩, rfl, HP.out, hz, hv.set _⟩, hB.setCell (Nat.le_refl _) _⟩
    · have hne : ((x.2.2 : Int) == 0) = false := by rw [beq_eq_false_iff_ne]; omega
      gi_wp2
      refine ⟨KeepsFrom.refl _ _, SameOn.refl _ _, fun y hy => ?_, hv, hB⟩
      rcases List.mem_append.1 hy with hy | hy
      · exact HP.out y hy
      · rw [List.mem_singleton.1 hy]; exact hz
  case done =>
    rintro D ys W hD hys ⟨hp, hv, hB⟩ hK
    have cv := hv.cell
    have fv := hv.frozen
    have HP : Hid (∀ y ∈ ys, y.1.2.2 ≠ 0) := hp
    clear hp
    gi_wp2
    have hK' := (KeepsOthers.setCell W ⟨w.heap.size, 0, none⟩ (.pointer none)).same D _ hK rfl
    have hB' := hB.setCell (p := ⟨w.heap.size, 0, none⟩) (Nat.le_refl _) (.pointer none)
    refine ⟨by simp, .inl ⟨_, _, rfl, run_takeDeferred hK', ?_⟩⟩
    have hc5 := cell_kept (hv.set (.pointer none)).cell (grownBy_putObj' _ D (.deferred none)) (fun r e => by cases e; exact ⟨_, hK', rfl⟩)
    refine ⟨.pointer none, ?_, .inl ⟨rfl, fun y hy => ?_⟩, hB'.trans (belowK_b (w := w) (Nat.le_refl _) _ D _ _ (by simp at hD; omega) hK' rfl rfl)⟩
    · simp [results, Try.f31, go_sem, hc5]
    · have : y ∈ ns.reverse := by simpa using hy
      rw [← hys] at this
      obtain ⟨z, hz, rfl⟩ := List.mem_map.1 this
      exact HP.out z hz
  case stop =>
    rintro D c pre W hD ⟨t, ht⟩ ⟨⟨rfl, pr, x, rfl, hp, hz, hv⟩, hB⟩ hK
    have HP : Hid (∀ y ∈ pr, y.1.2.2 ≠ 0) := hp
    clear hp
    gi_wp2
    refine ⟨by simp, .inl ⟨_, _, rfl, run_takeDeferred hK, ?_⟩⟩
    have hc5 := cell_kept hv.cell (grownBy_putObj' _ D (.deferred none)) (fun r e => by cases e; exact ⟨_, hK, rfl⟩)
    refine ⟨.pointer (some ⟨x.1.1, 0, none⟩), ?_, .inr ⟨pr.map (·.1), x.1, t, ?_, fun y hy => ?_, hz, rfl⟩, hB.trans (belowK_b (w := w) (Nat.le_refl _) _ D _ _ (by simp at hD; omega) hK rfl rfl)⟩
    · simp [results, Try.f31, go_sem, hc5]
    · rw [← ht]; simp
    · obtain ⟨z, hz, rfl⟩ := List.mem_map.1 hy
      exact HP.out z hz
end Go.Proofs.Ytmmhfkohfijlaaa
