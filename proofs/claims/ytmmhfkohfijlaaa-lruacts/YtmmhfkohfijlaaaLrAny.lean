/- What each call of a list answers and leaves, in plain words: whatever the list, whatever the key. -/
import Derived.Test.YtmmhfkohfijlaaaLrPins
import Derived.Test.YtmmhfkohfijlaaaLrPut
import Derived.Test.YtmmhfkohfijlaaaLrKeys
namespace Go.Proofs.Ytmmhfkohfijlaaa
open Go.RowKit Go.Maps Lr

namespace Lr
/-- the one that goes is the last one that is free -/
theorem held_at {l : L} {i : Nat} (hi : i < l.length) (h0 : l[i].2 = 0) (hp : ∀ j, i < j → ∀ h : j < l.length, l[j].2 ≠ 0) : held l = l.length - 1 - i := by
  unfold held
  rw [List.findIdx_eq (by simp; omega)]
  refine ⟨?_, fun j hj => ?_⟩
  · rw [List.getElem_reverse]
    have : l.length - 1 - (l.length - 1 - i) = i := by omega
    simp only [this, h0, beq_self_eq_true]
  · rw [List.getElem_reverse]
    have := hp (l.length - 1 - j) (by omega) (by omega)
    simpa using this
theorem held_all {l : L} (h : ∀ x ∈ l, x.2 ≠ 0) : held l = l.length := by
  unfold held
  rw [← List.length_reverse, List.findIdx_eq_length]
  intro x hx
  have := h x (by simpa using hx)
  simpa using this
theorem held_none {l : L} (h : held l = l.length) : ∀ x ∈ l, x.2 ≠ 0 := by
  unfold held at h
  rw [← List.length_reverse, List.findIdx_eq_length] at h
  intro x hx
  have := h x (by simpa using hx)
  simpa using this
variable {ns : N}
theorem len_map : (ns.map (·.2)).length = ns.length := by simp
theorem at_yes {k : Int} (h : idx (ns.map (·.2)) k < (ns.map (·.2)).length) : ∃ hi : idx (ns.map (·.2)) k < ns.length, ns[idx (ns.map (·.2)) k].2.1 = k := by
  refine ⟨by simpa using h, ?_⟩
  have := idx_key h
  rw [getD_at' h, List.getElem_map] at this
  exact this
theorem at_no {k : Int} (h : ¬ idx (ns.map (·.2)) k < (ns.map (·.2)).length) : ∀ x ∈ ns, x.2.1 ≠ k := fun x hx e => h (has_iff.2 (by unfold keys; rw [List.map_map]; exact List.mem_map.2 ⟨x, hx, e⟩))
theorem front_map {i : Nat} (hi : i < ns.length) : (ns[i] :: ns.eraseIdx i).map (·.2) = front (ns.map (·.2)) i := by
  unfold front
  rw [List.map_cons, map_erase, getD_at' (by simpa using hi), List.getElem_map]
theorem pins_at {k : Int} (h : idx (ns.map (·.2)) k < ns.length) : pins (ns.map (·.2)) k = ns[idx (ns.map (·.2)) k].2.2 := by
  unfold pins
  rw [getD_at' (by simpa using h), List.getElem_map]
theorem pinN_snd {i : Nat} (hi : i < ns.length) (n : Nat) : (pinN ns i n).map (·.2) = pinTo (ns.map (·.2)) i n := by
  rw [pinN_eq hi, pinTo, List.map_set, getD_at' (by simpa using hi), List.getElem_map]
theorem LruAt.of {w w' : World} {p e mb room : Nat} {l : L} {F : Nat → Prop} {ms : N} (h : LruIn w' p e mb room ms) (hl : ms.map (·.2) = l) (hF : ∀ k, Foot p e mb ns k → F k) (hN : ∀ k ∈ blk ms, k ∈ blk ns ∨ w.heap.size ≤ k) : LruAt w' p room l (Plus F w.heap.size) :=
  ⟨e, mb, ms, h, hl, fun k hk => by
    rcases hk with hk | hk | hk
    · exact .inl (hF k (.inl hk))
    · exact .inl (hF k (.inr (.inl hk)))
    · rcases List.mem_cons.1 hk with hk | hk
      · exact .inl (hF k (.inr (.inr (by rw [hk]; exact List.mem_cons_self ..))))
      · rcases hN k hk with hk | hk
        · exact .inl (hF k (.inr (.inr (List.mem_cons_of_mem _ hk))))
        · exact .inr hk⟩
theorem blk_erase {i k : Nat} (h : k ∈ blk (ns.eraseIdx i)) : k ∈ blk ns := by
  obtain ⟨y, hy, rfl⟩ := List.mem_map.1 h
  exact List.mem_map.2 ⟨y, List.mem_of_mem_eraseIdx hy, rfl⟩
end Lr

theorem Get_any {w : World} {p room : Nat} {l : L} {F : Nat → Prop} (h : LruAt w p room l F) {k : Int} (hk : Ok k) :
    Calls Try.prog 20 #[.pointer (some ⟨p, 0, none⟩), .int .i64 k] w fun r w' => r = .returned (.bool (Lr.has l k)) ∧ LruAt w' p room (Lr.get l k) (Plus F w.heap.size) ∧ Only F w w' := by
  obtain ⟨e, mb, ns, hin, rfl, hF⟩ := h
  by_cases hy : idx (ns.map (·.2)) k < (ns.map (·.2)).length
  · obtain ⟨hi, hkey⟩ := at_yes hy
    have c := Get_yes hin hi
    rw [hkey] at c
    refine c.mono ?_
    rintro r w' ⟨rfl, hin', ho⟩
    refine ⟨by rw [Lr.has, decide_eq_true hy], LruAt.of hin' ?_ hF ?_, ho.mono hF⟩
    · rw [front_map hi, Lr.get, if_pos hy]
    · intro j hj
      rcases List.mem_cons.1 hj with hj | hj
      · exact .inl (by rw [hj]; exact blk_at hi)
      · exact .inl (blk_erase hj)
  · refine (Get_no hin hk (at_no hy)).mono ?_
    rintro r w' ⟨rfl, rfl⟩
    refine ⟨by rw [Lr.has, decide_eq_false hy], LruAt.of hin ?_ hF (fun j hj => .inl hj), Only.refl _ _⟩
    rw [Lr.get, if_neg hy]

theorem Put_any {w : World} {p room : Nat} {l : L} {F : Nat → Prop} (h : LruAt w p room l F) {k : Int} (hk : Ok k) :
    Calls Try.prog 16 #[.pointer (some ⟨p, 0, none⟩), .int .i64 k] w fun r w' => r = .returned (.tuple #[.int .i64 (putG room l k), .bool (putW room l k), .int .i64 (putE room l k : Nat)]) ∧ LruAt w' p room (put room l k) (Plus F w.heap.size) ∧ Only F w w' := by
  obtain ⟨e, mb, ns, hin, rfl, hF⟩ := h
  unfold putG putW putE put
  by_cases hy : idx (ns.map (·.2)) k < (ns.map (·.2)).length
  · rw [if_pos hy, if_pos hy, if_pos hy, if_pos hy]
    obtain ⟨hi, hkey⟩ := at_yes hy
    have c := Put_has hin hi
    rw [hkey] at c
    refine c.mono ?_
    rintro r w' ⟨rfl, hin', ho⟩
    refine ⟨rfl, LruAt.of hin' (front_map hi) hF ?_, ho.mono hF⟩
    intro j hj
    rcases List.mem_cons.1 hj with hj | hj
    · exact .inl (by rw [hj]; exact blk_at hi)
    · exact .inl (blk_erase hj)
  · rw [if_neg hy, if_neg hy, if_neg hy, if_neg hy]
    by_cases hr : (ns.map (·.2)).length < room
    · rw [if_pos hr, if_pos hr, if_pos hr, if_pos hr]
      refine (Put_room hin hk (at_no hy) (by simpa using hr)).mono ?_
      rintro r w' ⟨rfl, hin', ho⟩
      refine ⟨rfl, LruAt.of hin' rfl hF ?_, ho.mono hF⟩
      intro j hj
      rcases List.mem_cons.1 hj with hj | hj
      · exact .inr (by rw [hj]; exact Nat.le_refl _)
      · exact .inl hj
    · rw [if_neg hr, if_neg hr, if_neg hr, if_neg hr]
      have hfull : ns.length = room := by have h1 := hin.full; rw [len_map] at hr; omega
      refine (Put_full hin hk (at_no hy) hfull).mono ?_
      rintro r w' (⟨rfl, hall, hin', ho⟩ | ⟨i, hi, b, hb, h0, hp, rfl, hin', ho⟩)
      · have hh : ¬ held (ns.map (·.2)) < (ns.map (·.2)).length := by
          rw [held_all fun x hx => by obtain ⟨y, hy, rfl⟩ := List.mem_map.1 hx; exact hall y hy]; exact Nat.lt_irrefl _
        rw [if_neg hh, if_neg hh, if_neg hh, decide_eq_false hh]
        exact ⟨rfl, LruAt.of hin' rfl hF (fun j hj => .inl hj), ho.mono hF⟩
      · have hil : i < (ns.map (·.2)).length := by simpa using hi
        have he := held_at hil (by simpa using h0) (fun j hj hjl => by simpa using hp j hj (by simpa using hjl))
        have hh : held (ns.map (·.2)) < (ns.map (·.2)).length := by rw [he]; omega
        have hold : old (ns.map (·.2)) = i := by unfold old; rw [he]; omega
        rw [if_pos hh, if_pos hh, if_pos hh, decide_eq_true hh, hold]
        refine ⟨by rw [getD_at' hil, List.getElem_map]; rfl, LruAt.of hin' (by rw [List.map_cons, map_erase]) hF ?_, ho.mono hF⟩
        intro j hj
        rcases List.mem_cons.1 hj with hj | hj
        · exact .inr (by rw [hj]; exact hb)
        · exact .inl (blk_erase hj)

theorem Pinned_any {w : World} {p room : Nat} {l : L} {F : Nat → Prop} (h : LruAt w p room l F) {k : Int} (hk : Ok k) :
    Calls Try.prog 14 #[.pointer (some ⟨p, 0, none⟩), .int .i64 k] w fun r w' => r = .returned (.int .i64 (pins l k : Nat)) ∧ w' = w := by
  obtain ⟨e, mb, ns, hin, rfl, hF⟩ := h
  by_cases hy : idx (ns.map (·.2)) k < (ns.map (·.2)).length
  · obtain ⟨hi, hkey⟩ := at_yes hy
    have c := Pinned_yes hin hi
    rw [hkey] at c
    rw [pins_at hi]
    exact c
  · rw [pins_out hy]
    exact Pinned_no hin hk (at_no hy)
theorem Pin_any {w : World} {p room : Nat} {l : L} {F : Nat → Prop} (h : LruAt w p room l F) {k : Int} (hk : Ok k) (hn : pins l k < 1000000000) :
    Calls Try.prog 17 #[.pointer (some ⟨p, 0, none⟩), .int .i64 k] w fun r w' => r = .returned (.int .i64 (pinE l k : Nat)) ∧ LruAt w' p room (pin l k) F ∧ Only F w w' := by
  obtain ⟨e, mb, ns, hin, rfl, hF⟩ := h
  unfold pinE pin
  by_cases hy : idx (ns.map (·.2)) k < (ns.map (·.2)).length
  · obtain ⟨hi, hkey⟩ := at_yes hy
    rw [pins_at hi] at hn ⊢
    have c := Pin_yes hin hi hn
    rw [hkey] at c
    rw [if_pos hy, if_pos hy]
    refine c.mono ?_
    rintro r w' ⟨rfl, hin', ho⟩
    refine ⟨rfl, ⟨e, mb, _, hin', pinN_snd hi _, fun j hj => hF j ?_⟩, ho.mono hF⟩
    unfold Foot at hj
    rwa [blk, pinN_map _ (fun _ _ _ _ => rfl) hi] at hj
  · rw [if_neg hy, if_neg hy]
    refine (Pin_no hin hk (at_no hy)).mono ?_
    rintro r w' ⟨rfl, rfl⟩
    exact ⟨rfl, ⟨e, mb, ns, hin, rfl, hF⟩, Only.refl _ _⟩
theorem Unpin_any {w : World} {p room : Nat} {l : L} {F : Nat → Prop} (h : LruAt w p room l F) {k : Int} (hk : Ok k) (hn : pins l k < 4000000000) :
    Calls Try.prog 19 #[.pointer (some ⟨p, 0, none⟩), .int .i64 k] w fun r w' => r = .returned (.int .i64 (unpinE l k : Nat)) ∧ LruAt w' p room (unpin l k) F ∧ Only F w w' := by
  obtain ⟨e, mb, ns, hin, rfl, hF⟩ := h
  unfold unpinE unpin
  by_cases hy : idx (ns.map (·.2)) k < (ns.map (·.2)).length
  · obtain ⟨hi, hkey⟩ := at_yes hy
    rw [if_pos hy, if_pos hy]
    rw [pins_at hi] at hn ⊢
    by_cases hz : ns[idx (ns.map (·.2)) k].2.2 = 0
    · have c := Unpin_free hin hi hz
      rw [hkey] at c
      rw [if_pos hz, if_pos hz]
      refine c.mono ?_
      rintro r w' ⟨rfl, rfl⟩
      exact ⟨rfl, ⟨e, mb, ns, hin, rfl, hF⟩, Only.refl _ _⟩
    · have c := Unpin_yes hin hi hz hn
      rw [hkey] at c
      rw [if_neg hz, if_neg hz]
      refine c.mono ?_
      rintro r w' ⟨rfl, hin', ho⟩
      refine ⟨rfl, ⟨e, mb, _, hin', pinN_snd hi _, fun j hj => hF j ?_⟩, ho.mono hF⟩
      unfold Foot at hj
      rwa [blk, pinN_map _ (fun _ _ _ _ => rfl) hi] at hj
  · rw [if_neg hy, if_neg hy]
    refine (Unpin_no hin hk (at_no hy)).mono ?_
    rintro r w' ⟨rfl, rfl⟩
    exact ⟨rfl, ⟨e, mb, ns, hin, rfl, hF⟩, Only.refl _ _⟩
theorem Drop_any {w : World} {p room : Nat} {l : L} {F : Nat → Prop} (h : LruAt w p room l F) {k : Int} (hk : Ok k) :
    Calls Try.prog 18 #[.pointer (some ⟨p, 0, none⟩), .int .i64 k] w fun r w' => r = .returned (.int .i64 (dropE l k : Nat)) ∧ LruAt w' p room (drop l k) F ∧ Only F w w' := by
  obtain ⟨e, mb, ns, hin, rfl, hF⟩ := h
  unfold dropE drop
  by_cases hy : idx (ns.map (·.2)) k < (ns.map (·.2)).length
  · obtain ⟨hi, hkey⟩ := at_yes hy
    rw [if_pos hy, if_pos hy]
    rw [pins_at hi]
    by_cases hz : ns[idx (ns.map (·.2)) k].2.2 = 0
    · have c := Drop_yes hin hi hz
      rw [hkey] at c
      rw [if_pos hz, if_pos hz]
      refine c.mono ?_
      rintro r w' ⟨rfl, hin', ho⟩
      refine ⟨rfl, ⟨e, mb, _, hin', map_erase _ _ _, fun j hj => hF j ?_⟩, ho.mono hF⟩
      rcases hj with hj | hj | hj
      · exact .inl hj
      · exact .inr (.inl hj)
      · rcases List.mem_cons.1 hj with hj | hj
        · exact foot_of_ring (by rw [hj]; exact List.mem_cons_self ..)
        · exact foot_of_ring (List.mem_cons_of_mem _ (blk_erase hj))
    · have c := Drop_held hin hi hz
      rw [hkey] at c
      rw [if_neg hz, if_neg hz]
      refine c.mono ?_
      rintro r w' ⟨rfl, rfl⟩
      exact ⟨rfl, ⟨e, mb, ns, hin, rfl, hF⟩, Only.refl _ _⟩
  · rw [if_neg hy, if_neg hy]
    refine (Drop_no hin hk (at_no hy)).mono ?_
    rintro r w' ⟨rfl, rfl⟩
    exact ⟨rfl, ⟨e, mb, ns, hin, rfl, hF⟩, Only.refl _ _⟩
theorem Keys_all {w : World} {p room : Nat} {l : L} {F : Nat → Prop} (h : LruAt w p room l F) :
    Calls Try.prog 13 #[.pointer (some ⟨p, 0, none⟩)] w fun r w' => (∃ v, r = .returned v ∧ w'.ownsRow w.heap.size 3 1 v l.length (iV (keys l))) ∧ Below w.heap.size w w' := by
  obtain ⟨e, mb, ns, hin, rfl, hF⟩ := h
  have := Keys_any hin
  rwa [show keys (ns.map (·.2)) = ns.map fun x => x.2.1 by unfold keys; rw [List.map_map]; rfl, len_map]
end Go.Proofs.Ytmmhfkohfijlaaa
