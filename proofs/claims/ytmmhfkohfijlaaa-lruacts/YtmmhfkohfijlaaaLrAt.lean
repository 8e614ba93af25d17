/- Where a list lies: its own block, its ring's end, a node for each key, and the map that tells where each one is. -/
import Derived.Test.YtmmhfkohfijlaaaLrNode
namespace Go.Proofs.Ytmmhfkohfijlaaa
open Go.RowKit Go.Maps

namespace Lr
theorem map_erase {α β : Type} (f : α → β) : ∀ (l : List α) (i : Nat), (l.eraseIdx i).map f = (l.map f).eraseIdx i
  | [], _ => rfl
  | _ :: _, 0 => rfl
  | a :: l, i + 1 => by simp [map_erase f l i]
/-- nodes: each one's block, its key, how often it is pinned -/
abbrev N := List (Nat × Int × Nat)
abbrev blk (ns : N) : List Nat := ns.map (·.1)
/-- a ring that ends at e and has those nodes, the one behind its end first -/
def RingAt (w : World) (e : Nat) (ns : N) : Prop := ∃ A B V, Rg A B e (blk ns) ∧ Nodes w (e :: blk ns) A B V ∧ ∀ x ∈ ns, V x.1 = x.2
/-- a node that may be in no ring -/
def FreeAt (w : World) (x : Nat × Int × Nat) : Prop := ∃ a b, w.heap[x.1]? = some (.cells #[a, b, .int .i64 x.2.1, .int .i64 (x.2.2 : Nat)] 59 (0, 0))
/-- the map of the keys' nodes -/
def KeyMap (w : World) (mb : Nat) (ns : N) : Prop := ∃ g, MapP w mb ns.length g ∧ (∀ x ∈ ns, g x.2.1 = some x.1) ∧ ∀ k, (∀ x ∈ ns, x.2.1 ≠ k) → g k = none
variable {w w' : World} {p e mb room : Nat} {ns : N}
theorem RingAt.nd (h : RingAt w e ns) : (e :: blk ns).Nodup := by obtain ⟨_, _, _, h, _⟩ := h; exact h.nd
theorem RingAt.lt (h : RingAt w e ns) {k : Nat} (hk : k ∈ e :: blk ns) : k < w.heap.size := by obtain ⟨_, _, _, _, h, _⟩ := h; exact h.lt hk
theorem RingAt.type (h : RingAt w e ns) {k : Nat} (hk : k ∈ e :: blk ns) : ∃ cs, w.heap[k]? = some (.cells cs 59 (0, 0)) := by obtain ⟨_, _, _, _, h, _⟩ := h; exact ⟨_, h k hk⟩
theorem RingAt.only {F : Nat → Prop} (h : RingAt w e ns) (g : Only F w w') (hF : ∀ k ∈ e :: blk ns, ¬ F k) : RingAt w' e ns := by
  obtain ⟨A, B, V, h1, h2, h3⟩ := h
  exact ⟨A, B, V, h1, h2.only g hF, h3⟩
theorem RingAt.free (h : RingAt w e ns) {x : Nat × Int × Nat} (hx : x ∈ ns) : FreeAt w x := by
  obtain ⟨A, B, V, h1, h2, h3⟩ := h
  have := h2 x.1 (List.mem_cons_of_mem _ (List.mem_map.2 ⟨x, hx, rfl⟩))
  rw [h3 x hx] at this
  exact ⟨_, _, this⟩
theorem FreeAt.only {F : Nat → Prop} {x : Nat × Int × Nat} (h : FreeAt w x) (g : Only F w w') (hF : ¬ F x.1) : FreeAt w' x := by
  obtain ⟨a, b, h⟩ := h
  exact ⟨a, b, (g.block _ (Array.getElem?_eq_some_iff.1 h).1 hF).trans h⟩
theorem FreeAt.c2 {x : Nat × Int × Nat} (h : FreeAt w x) : w.cell? ⟨x.1, 2, none⟩ = some (.int .i64 x.2.1) := by obtain ⟨a, b, h⟩ := h; rw [cell_of_row w x.1 2 _ _ _ h]; rfl
theorem FreeAt.c3 {x : Nat × Int × Nat} (h : FreeAt w x) : w.cell? ⟨x.1, 3, none⟩ = some (.int .i64 (x.2.2 : Nat)) := by obtain ⟨a, b, h⟩ := h; rw [cell_of_row w x.1 3 _ _ _ h]; rfl
theorem FreeAt.f3 {x : Nat × Int × Nat} (h : FreeAt w x) : w.frozen? ⟨x.1, 3, none⟩ = false := by obtain ⟨a, b, h⟩ := h; exact frozen_of_row w x.1 3 _ _ h
theorem KeyMap.only {F : Nat → Prop} (h : KeyMap w mb ns) (o : Only F w w') (hF : ¬ F mb) : KeyMap w' mb ns := by
  obtain ⟨g, h1, h2⟩ := h
  exact ⟨g, h1.only o hF, h2⟩
/-- in another order it is the same map -/
theorem KeyMap.perm (h : KeyMap w mb ns) {ms : N} (hl : ms.length = ns.length) (h1 : ∀ x ∈ ms, ∃ y ∈ ns, y.1 = x.1 ∧ y.2.1 = x.2.1) (h2 : ∀ y ∈ ns, ∃ x ∈ ms, y.2.1 = x.2.1) : KeyMap w mb ms := by
  obtain ⟨g, hm, hg, hn⟩ := h
  refine ⟨g, by rw [hl]; exact hm, fun x hx => ?_, fun k hk => hn k fun y hy => ?_⟩
  · obtain ⟨y, hy, e1, e2⟩ := h1 x hx
    rw [← e1, ← e2]; exact hg y hy
  · obtain ⟨x, hx, e1⟩ := h2 y hy
    rw [e1]; exact hk x hx
theorem KeyMap.put {y : Nat × Int × Nat} (hy : ∀ x ∈ ns, x.2.1 ≠ y.2.1) {g : Int → Option Nat} (h2 : ∀ x ∈ ns, g x.2.1 = some x.1) (h3 : ∀ k, (∀ x ∈ ns, x.2.1 ≠ k) → g k = none)
    (h : MapP w mb (ns.length + 1) (fun j => if j = y.2.1 then some y.1 else g j)) : KeyMap w mb (y :: ns) := by
  refine ⟨_, h, fun x hx => ?_, fun k hk => ?_⟩
  · rcases List.mem_cons.1 hx with rfl | hx
    · exact if_pos rfl
    · exact (if_neg (hy x hx)).trans (h2 x hx)
  · exact (if_neg (fun e => hk y (List.mem_cons_self ..) e.symm)).trans (h3 k fun x hx => hk x (List.mem_cons_of_mem _ hx))
theorem KeyMap.del {i : Nat} (hi : i < ns.length) (hnd : (ns.map fun x => x.2.1).Nodup) {g : Int → Option Nat} (h2 : ∀ x ∈ ns, g x.2.1 = some x.1) (h3 : ∀ k, (∀ x ∈ ns, x.2.1 ≠ k) → g k = none)
    (h : MapP w mb (ns.length - 1) (fun j => if j = ns[i].2.1 then none else g j)) : KeyMap w mb (ns.eraseIdx i) := by
  refine ⟨_, by rw [List.length_eraseIdx, if_pos hi]; exact h, fun x hx => ?_, fun k hk => ?_⟩
  · obtain ⟨j, hj, hji, rfl⟩ := List.mem_eraseIdx_iff_getElem.1 hx
    refine (if_neg fun e => hji ?_).trans (h2 _ (List.getElem_mem hj))
    exact nodup_at hnd (by simpa using hj) (by simpa using hi) (by simpa using e)
  · by_cases e : k = ns[i].2.1
    · exact if_pos e
    · refine (if_neg e).trans (h3 k fun x hx => ?_)
      obtain ⟨j, hj, rfl⟩ := List.mem_iff_getElem.1 hx
      by_cases e2 : j = i
      · subst e2; exact Ne.symm e
      · exact hk _ (List.mem_eraseIdx_iff_getElem.2 ⟨j, hj, e2, rfl⟩)
theorem KeyMap.lt (h : KeyMap w mb ns) : mb < w.heap.size := by obtain ⟨_, h, _⟩ := h; exact h.lt

structure LruIn (w : World) (p e mb room : Nat) (ns : N) : Prop where
  room1 : 1 ≤ room
  room64 : room ≤ 64
  full : ns.length ≤ room
  nd : (ns.map fun x => x.2.1).Nodup
  okk : ∀ x ∈ ns, Ok x.2.1
  self : w.heap[p]? = some (.cells #[.int .i64 (room : Nat), .pointer (some ⟨e, 0, none⟩), .map (some mb)] 54 (0, 0))
  ring : RingAt w e ns
  map : KeyMap w mb ns
/-- its blocks -/
def Foot (p e mb : Nat) (ns : N) (k : Nat) : Prop := k = p ∨ k = mb ∨ k ∈ e :: blk ns
theorem LruIn.lt (h : LruIn w p e mb room ns) {k : Nat} (hk : Foot p e mb ns k) : k < w.heap.size := by
  rcases hk with rfl | rfl | hk
  · exact (Array.getElem?_eq_some_iff.1 h.self).1
  · exact h.map.lt
  · exact h.ring.lt hk
theorem LruIn.only {F : Nat → Prop} (h : LruIn w p e mb room ns) (g : Only F w w') (hF : ∀ k, Foot p e mb ns k → ¬ F k) : LruIn w' p e mb room ns :=
  ⟨h.room1, h.room64, h.full, h.nd, h.okk, (g.block p (h.lt (.inl rfl)) (hF p (.inl rfl))).trans h.self, h.ring.only g (fun k hk => hF k (.inr (.inr hk))), h.map.only g (hF mb (.inr (.inl rfl)))⟩
theorem LruIn.p_mb (h : LruIn w p e mb room ns) : p ≠ mb := by
  rintro rfl
  obtain ⟨g, ⟨D, ⟨es, cl, hb, _⟩, _⟩, _⟩ := h.map
  rw [h.self] at hb; simp at hb
theorem LruIn.p_ring (h : LruIn w p e mb room ns) : p ∉ e :: blk ns := fun hk => by
  obtain ⟨cs, hc⟩ := h.ring.type hk
  rw [h.self] at hc; simp at hc
theorem LruIn.mb_ring (h : LruIn w p e mb room ns) : mb ∉ e :: blk ns := fun hk => by
  obtain ⟨cs, hc⟩ := h.ring.type hk
  obtain ⟨g, ⟨D, ⟨es, cl, hb, _⟩, _⟩, _⟩ := h.map
  rw [hc] at hb; simp at hb
theorem LruIn.c0 (h : LruIn w p e mb room ns) : w.cell? ⟨p, 0, none⟩ = some (.int .i64 (room : Nat)) := by rw [cell_of_row w p 0 _ _ _ h.self]; rfl
theorem LruIn.c1 (h : LruIn w p e mb room ns) : w.cell? ⟨p, 1, none⟩ = some (.pointer (some ⟨e, 0, none⟩)) := by rw [cell_of_row w p 1 _ _ _ h.self]; rfl
theorem LruIn.c2 (h : LruIn w p e mb room ns) : w.cell? ⟨p, 2, none⟩ = some (.map (some mb)) := by rw [cell_of_row w p 2 _ _ _ h.self]; rfl
theorem LruIn.key {i : Nat} (h : LruIn w p e mb room ns) (hi : i < ns.length) : Ok ns[i].2.1 := h.okk _ (List.getElem_mem hi)
theorem LruIn.look_yes {i : Nat} (h : LruIn w p e mb room ns) (hi : i < ns.length) :
    (Instr.lookup 52 (.map (some mb)) (.int .i64 ns[i].2.1) true).run Try.prog w = .ok (.tuple #[.pointer (some ⟨ns[i].1, 0, none⟩), .bool true]) w := by
  obtain ⟨g, hm, hg, _⟩ := h.map
  exact hm.look_yes (h.key hi) (hg _ (List.getElem_mem hi))
theorem LruIn.look_no (h : LruIn w p e mb room ns) {k : Int} (hk : Ok k) (hno : ∀ x ∈ ns, x.2.1 ≠ k) :
    (Instr.lookup 52 (.map (some mb)) (.int .i64 k) true).run Try.prog w = .ok (.tuple #[.pointer none, .bool false]) w := by
  obtain ⟨g, hm, _, hn⟩ := h.map
  exact hm.look_no hk (hn k hno)

/-- a list lies behind the pointer to block p, within the blocks of which F holds: it has room for so many keys, and has those -/
def LruAt (w : World) (p room : Nat) (l : L) (F : Nat → Prop) : Prop := ∃ e mb ns, LruIn w p e mb room ns ∧ ns.map (·.2) = l ∧ ∀ k, Foot p e mb ns k → F k
variable {l : L} {F : Nat → Prop}
theorem LruAt.only {G : Nat → Prop} (h : LruAt w p room l F) (g : Only G w w') (hn : ∀ k, k < w.heap.size → F k → ¬ G k) : LruAt w' p room l F := by
  obtain ⟨e, mb, ns, hin, hl, hf⟩ := h
  exact ⟨e, mb, ns, hin.only g (fun k hk => hn k (hin.lt hk) (hf k hk)), hl, hf⟩
theorem LruAt.below (h : LruAt w p room l F) (hb : Below w.heap.size w w') : LruAt w' p room l F := h.only (Only.of_below hb (fun _ => False)) (fun _ _ _ hf => hf)
theorem LruAt.mono {G : Nat → Prop} (h : LruAt w p room l F) (hs : ∀ k, F k → G k) : LruAt w p room l G := by
  obtain ⟨e, mb, ns, hin, hl, hf⟩ := h
  exact ⟨e, mb, ns, hin, hl, fun k hk => hs k (hf k hk)⟩
theorem LruAt.tight (h : LruAt w p room l F) : LruAt w p room l (fun k => F k ∧ k < w.heap.size) := by
  obtain ⟨e, mb, ns, hin, hl, hf⟩ := h
  exact ⟨e, mb, ns, hin, hl, fun k hk => ⟨hf k hk, hin.lt hk⟩⟩
theorem LruAt.lt (h : LruAt w p room l F) : p < w.heap.size := by obtain ⟨e, mb, ns, hin, _⟩ := h; exact hin.lt (.inl rfl)
/-- what is known of its keys -/
structure LOk (room : Nat) (l : L) : Prop where
  room1 : 1 ≤ room
  room64 : room ≤ 64
  full : l.length ≤ room
  nd : (keys l).Nodup
  okk : ∀ x ∈ l, Ok x.1
theorem LruAt.ok (h : LruAt w p room l F) : LOk room l := by
  obtain ⟨e, mb, ns, hin, rfl, _⟩ := h
  refine ⟨hin.room1, hin.room64, by rw [List.length_map]; exact hin.full, ?_, fun x hx => ?_⟩
  · have := hin.nd; unfold keys; rwa [List.map_map]
  · obtain ⟨y, hy, rfl⟩ := List.mem_map.1 hx; exact hin.okk y hy
end Lr
open Lr

/-- one leaves its ring -/
theorem leave_at {w : World} {e : Nat} {ns : N} (h : RingAt w e ns) {i : Nat} (hi : i < ns.length) :
    Calls Try.prog 33 #[.pointer (some ⟨ns[i].1, 0, none⟩)] w fun r w' => r = .returned (.tuple #[]) ∧ RingAt w' e (ns.eraseIdx i) ∧ FreeAt w' ns[i] ∧ Only (fun k => k ∈ e :: blk ns) w w' := by
  obtain ⟨A, B, V, hr, hn, hv⟩ := h
  have hib : i < (blk ns).length := by simpa using hi
  have hx : ns[i].1 = (blk ns).getD i e := by rw [List.getD_eq_getElem?_getD, List.getElem?_eq_getElem hib]; simp
  have hxm : ns[i].1 ∈ e :: blk ns := List.mem_cons_of_mem _ (List.mem_map.2 ⟨_, List.getElem_mem hi, rfl⟩)
  have hpl : ns[i].1 = pl e (blk ns) (i + 1) := by rw [hx, pl_succ]
  have na : A ns[i].1 ≠ ns[i].1 := by
    rw [hpl, hr.a i (by omega)]
    exact fun q => by have := pl_inj hr.nd (by omega) (by omega) q; omega
  have nb : B ns[i].1 ≠ ns[i].1 := by
    rw [hpl, hr.b (i + 1) (by omega)]
    exact fun q => by have := pl_inj' hr.nd (by omega) (by omega) q; omega
  refine (leave_any hn hxm (hr.mem_a hxm) (hr.mem_b hxm) na nb).mono ?_
  rintro r w' ⟨rfl, hn', ho⟩
  have hr' := hr.leave hib
  rw [← hx] at hr'
  have hbk : blk (ns.eraseIdx i) = (blk ns).eraseIdx i := map_erase _ ns i
  refine ⟨rfl, ⟨_, _, V, by rw [hbk]; exact hr', ?_, fun x hx => hv x (List.mem_of_mem_eraseIdx hx)⟩, ?_, ho⟩
  · refine hn'.sub fun y hy => ?_
    rcases List.mem_cons.1 hy with rfl | hy
    · simp
    · rw [hbk] at hy; exact List.mem_cons_of_mem _ (List.mem_of_mem_eraseIdx hy)
  · have := hn' _ hxm
    rw [hv _ (List.getElem_mem hi)] at this
    exact ⟨_, _, this⟩
/-- one comes into a ring, behind its end -/
theorem follow_at {w : World} {e : Nat} {ns : N} (h : RingAt w e ns) {x : Nat × Int × Nat} (hx : x.1 ∉ e :: blk ns) (hf : FreeAt w x) :
    Calls Try.prog 34 #[.pointer (some ⟨x.1, 0, none⟩), .pointer (some ⟨e, 0, none⟩)] w fun r w' => r = .returned (.tuple #[]) ∧ RingAt w' e (x :: ns) ∧ Only (fun k => k ∈ x.1 :: e :: blk ns) w w' := by
  obtain ⟨A, B, V, hr, hn, hv⟩ := h
  obtain ⟨a, b, hc⟩ := hf
  have hem : e ∈ e :: blk ns := List.mem_cons_self ..
  refine (follow_any hn hem (hr.mem_b hem) hx (v := x.2) hc).mono ?_
  rintro r w' ⟨rfl, hn', ho⟩
  refine ⟨rfl, ⟨_, _, _, hr.follow hx, hn'.sub fun y hy => ?_, fun y hy => ?_⟩, ho⟩
  · simp only [List.map_cons, List.mem_cons] at hy ⊢
    rcases hy with hy | hy | hy
    · exact .inr (.inl hy)
    · exact .inl hy
    · exact .inr (.inr hy)
  · rcases List.mem_cons.1 hy with rfl | hy
    · exact upd_same _ _ _
    · refine (upd_other _ _ fun q => hx ?_).trans (hv y hy)
      rw [← q]; exact List.mem_cons_of_mem _ (List.mem_map.2 ⟨y, hy, rfl⟩)
end Go.Proofs.Ytmmhfkohfijlaaa
