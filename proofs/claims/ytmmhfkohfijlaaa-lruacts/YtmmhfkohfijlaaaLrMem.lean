/- Where a ring's nodes lie, and the map that tells where each key's node is. -/
import Derived.Test.YtmmhfkohfijlaaaLrMath
import Derived.Test.YtmmhfkohfijlaaaKitMem
namespace Go.Proofs.Ytmmhfkohfijlaaa
open Go.RowKit Go.Maps

namespace Lr
/-- a pointer to a block's head -/
abbrev ptr (b : Nat) : Value := .pointer (some ⟨b, 0, none⟩)
/-- a node's cells -/
def nodeC (a b : Nat) (v : Int × Nat) : Array Value := #[.pointer (some ⟨a, 0, none⟩), .pointer (some ⟨b, 0, none⟩), .int .i64 v.1, .int .i64 (v.2 : Nat)]
/-- the nodes of l: what stands ahead of each (A), behind it (B), its key and how often it is pinned (V) -/
def Nodes (w : World) (l : List Nat) (A B : Nat → Nat) (V : Nat → Int × Nat) : Prop := ∀ x, x ∈ l → w.heap[x]? = some (.cells (nodeC (A x) (B x) (V x)) 59 (0, 0))
variable {w w' : World} {l : List Nat} {A B : Nat → Nat} {V : Nat → Int × Nat}
theorem Nodes.c0 (h : Nodes w l A B V) {x : Nat} (hx : x ∈ l) : w.cell? ⟨x, 0, none⟩ = some (.pointer (some ⟨A x, 0, none⟩)) := by rw [cell_of_row w x 0 _ _ _ (h x hx)]; rfl
theorem Nodes.c1 (h : Nodes w l A B V) {x : Nat} (hx : x ∈ l) : w.cell? ⟨x, 1, none⟩ = some (.pointer (some ⟨B x, 0, none⟩)) := by rw [cell_of_row w x 1 _ _ _ (h x hx)]; rfl
theorem Nodes.c2 (h : Nodes w l A B V) {x : Nat} (hx : x ∈ l) : w.cell? ⟨x, 2, none⟩ = some (.int .i64 (V x).1) := by rw [cell_of_row w x 2 _ _ _ (h x hx)]; rfl
theorem Nodes.c3 (h : Nodes w l A B V) {x : Nat} (hx : x ∈ l) : w.cell? ⟨x, 3, none⟩ = some (.int .i64 ((V x).2 : Nat)) := by rw [cell_of_row w x 3 _ _ _ (h x hx)]; rfl
theorem Nodes.fz (h : Nodes w l A B V) {x : Nat} (hx : x ∈ l) (j : Nat) : w.frozen? ⟨x, j, none⟩ = false := frozen_of_row w x j _ _ (h x hx)
theorem Nodes.lt (h : Nodes w l A B V) {x : Nat} (hx : x ∈ l) : x < w.heap.size := (Array.getElem?_eq_some_iff.1 (h x hx)).1
theorem Nodes.only {F : Nat → Prop} (h : Nodes w l A B V) (g : Only F w w') (hF : ∀ x ∈ l, ¬ F x) : Nodes w' l A B V := fun x hx => (g.block x (h.lt hx) (hF x hx)).trans (h x hx)
theorem Nodes.drew (h : Nodes w l A B V) : Nodes w.drew l A B V := h
theorem Nodes.sub (h : Nodes w l A B V) {r : List Nat} (hr : ∀ x ∈ r, x ∈ l) : Nodes w r A B V := fun x hx => h x (hr x hx)
theorem Nodes.congr (h : Nodes w l A B V) {A' B' : Nat → Nat} {V' : Nat → Int × Nat} (ha : ∀ x ∈ l, A' x = A x) (hb : ∀ x ∈ l, B' x = B x) (hv : ∀ x ∈ l, V' x = V x) : Nodes w l A' B' V' := fun x hx => by rw [ha x hx, hb x hx, hv x hx]; exact h x hx
theorem Nodes.cons (h : Nodes w l A B V) {x : Nat} (hx : w.heap[x]? = some (.cells (nodeC (A x) (B x) (V x)) 59 (0, 0))) : Nodes w (x :: l) A B V := fun y hy => by
  rcases List.mem_cons.1 hy with rfl | hy
  · exact hx
  · exact h y hy
theorem Nodes.setA (h : Nodes w l A B V) {p : Nat} (hp : p ∈ l) (q : Nat) : Nodes (w.setCell ⟨p, 0, none⟩ (.pointer (some ⟨q, 0, none⟩))) l (upd A p q) B V := fun x hx => by
  by_cases e : x = p
  · subst e; rw [upd_same]; exact heap_setCell_same w x 0 _ _ _ (h x hx)
  · rw [upd_other _ _ e, heap_setCell_other w ⟨p, 0, none⟩ x _ e]; exact h x hx
theorem Nodes.setB (h : Nodes w l A B V) {p : Nat} (hp : p ∈ l) (q : Nat) : Nodes (w.setCell ⟨p, 1, none⟩ (.pointer (some ⟨q, 0, none⟩))) l A (upd B p q) V := fun x hx => by
  by_cases e : x = p
  · subst e; rw [upd_same]; exact heap_setCell_same w x 1 _ _ _ (h x hx)
  · rw [upd_other _ _ e, heap_setCell_other w ⟨p, 1, none⟩ x _ e]; exact h x hx
theorem Nodes.setP (h : Nodes w l A B V) {p : Nat} (hp : p ∈ l) (n : Nat) : Nodes (w.setCell ⟨p, 3, none⟩ (.int .i64 (n : Nat))) l A B (upd V p ((V p).1, n)) := fun x hx => by
  by_cases e : x = p
  · subst e; rw [upd_same]; exact heap_setCell_same w x 3 _ _ _ (h x hx)
  · rw [upd_other _ _ e, heap_setCell_other w ⟨p, 3, none⟩ x _ e]; exact h x hx

/-! ### the map -/
/-- A pointer, as the map's reading has it. -/
def hdrP : Value → Option (DataW Unit × List MemPlace)
  | .pointer none => some (.nil, [])
  | .pointer (some ⟨g, 0, none⟩) => some (.lit (.int .i64 g), [])
  | _ => none
theorem hdrP_nil : hdrP (.pointer none) = some (.nil, []) := rfl
theorem hdrP_some (g : Nat) : hdrP (.pointer (some ⟨g, 0, none⟩)) = some (.lit (.int .i64 g), []) := rfl
theorem hdrP_nil_inv {v : Value} {ps : List MemPlace} (h : hdrP v = some (.nil, ps)) : v = .pointer none := by
  unfold hdrP at h
  split at h
  · rfl
  · cases h
  · cases h
theorem hdrP_some_inv {v : Value} {g : Nat} {ps : List MemPlace} (h : hdrP v = some (.lit (.int .i64 g), ps)) : v = .pointer (some ⟨g, 0, none⟩) := by
  unfold hdrP at h
  split at h
  · cases h
  · simp only [Option.some.injEq, Prod.mk.injEq, DataW.lit.injEq, Lit.int.injEq, Int.natCast_inj, true_and] at h
    rw [h.1]
  · cases h
/-- a key that may be one -/
def Ok (k : Int) : Prop := -9223372036854775808 ≤ k ∧ k ≤ 9223372036854775807
def keyI (k : Int) : Lit := .int .i64 k
theorem keyI_inj {i j : Int} (h : keyI i = keyI j) : i = j := by unfold keyI at h; injection h
theorem keyOf_k {k : Int} (h : Ok k) : keyOf Try.prog 3 (.int .i64 k) = some (keyI k) := keyOf_int_mk Try.underlying3 (WalkArith.wf_i64 ⟨h.1, h.2⟩)
theorem isKeyI {k : Int} (h : Ok k) : WideAt.IsKeyLit (keyI k) := (int_keyed Try.underlying3).key (keyOf_k h)

/-- block mb is a map of n keys; g tells the node of each -/
def MapP (w : World) (mb n : Nat) (g : Int → Option Nat) : Prop :=
  ∃ D : DataW Unit, w.ownsMap Try.prog 3 hdrP mb n D ∧ Maps.size D = n ∧ ∀ k, Ok k → Maps.has D (keyI k) = (g k).isSome ∧ ∀ b, g k = some b → D.atKey (keyI k) .nil = .lit (.int .i64 b)
variable {mb n : Nat} {g : Int → Option Nat}
theorem MapP.lt (h : MapP w mb n g) : mb < w.heap.size := by obtain ⟨_, h, _⟩ := h; exact h.lt
theorem MapP.only {F : Nat → Prop} (h : MapP w mb n g) (o : Only F w w') (hF : ¬ F mb) : MapP w' mb n g := by
  obtain ⟨D, ho, hs, hd⟩ := h
  have hlt := ho.lt
  obtain ⟨es, cl, hb, rest⟩ := ho
  exact ⟨D, ⟨es, cl, (o.block mb hlt hF).trans hb, rest⟩, hs, hd⟩
theorem MapP.congr (h : MapP w mb n g) {g' : Int → Option Nat} (e : ∀ k, Ok k → g' k = g k) : MapP w mb n g' := by
  obtain ⟨D, ho, hs, hd⟩ := h
  exact ⟨D, ho, hs, fun k hk => by rw [e k hk]; exact hd k hk⟩
theorem MapP.made (w : World) : MapP (w.alloc (.map #[] 0)) w.heap.size 0 (fun _ => none) :=
  ⟨.map [], World.ownsMap_made w _ _ _, rfl, fun _ _ => ⟨rfl, fun _ h => by cases h⟩⟩
/-- 'n, is := m[k]' -/
theorem MapP.look_yes (h : MapP w mb n g) {k : Int} (hk : Ok k) {b : Nat} (hb : g k = some b) :
    (Instr.lookup 52 (.map (some mb)) (.int .i64 k) true).run Try.prog w = .ok (.tuple #[.pointer (some ⟨b, 0, none⟩), .bool true]) w := by
  obtain ⟨D, ho, _, hd⟩ := h
  obtain ⟨v, ps, hrun, hv⟩ := ho.look_ok (int_keyed Try.underlying3) Try.underlying52 (z := .pointer none) (by kernel_rfl) hdrP_nil (keyOf_k hk)
  rw [(hd k hk).2 b hb] at hv
  rw [hrun, hdrP_some_inv hv, (hd k hk).1, hb]; rfl
theorem MapP.look_no (h : MapP w mb n g) {k : Int} (hk : Ok k) (hb : g k = none) :
    (Instr.lookup 52 (.map (some mb)) (.int .i64 k) true).run Try.prog w = .ok (.tuple #[.pointer none, .bool false]) w := by
  obtain ⟨D, ho, _, hd⟩ := h
  obtain ⟨v, ps, hrun, hv⟩ := ho.look_ok (int_keyed Try.underlying3) Try.underlying52 (z := .pointer none) (by kernel_rfl) hdrP_nil (keyOf_k hk)
  have hh : Maps.has D (keyI k) = false := by rw [(hd k hk).1, hb]; rfl
  rw [atKey_of_not_has hh] at hv
  rw [hrun, hdrP_nil_inv hv, hh]
/-- 'len(m)' -/
theorem MapP.len (h : MapP w mb n g) (ty : TypeId) : (Builtin.len_ #[52] ty #[.map (some mb)]).run Try.prog w = .ok (.int .i64 (n : Nat)) w := by
  obtain ⟨D, ho, hs, _⟩ := h
  rw [ho.len Try.underlying52 ty, hs]
theorem owns_just {m : Nat} {D : DataW Unit} (h : w.ownsMap Try.prog 3 hdrP mb m D) (hs : Maps.size D = n) : w.ownsMap Try.prog 3 hdrP mb n D := by
  obtain ⟨es, cl, hb, F, _, rfl⟩ := h
  refine ⟨es, cl, hb, F, ?_, rfl⟩
  rw [← hs, Maps.size_eq, length_sorted]; simp
/-- 'm[k] = n' -/
theorem MapP.put_of {k : Int} (hk : Ok k) (hn : g k = none) {b m : Nat} {D : DataW Unit} (hD : w.ownsMap Try.prog 3 hdrP mb n D ∧ Maps.size D = n ∧ ∀ k, Ok k → Maps.has D (keyI k) = (g k).isSome ∧ ∀ b, g k = some b → D.atKey (keyI k) .nil = .lit (.int .i64 b))
    (ho : w'.ownsMap Try.prog 3 hdrP mb m (D.put (keyI k) (.lit (.int .i64 b)))) : MapP w' mb (n + 1) (fun j => if j = k then some b else g j) := by
  obtain ⟨h1, h2, h3⟩ := hD
  have hm := h1.isMap
  have hs : Maps.size (D.put (keyI k) (.lit (.int .i64 b))) = n + 1 := by
    rw [size_put (h1.tidy (int_keyed Try.underlying3)), (h3 k hk).1, hn, h2]; rfl
  refine ⟨_, owns_just ho hs, hs, fun j hj => ?_⟩
  · by_cases e : j = k
    · subst e
      simp only [if_pos]
      exact ⟨by rw [has_put_same hm (isKeyI hk)]; rfl, fun c hc => by cases hc; exact atKey_put_same hm (isKeyI hk) _ _⟩
    · simp only [if_neg e]
      rw [has_put_other (fun x => e (keyI_inj x)), atKey_put_other (fun x => e (keyI_inj x))]
      exact h3 j hj
/-- 'delete(m, k)' -/
theorem MapP.del_of {k : Int} (hk : Ok k) {b : Nat} (hn : g k = some b) {m : Nat} {D : DataW Unit} (hD : w.ownsMap Try.prog 3 hdrP mb n D ∧ Maps.size D = n ∧ ∀ k, Ok k → Maps.has D (keyI k) = (g k).isSome ∧ ∀ b, g k = some b → D.atKey (keyI k) .nil = .lit (.int .i64 b))
    (ho : w'.ownsMap Try.prog 3 hdrP mb m (D.del (keyI k))) : MapP w' mb (n - 1) (fun j => if j = k then none else g j) := by
  obtain ⟨h1, h2, h3⟩ := hD
  have hs : Maps.size (D.del (keyI k)) = n - 1 := by
    have := size_del (k := keyI k) (h1.tidy (int_keyed Try.underlying3))
    rw [(h3 k hk).1, hn, h2] at this
    simp at this; omega
  refine ⟨_, owns_just ho hs, hs, fun j hj => ?_⟩
  · by_cases e : j = k
    · subst e
      simp only [if_pos]
      exact ⟨by rw [has_del_same]; rfl, fun c hc => by cases hc⟩
    · simp only [if_neg e]
      rw [has_del_other (fun x => e (keyI_inj x)), atKey_del_other (fun x => e (keyI_inj x))]
      exact h3 j hj
variable {ops : Array Oper} {rest : List Oper} {o : Oper} {a : Act} {Q : Exit → Act → World → Prop}
/-- .. at the operation -/
theorem wpList_putP (hg : o.guard = none) (m x v : Operand) (hop : o.op = Op.mapUpdate 52 m x v) (hm : a.eval m = .map (some mb)) (h : MapP w mb n g) (hn : n < maxLen)
    {k : Int} (hk : Ok k) (hno : g k = none) {b : Nat} (hx : a.eval x = .int .i64 k) (hv : a.eval v = .pointer (some ⟨b, 0, none⟩))
    (hK : ∀ w', MapP w' mb (n + 1) (fun j => if j = k then some b else g j) → Only (fun i => i = mb) w w' → wpList Try.prog ops Q rest (a.put o.dst undef) w') : wpList Try.prog ops Q (o :: rest) a w := by
  obtain ⟨D, hD⟩ := h
  refine wpList_mapUpdate_own w hg m x v _ hop 3 48 (int_keyed Try.underlying3) Try.underlying52 hdrP mb n D hm hD.1 hn (.int .i64 k) (.pointer (some ⟨b, 0, none⟩)) (keyI k) hx hv (keyOf_k hk) (.lit (.int .i64 b)) [] (hdrP_some b) ?_
  intro w' ho hgr
  exact hK w' (MapP.put_of hk hno hD ho) (Only.of_grown hgr _ (fun k hk => by injection hk with e; exact e.symm))
theorem wpList_delP (hg : o.guard = none) (m x : Operand) (hop : o.op = Op.call { callee := Callee.builtin Builtin.delete, args := #[m, x], argTypes := #[52, 3] }) (hm : a.eval m = .map (some mb)) (h : MapP w mb n g)
    {k : Int} (hk : Ok k) {b : Nat} (hb : g k = some b) (hx : a.eval x = .int .i64 k)
    (hK : ∀ w', MapP w' mb (n - 1) (fun j => if j = k then none else g j) → Only (fun i => i = mb) w w' → wpList Try.prog ops Q rest (a.put o.dst (.tuple #[])) w') : wpList Try.prog ops Q (o :: rest) a w := by
  obtain ⟨D, hD⟩ := h
  refine wpList_delete_own w hg m x _ _ hop 48 (int_keyed Try.underlying3) Try.underlying52 hdrP mb n D hm hD.1 (.int .i64 k) (keyI k) hx (keyOf_k hk) ?_
  intro w' ho hgr
  exact hK w' (MapP.del_of hk hb hD ho) (Only.of_grown hgr.grown _ (fun k hk => by injection hk with e; exact e.symm))
end Lr
end Go.Proofs.Ytmmhfkohfijlaaa
