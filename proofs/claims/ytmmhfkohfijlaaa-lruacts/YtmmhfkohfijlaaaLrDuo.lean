/- The program's list and the document's in one memory, apart from each other: what is done with one leaves the other. -/
import Derived.Test.YtmmhfkohfijlaaaLfPut
namespace Go.Proofs.Ytmmhfkohfijlaaa
open Go.RowKit Lr

namespace Lr
/-- both lists, within the blocks of which D holds: the program's has the keys l, the document's r -/
def Duo (w : World) (D : Nat → Prop) (p rp room : Nat) (l r : L) : Prop := ∃ F G : Nat → Prop, LruAt w p room l F ∧ RefAt w rp room r G ∧ (∀ k, F k → D k ∧ k < w.heap.size) ∧ (∀ k, G k → D k ∧ k < w.heap.size) ∧ ∀ k, F k → ¬ G k
variable {w w' : World} {D : Nat → Prop} {p rp room : Nat} {l r : L}
theorem Duo.below (h : Duo w D p rp room l r) (hb : Below w.heap.size w w') : Duo w' D p rp room l r := by
  obtain ⟨F, G, h1, h2, h3, h4, h5⟩ := h
  exact ⟨F, G, h1.below hb, h2.below hb, fun k hk => ⟨(h3 k hk).1, Nat.lt_of_lt_of_le (h3 k hk).2 hb.size⟩, fun k hk => ⟨(h4 k hk).1, Nat.lt_of_lt_of_le (h4 k hk).2 hb.size⟩, h5⟩
theorem Duo.mono (h : Duo w D p rp room l r) {E : Nat → Prop} (hs : ∀ k, D k → k < w.heap.size → E k) : Duo w E p rp room l r := by
  obtain ⟨F, G, h1, h2, h3, h4, h5⟩ := h
  exact ⟨F, G, h1, h2, fun k hk => ⟨hs k (h3 k hk).1 (h3 k hk).2, (h3 k hk).2⟩, fun k hk => ⟨hs k (h4 k hk).1 (h4 k hk).2, (h4 k hk).2⟩, h5⟩
theorem Duo.ok (h : Duo w D p rp room l r) : LOk room l := by obtain ⟨_, _, h1, _⟩ := h; exact h1.ok
/-- the program's is called -/
theorem Duo.prog {P : Program} {f : FuncId} {args : Array Value} (h : Duo w D p rp room l r) {l' : L} {Q : Ending → Prop}
    (c : ∀ F : Nat → Prop, LruAt w p room l F → Calls P f args w fun e w' => Q e ∧ LruAt w' p room l' (Plus F w.heap.size) ∧ Only F w w') :
    Calls P f args w fun e w' => Q e ∧ Duo w' (Plus D w.heap.size) p rp room l' r ∧ Only D w w' := by
  obtain ⟨F, G, h1, h2, h3, h4, h5⟩ := h
  refine (c F h1).mono fun e w' ⟨q, hl, ho⟩ => ⟨q, ⟨_, G, hl.tight, h2.only ho (fun k _ hg hf => h5 k hf hg), fun k hk => ⟨hk.1.imp (fun h => (h3 k h).1) id, hk.2⟩, fun k hk => ⟨.inl (h4 k hk).1, Nat.lt_of_lt_of_le (h4 k hk).2 ho.size⟩, fun k hk hg => ?_⟩, ho.mono fun k hk => (h3 k hk).1⟩
  rcases hk with ⟨hk | hk, _⟩
  · exact h5 k hk hg
  · have := (h4 k hg).2; omega
/-- the document's is called -/
theorem Duo.doc {P : Program} {f : FuncId} {args : Array Value} (h : Duo w D p rp room l r) {r' : L} {Q : Ending → Prop}
    (c : ∀ G : Nat → Prop, RefAt w rp room r G → Calls P f args w fun e w' => Q e ∧ RefAt w' rp room r' (Plus G w.heap.size) ∧ Only G w w') :
    Calls P f args w fun e w' => Q e ∧ Duo w' (Plus D w.heap.size) p rp room l r' ∧ Only D w w' := by
  obtain ⟨F, G, h1, h2, h3, h4, h5⟩ := h
  refine (c G h2).mono fun e w' ⟨q, hl, ho⟩ => ⟨q, ⟨F, _, h1.only ho (fun k _ hf hg => h5 k hf hg), hl.tight, fun k hk => ⟨.inl (h3 k hk).1, Nat.lt_of_lt_of_le (h3 k hk).2 ho.size⟩, fun k hk => ⟨hk.1.imp (fun h => (h4 k h).1) id, hk.2⟩, fun k hf hk => ?_⟩, ho.mono fun k hk => (h4 k hk).1⟩
  rcases hk with ⟨hk | hk, _⟩
  · exact h5 k hf hk
  · have := (h3 k hf).2; omega
theorem Duo.looks (h : Duo w D p rp room l r) : (∃ F, LruAt w p room l F) ∧ ∃ G, RefAt w rp room r G := by obtain ⟨F, G, h1, h2, _⟩ := h; exact ⟨⟨F, h1⟩, ⟨G, h2⟩⟩
theorem Duo.len (h : Duo w D p rp room l r) : l.length ≤ 1000 := by have h1 := h.ok.full; have h2 := h.ok.room64; omega
/-- no one is pinned more often -/
def Most (l : L) (m : Nat) : Prop := ∀ x ∈ l, x.2 ≤ m
theorem Most.le {m : Nat} (h : Most l m) (k : Int) : pins l k ≤ m := by
  by_cases hy : idx l k < l.length
  · unfold pins; rw [getD_at' hy]; exact h _ (List.getElem_mem _)
  · rw [pins_out hy]; exact Nat.zero_le _
theorem Most.more {m n : Nat} (h : Most l m) (hn : m ≤ n) : Most l n := fun x hx => Nat.le_trans (h x hx) hn
theorem Most.erase {m : Nat} (h : Most l m) (i : Nat) : Most (l.eraseIdx i) m := fun x hx => h x (List.mem_of_mem_eraseIdx hx)
theorem Most.front {m : Nat} (h : Most l m) {i : Nat} (hi : i < l.length) : Most (front l i) m := fun x hx => by
  unfold Lr.front at hx
  rw [getD_at' hi] at hx
  exact h x ((erase_perm hi).mem_iff.1 hx)
theorem Most.pinTo {m : Nat} (h : Most l m) (i n : Nat) (hn : n ≤ m) : Most (pinTo l i n) m := fun x hx => by
  unfold Lr.pinTo at hx
  rcases List.mem_or_eq_of_mem_set hx with hx | rfl
  · exact h x hx
  · exact hn
/-- what an act makes of a list -/
def actL (l : L) (kind key : Int) (room : Nat) : L := if kind = 0 then put room l key else if kind = 1 then Lr.get l key else if kind = 2 then pin l key else if kind = 3 then unpin l key else if kind = 4 then drop l key else l
theorem Most.act {m : Nat} (h : Most l m) (kind key : Int) (room : Nat) : Most (actL l kind key room) (m + 1) := by
  have h1 := h.more (Nat.le_succ m)
  unfold actL
  split
  · unfold put
    split
    · exact h1.front (by assumption)
    · split
      · exact fun x hx => by rcases List.mem_cons.1 hx with rfl | hx; exact Nat.zero_le _; exact h1 x hx
      · split
        · exact fun x hx => by rcases List.mem_cons.1 hx with rfl | hx; exact Nat.zero_le _; exact h1.erase _ x hx
        · exact h1
  · split
    · unfold Lr.get
      split
      · exact h1.front (by assumption)
      · exact h1
    · split
      · unfold pin
        split
        · exact h1.pinTo _ _ (Nat.succ_le_succ (h.le key))
        · exact h1
      · split
        · unfold unpin
          split
          · split
            · exact h1
            · exact h1.pinTo _ _ (by have := h1.le key; omega)
          · exact h1
        · split
          · unfold drop
            split
            · split
              · exact h1.erase _
              · exact h1
            · exact h1
          · exact h1
end Lr
end Go.Proofs.Ytmmhfkohfijlaaa
