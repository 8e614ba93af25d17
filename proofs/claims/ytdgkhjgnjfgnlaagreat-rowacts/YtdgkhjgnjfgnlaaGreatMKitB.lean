import Derived.Test.YtdgkhjgnjfgnlaaGreatMKitA
namespace Go.Proofs.YtdgkhjgnjfgnlaaGreat
open Go.RowKit
structure Thing where
 is : World → (Nat → Prop) → Prop
 only : ∀ {w w' : World} {F G : Nat → Prop}, is w F → Only G w w' → (∀ k, k < w.heap.size → F k → ¬ G k) → is w' F
 mono : ∀ {w : World} {F G : Nat → Prop}, is w F → (∀ k, F k → G k) → is w G
 tight : ∀ {w : World} {F : Nat → Prop}, is w F → is w (fun k => F k ∧ k < w.heap.size)
theorem Thing.below (T : Thing) {w w' : World} {F : Nat → Prop} (h : T.is w F) (hb : Below w.heap.size w w') : T.is w' F := T.only h (Only.of_below hb (fun _ => False)) (fun _ _ _ hf => hf)
def Thing.none : Thing := ⟨fun _ _ => True, fun _ _ _ => trivial, fun _ _ => trivial, fun _ => trivial⟩
def swap1 {α : Type} (f : Nat → α) (i : Nat) (x : α) : Nat → α := fun j => if j = i then x else f j
theorem swap1_same {α : Type} (f : Nat → α) (i : Nat) (x : α) : swap1 f i x i = x := if_pos rfl
theorem swap1_other {α : Type} (f : Nat → α) {i j : Nat} (x : α) (h : j ≠ i) : swap1 f i x j = f j := if_neg h
def Many (w : World) (B m : Nat) (T : Nat → Thing) : Prop :=
 ∃ F : Nat → Nat → Prop, (∀ i, i < m → (T i).is w (F i)) ∧ (∀ i, i < m → ∀ k, F i k → B ≤ k ∧ k < w.heap.size) ∧ (∀ i j, i < m → j < m → i ≠ j → ∀ k, F i k → ¬ F j k) ∧ B ≤ w.heap.size
theorem Many.nil (w : World) {B : Nat} (hB : B ≤ w.heap.size) (T : Nat → Thing) : Many w B 0 T := ⟨fun _ _ => False, fun _ h => absurd h (Nat.not_lt_zero _), fun _ h => absurd h (Nat.not_lt_zero _), fun _ _ h => absurd h (Nat.not_lt_zero _), hB⟩
theorem Many.size {w : World} {B m : Nat} {T : Nat → Thing} (h : Many w B m T) : B ≤ w.heap.size := by obtain ⟨_, _, _, _, h⟩ := h; exact h
theorem Many.below {w w' : World} {B m : Nat} {T : Nat → Thing} (h : Many w B m T) (hb : Below w.heap.size w w') : Many w' B m T := by
 obtain ⟨F, h1, h2, h3, h4⟩ := h
 exact ⟨F, fun i hi => (T i).below (h1 i hi) hb, fun i hi k hk => ⟨(h2 i hi k hk).1, Nat.lt_of_lt_of_le (h2 i hi k hk).2 hb.size⟩, h3, Nat.le_trans h4 hb.size⟩
theorem Many.only {w w' : World} {B m : Nat} {T : Nat → Thing} {G : Nat → Prop} (h : Many w B m T) (hg : Only G w w') (hG : ∀ k, G k → k < B ∨ w.heap.size ≤ k) : Many w' B m T := by
 obtain ⟨F, h1, h2, h3, h4⟩ := h
 exact ⟨F, fun i hi => (T i).only (h1 i hi) hg (fun k _ hf hk => by have := h2 i hi k hf; have := hG k hk; omega), fun i hi k hk => ⟨(h2 i hi k hk).1, Nat.lt_of_lt_of_le (h2 i hi k hk).2 hg.size⟩, h3, Nat.le_trans h4 hg.size⟩
theorem Many.congr {w : World} {B m : Nat} {T U : Nat → Thing} (h : Many w B m T) (e : ∀ i, i < m → T i = U i) : Many w B m U := by
 obtain ⟨F, h1, h2⟩ := h
 exact ⟨F, fun i hi => e i hi ▸ h1 i hi, h2⟩
theorem Many.less {w : World} {B m n : Nat} {T : Nat → Thing} (h : Many w B m T) (hn : n ≤ m) : Many w B n T := by
 obtain ⟨F, h1, h2, h3, h4⟩ := h
 exact ⟨F, fun i hi => h1 i (by omega), fun i hi => h2 i (by omega), fun i j hi hj => h3 i j (by omega) (by omega), h4⟩
theorem Many.turned {w w' : World} {B m : Nat} {T : Nat → Thing} {F : Nat → Nat → Prop} {i : Nat} (hi : i < m) {T' : Thing} (h1 : ∀ j, j < m → (T j).is w (F j)) (h2 : ∀ j, j < m → ∀ k, F j k → B ≤ k ∧ k < w.heap.size)
  (h3 : ∀ j l, j < m → l < m → j ≠ l → ∀ k, F j k → ¬ F l k) (h4 : B ≤ w.heap.size) (ht : T'.is w' (Plus (F i) w.heap.size)) (ho : Only (F i) w w') : Many w' B m (swap1 T i T') ∧ Only (fun k => B ≤ k ∧ k < w.heap.size) w w' := by
 refine ⟨⟨swap1 F i (fun k => Plus (F i) w.heap.size k ∧ k < w'.heap.size), fun j hj => ?_, fun j hj k hk => ?_, fun j l hj hl hne k hk hl' => ?_, Nat.le_trans h4 ho.size⟩, ho.mono (h2 i hi)⟩
 ·by_cases e : j = i
  ·subst e; rw [swap1_same, swap1_same]; exact T'.tight ht
  ·rw [swap1_other _ _ e, swap1_other _ _ e]; exact (T j).only (h1 j hj) ho (fun k _ hf hg => h3 j i hj hi e k hf hg)
 ·by_cases e : j = i
  ·subst e; rw [swap1_same] at hk
   rcases hk with ⟨hk1 | hk1, hk2⟩
   ·exact ⟨(h2 j hj k hk1).1, hk2⟩
   ·exact ⟨by omega, hk2⟩
  ·rw [swap1_other _ _ e] at hk
   exact ⟨(h2 j hj k hk).1, Nat.lt_of_lt_of_le (h2 j hj k hk).2 ho.size⟩
 ·by_cases e : j = i
  ·subst e
   rw [swap1_same] at hk
   rw [swap1_other _ _ (Ne.symm hne)] at hl'
   rcases hk with ⟨hk1 | hk1, _⟩
   ·exact h3 j l hj hl hne k hk1 hl'
   ·have := (h2 l hl k hl').2; omega
  ·rw [swap1_other _ _ e] at hk
   by_cases e2 : l = i
   ·subst e2
    rw [swap1_same] at hl'
    rcases hl' with ⟨hl1 | hl1, _⟩
    ·exact h3 j l hj hl hne k hk hl1
    ·have := (h2 j hj k hk).2; omega
   ·rw [swap1_other _ _ e2] at hl'
    exact h3 j l hj hl hne k hk hl'
theorem Many.call {P : Program} {f : FuncId} {args : Array Value} {w : World} {B m : Nat} {T : Nat → Thing} (h : Many w B m T) {i : Nat} (hi : i < m) (T' : Thing) {Q : Ending → Prop}
  (hc : ∀ F, (T i).is w F → (∀ k, F k → B ≤ k ∧ k < w.heap.size) → Calls P f args w fun e w' => Q e ∧ T'.is w' (Plus F w.heap.size) ∧ Only F w w') :
  Calls P f args w fun e w' => Q e ∧ Many w' B m (swap1 T i T') ∧ Only (fun k => B ≤ k ∧ k < w.heap.size) w w' := by
 obtain ⟨F, h1, h2, h3, h4⟩ := h
 exact (hc (F i) (h1 i hi) (h2 i hi)).mono fun e w' ⟨q, ht, ho⟩ => ⟨q, Many.turned hi h1 h2 h3 h4 ht ho⟩
theorem Many.look {w : World} {B m : Nat} {T : Nat → Thing} (h : Many w B m T) {i : Nat} (hi : i < m) : ∃ F, (T i).is w F ∧ ∀ k, F k → B ≤ k ∧ k < w.heap.size := by
 obtain ⟨F, h1, h2, _⟩ := h
 exact ⟨F i, h1 i hi, h2 i hi⟩
theorem Many.add {w w' : World} {B m : Nat} {T : Nat → Thing} (h : Many w B m T) {T' : Thing} {G : Nat → Prop} (hb : Below w.heap.size w w') (ht : T'.is w' G) (hG : ∀ k, G k → w.heap.size ≤ k) : Many w' B (m + 1) (swap1 T m T') := by
 obtain ⟨F, h1, h2, h3, h4⟩ := h
 refine ⟨swap1 F m (fun k => G k ∧ k < w'.heap.size), fun j hj => ?_, fun j hj k hk => ?_, fun j l hj hl hne k hk hl' => ?_, Nat.le_trans h4 hb.size⟩
 ·by_cases e : j = m
  ·subst e; rw [swap1_same, swap1_same]; exact T'.tight ht
  ·rw [swap1_other _ _ e, swap1_other _ _ e]; exact (T j).below (h1 j (by omega)) hb
 ·by_cases e : j = m
  ·subst e; rw [swap1_same] at hk; exact ⟨Nat.le_trans h4 (hG k hk.1), hk.2⟩
  ·rw [swap1_other _ _ e] at hk; exact ⟨(h2 j (by omega) k hk).1, Nat.lt_of_lt_of_le (h2 j (by omega) k hk).2 hb.size⟩
 ·by_cases e : j = m
  ·subst e
   rw [swap1_same] at hk; rw [swap1_other _ _ (Ne.symm hne)] at hl'
   have := (h2 l (by omega) k hl').2; have := hG k hk.1; omega
  ·rw [swap1_other _ _ e] at hk
   by_cases e2 : l = m
   ·subst e2
    rw [swap1_same] at hl'
    have := (h2 j (by omega) k hk).2; have := hG k hl'.1; omega
   ·rw [swap1_other _ _ e2] at hl'
    exact h3 j l (by omega) (by omega) hne k hk hl'
end Go.Proofs.YtdgkhjgnjfgnlaaGreat
namespace Go.Proofs.YtdgkhjgnjfgnlaaGreat
open Go.RowKit
theorem own_only {w w' : World} {G : Nat → Prop} (hg : Only G w w') {b t s n : Nat} {v : Value} {l : List Value} (h : w.ownsRow b t s v n l) (hn : ∀ k, k < w.heap.size → v.ownBlock = some k → ¬ G k) : w'.ownsRow b t s v n l := by
 refine ⟨h.1, ?_⟩
 rcases h.2 with h0 | ⟨g, cap, cur, rfl, h1, h2, rest⟩
 ·exact .inl h0
 ·have hlt := (Array.getElem?_eq_some_iff.1 h2).1
  exact .inr ⟨g, cap, cur, rfl, h1, (hg.block g hlt (hn g hlt rfl)).trans h2, rest⟩
theorem own_lt {w : World} {b t s n g : Nat} {v : Value} {l : List Value} (h : w.ownsRow b t s v n l) (hg : v.ownBlock = some g) : g < w.heap.size := by
 rcases h.2 with ⟨rfl, _⟩ | ⟨g', cap, cur, rfl, _, h2, _⟩
 ·cases hg
 ·cases hg; exact (Array.getElem?_eq_some_iff.1 h2).1
def rowT (t : TypeId) (v : Value) (l : List Value) : Thing :=
 ⟨fun w F => w.ownsRow 0 t 1 v l.length l ∧ ∀ g, v.ownBlock = some g → F g,
  fun h hg hn => ⟨own_only hg h.1 (fun k hk e => hn k hk (h.2 k e)), h.2⟩,
  fun h hs => ⟨h.1, fun g e => hs g (h.2 g e)⟩,
  fun h => ⟨h.1, fun g e => ⟨h.2 g e, own_lt h.1 e⟩⟩⟩
theorem rowT_at {w : World} {t : TypeId} {v : Value} {l : List Value} {F : Nat → Prop} (h : (rowT t v l).is w F) {j : Nat} {u : Value} (hj : l[j]? = some u) : ∃ g cap, v = .slice (some ⟨g, 0, none⟩) l.length cap ∧ w.cell? ⟨g, j, none⟩ = some u := by
 obtain ⟨h1, h2⟩ := h
 have hlt : j < l.length := (List.getElem?_eq_some_iff.1 hj).1
 rcases h1.2 with ⟨rfl, h0⟩ | ⟨g, cap, cur, rfl, hb, hg, r1, r2, r3, r4⟩
 ·omega
 ·refine ⟨g, cap, rfl, ?_⟩
  have hc := h1.cells (g := g) rfl j u hj
  have hadd : (⟨g, 0, none⟩ : Addr).add j = ⟨g, 0 + j, none⟩ := by unfold Addr.add; split <;> simp_all
  rw [hadd, Nat.zero_add] at hc
  exact hc
theorem rowT_head {w : World} {t : TypeId} {v : Value} {l : List Value} {F : Nat → Prop} (h : (rowT t v l).is w F) : ∃ a cap, v = .slice a l.length cap := by
 rcases h.1.2 with ⟨rfl, h0⟩ | ⟨g, cap, cur, rfl, _⟩
 ·exact ⟨none, 0, by rw [h0]⟩
 ·exact ⟨_, _, rfl⟩
def blkT (b : Nat) (t : TypeId) (cs : Array Value) : Thing :=
 ⟨fun w F => w.heap[b]? = some (.cells cs t (0, 0)) ∧ F b,
  fun h hg hn => ⟨(hg.block b (Array.getElem?_eq_some_iff.1 h.1).1 (hn b (Array.getElem?_eq_some_iff.1 h.1).1 h.2)).trans h.1, h.2⟩,
  fun h hs => ⟨h.1, hs b h.2⟩, fun h => ⟨h.1, h.2, (Array.getElem?_eq_some_iff.1 h.1).1⟩⟩
theorem blk_cell {w : World} {b : Nat} {t : TypeId} {cs : Array Value} {F : Nat → Prop} (h : (blkT b t cs).is w F) (j : Nat) : w.cell? ⟨b, j, none⟩ = cs[j]? := cell_of_row w b j cs t (0, 0) h.1
theorem blk_new (w : World) (t : TypeId) (cs : Array Value) : (blkT w.heap.size t cs).is (w.alloc (.cells cs t)) (fun k => w.heap.size ≤ k) := ⟨heap_alloc_new w _, Nat.le_refl _⟩
def spread (T : Nat → Thing) (o n : Nat) (f : Nat → Thing) : Nat → Thing := fun k => if o ≤ k ∧ k < o + n then f (k - o) else T k
theorem spread_in (T : Nat → Thing) (o n : Nat) (f : Nat → Thing) {i : Nat} (hi : i < n) : spread T o n f (o + i) = f i := by
 unfold spread; rw [if_pos ⟨by omega, by omega⟩, Nat.add_sub_cancel_left]
theorem spread_out (T : Nat → Thing) (o n : Nat) (f : Nat → Thing) {k : Nat} (hk : k < o ∨ o + n ≤ k) : spread T o n f k = T k := by
 unfold spread; rw [if_neg (by omega)]
theorem spread_same {T : Nat → Thing} {o n : Nat} {f : Nat → Thing} (h : ∀ i, i < n → T (o + i) = f i) (k : Nat) : spread T o n f k = T k := by
 unfold spread
 split
 ·rename_i hk
  rw [← h (k - o) (by omega), Nat.add_sub_cancel' hk.1]
 ·rfl
theorem spread_put (T : Nat → Thing) (o n : Nat) (f : Nat → Thing) {i : Nat} (hi : i < n) (x : Thing) (k : Nat) : swap1 (spread T o n f) (o + i) x k = spread T o n (swap1 f i x) k := by
 unfold spread swap1
 by_cases e : k = o + i
 ·subst e
  rw [if_pos rfl, if_pos ⟨by omega, by omega⟩, if_pos (by omega)]
 ·rw [if_neg e]
  show (if o ≤ k ∧ k < o + n then f (k - o) else T k) = (if o ≤ k ∧ k < o + n then (if k - o = i then x else f (k - o)) else T k)
  split
  ·rw [if_neg (by omega)]
  ·rfl
end Go.Proofs.YtdgkhjgnjfgnlaaGreat
