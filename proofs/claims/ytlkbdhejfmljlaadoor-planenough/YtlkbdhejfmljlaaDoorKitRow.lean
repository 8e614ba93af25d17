/- Rows of integers that a walk reads: what came in, what a call of one's own has made. -/
import Derived.Test.YtlkbdhejfmljlaaDoorKit
import Derived.Laws.AppendOwn
namespace Go.Proofs.YtlkbdhejfmljlaaDoor
open Go.RowKit

/-- A slice of integers that came in: it is nil, or it leads to a row of 'cap' cells, the numbers 'zs' (the first 'len' are its elements), each fitting its kind. -/
def IsRow (k : IntKind) (w : World) (a : Option Addr) (len cap : Nat) (zs : List Int) : Prop :=
  (a = none ∧ len = 0 ∧ cap = 0 ∧ zs = []) ∨
  ∃ x, a = some x ∧ len ≤ cap ∧ cap ≤ maxLen ∧ zs.length = cap ∧ (∀ i, i < zs.length → w.cell? (x.add i) = some (.int k (zs.getD i 0))) ∧ ∀ n ∈ zs, (Lit.int k n).wf = true
/-- The slice's elements, all that a reader asks of it. -/
def RowI (k : IntKind) (w : World) (a : Option Addr) (n : Nat) (f : Nat → Int) : Prop :=
  ∀ j, j < n → ∃ b off, a = some ⟨b, off, none⟩ ∧ w.cell? ⟨b, off + j, none⟩ = some (.int k (f j))
theorem RowI.nil (k : IntKind) (w : World) (a : Option Addr) (f : Nat → Int) : RowI k w a 0 f := fun _ h => absurd h (Nat.not_lt_zero _)
theorem RowI.mono {k : IntKind} {w : World} {a : Option Addr} {n m : Nat} {f g : Nat → Int} (h : RowI k w a n f) (hm : m ≤ n) (hf : ∀ j, j < m → f j = g j) : RowI k w a m g := fun j hj => by
  rw [← hf j hj]; exact h j (by omega)
theorem RowI.of_isRow {k : IntKind} {w : World} {a : Option Addr} {len cap : Nat} {zs : List Int} (h : IsRow k w a len cap zs) : RowI k w a len (fun j => zs.getD j 0) := by
  intro j hj
  rcases h with ⟨_, rfl, _⟩ | ⟨⟨b, off, spot⟩, rfl, hl, _, hz, hc, _⟩
  · omega
  · have h0 := World.cell?_spot (hc 0 (by omega))
    have hs : spot = none := by simpa [Addr.add] using h0
    subst hs
    refine ⟨b, off, rfl, ?_⟩
    have hadd : (⟨b, off, none⟩ : Addr).add j = ⟨b, off + j, none⟩ := by unfold Addr.add; split <;> simp_all
    rw [← hadd]; exact hc j (by omega)
theorem IsRow.wf {k : IntKind} {w : World} {a : Option Addr} {len cap : Nat} {zs : List Int} (h : IsRow k w a len cap zs) : ∀ n ∈ zs.take len, (Lit.int k n).wf = true := by
  intro n hn
  rcases h with ⟨_, _, _, rfl⟩ | ⟨_, _, _, _, _, _, hw⟩
  · simp at hn
  · exact hw n (List.mem_of_mem_take hn)
theorem IsRow.len {k : IntKind} {w : World} {a : Option Addr} {len cap : Nat} {zs : List Int} (h : IsRow k w a len cap zs) : len ≤ zs.length ∧ len ≤ maxLen := by
  rcases h with ⟨_, rfl, _, rfl⟩ | ⟨_, _, hl, hm, hz, _⟩
  · exact ⟨Nat.le_refl _, Nat.zero_le _⟩
  · exact ⟨by omega, by omega⟩
theorem RowI.below {k : IntKind} {w w' : World} {a : Option Addr} {n : Nat} {f : Nat → Int} (h : RowI k w a n f) (hb : Below w.heap.size w w') : RowI k w' a n f := by
  intro j hj
  obtain ⟨b, off, ha, hc⟩ := h j hj
  exact ⟨b, off, ha, (hb.cell (p := ⟨b, off + j, none⟩) (World.block_lt_of_cell? w _ hc)).trans hc⟩
/-- what a literal of the call's own holds -/
theorem RowI.new (k : IntKind) (w : World) (l : List Int) (C : Array Value) (t : TypeId) (hC : C.toList = l.map (Value.int k)) : RowI k (w.alloc (.cells C t)) (some ⟨w.heap.size, 0, none⟩) l.length (fun j => l.getD j 0) := by
  intro j hj
  refine ⟨w.heap.size, 0, rfl, ?_⟩
  rw [World.cell?_alloc_mark, Nat.zero_add]
  have : C[j]? = C.toList[j]? := by simp
  rw [this, hC]; simp [hj]
theorem natCast_getD (l : List Nat) (j : Nat) : (l.map (fun n : Nat => (n : Int))).getD j 0 = ((l.getD j 0 : Nat) : Int) := by
  simp only [List.getD_eq_getElem?_getD, List.getElem?_map]
  cases l[j]? <;> rfl
theorem RowI.newN (k : IntKind) (w : World) (l : List Nat) (C : Array Value) (t : TypeId) (hC : C.toList = l.map (fun n : Nat => Value.int k (n : Int))) : RowI k (w.alloc (.cells C t)) (some ⟨w.heap.size, 0, none⟩) l.length (fun j => ((l.getD j 0 : Nat) : Int)) := by
  have h := RowI.new k w (l.map (fun n : Nat => (n : Int))) C t (by rw [hC]; simp)
  rw [List.length_map] at h
  exact h.mono (Nat.le_refl _) fun j _ => natCast_getD l j
/-- what a slice of the call's own holds -/
theorem RowI.of_owns {k : IntKind} {w : World} {base t n : Nat} {v : Value} {l : List Int} (h : w.ownsRow base t 1 v n (l.map (Value.int k))) : ∃ a cap, v = .slice a n cap ∧ RowI k w a n (fun j => l.getD j 0) ∧ (∀ x, a = some x → base ≤ x.block) := by
  have hn : l.length = n := by have := h.1; rw [List.length_map] at this; omega
  rcases h.2 with ⟨rfl, h0⟩ | ⟨g, cap, cur, rfl, hb, hg, rest⟩
  · subst h0; exact ⟨none, 0, rfl, RowI.nil _ _ _ _, fun x h => by cases h⟩
  · refine ⟨some ⟨g, 0, none⟩, cap, rfl, fun j hj => ⟨g, 0, rfl, ?_⟩, fun x h => by cases h; exact hb⟩
    have hj' : j < l.length := by omega
    have := h.cells (g := g) rfl j (.int k (l.getD j 0)) (by simp [List.getElem?_eq_getElem hj'])
    have hadd : (⟨g, 0, none⟩ : Addr).add j = ⟨g, 0 + j, none⟩ := by unfold Addr.add; split <;> simp_all
    rw [← hadd]; exact this
/-- two rows of the call's own, of other element types, lie in other blocks -/
theorem ownsRow_apart {w : World} {b1 b2 t1 t2 s1 s2 n1 n2 : Nat} {v1 v2 : Value} {l1 l2 : List Value} (h1 : w.ownsRow b1 t1 s1 v1 n1 l1) (h2 : w.ownsRow b2 t2 s2 v2 n2 l2) (ht : t1 ≠ t2) : v1.ownBlock = none ∨ v1.ownBlock ≠ v2.ownBlock := by
  rcases h1.2 with ⟨rfl, _⟩ | ⟨g, cap, cur, rfl, _, hg, _⟩
  · exact .inl rfl
  · refine .inr fun e => ?_
    rcases h2.2 with ⟨rfl, _⟩ | ⟨g', cap', cur', rfl, _, hg', _⟩
    · simp [Value.ownBlock] at e
    · simp [Value.ownBlock] at e
      subst e
      rw [hg] at hg'
      simp at hg'
      exact ht hg'.2
/-- a row stays where another one, of another element type, grows -/
theorem ownsRow_across {w w1 : World} {b1 b2 t1 t2 s1 s2 n1 n2 : Nat} {v1 v2 : Value} {l1 l2 : List Value} {tmp : Obj} (h2 : w.ownsRow b2 t2 s2 v2 n2 l2) (h1 : w.ownsRow b1 t1 s1 v1 n1 l1) (ht : t2 ≠ t1) (hg : (w.alloc tmp).grownBy w1 v1.ownBlock) : w1.ownsRow b2 t2 s2 v2 n2 l2 :=
  (h2.alloc tmp).kept hg (ownsRow_apart (h2.alloc tmp) (h1.alloc tmp) ht)
/-- a row stays where only what is new is written -/
theorem ownsRow_below {w w' : World} {b t s n : Nat} {v : Value} {l : List Value} (h : w.ownsRow b t s v n l) (hb : Below w.heap.size w w') : w'.ownsRow b t s v n l := by
  refine ⟨h.1, ?_⟩
  rcases h.2 with hn | ⟨g, cap, cur, rfl, h1, hg, rest⟩
  · exact .inl hn
  · exact .inr ⟨g, cap, cur, rfl, h1, (hb.block g (Array.getElem?_eq_some_iff.1 hg).1).trans hg, rest⟩
/-- one number more -/
theorem map_snoc {k : IntKind} (l : List Int) (x : Int) : l.map (Value.int k) ++ [.int k x] = (l ++ [x]).map (Value.int k) := by simp
theorem natCast_snoc (l : List Nat) (x : Nat) : l.map (fun n : Nat => (n : Int)) ++ [(x : Int)] = (l ++ [x]).map (fun n : Nat => (n : Int)) := by simp
theorem IsRow.rowZ {k : IntKind} {w : World} {a : Option Addr} {len cap : Nat} {zs : List Int} (h : IsRow k w a len cap zs) : ∃ l : List Int, l.length = len ∧ len ≤ maxLen ∧ (∀ x ∈ l, (Lit.int k x).wf = true) ∧ RowI k w a l.length (fun j => l.getD j 0) := by
  have hl : (zs.take len).length = len := by rw [List.length_take]; have := h.len.1; omega
  refine ⟨zs.take len, hl, h.len.2, h.wf, ?_⟩
  rw [hl]
  refine (RowI.of_isRow h).mono (Nat.le_refl _) fun j hj => ?_
  simp [List.getD_eq_getElem?_getD, hj]
theorem IsRow.rowN {k : IntKind} {w : World} {a : Option Addr} {len cap : Nat} {zs : List Int} (B : Nat) (hB : 0 < B) (hk : ∀ x, (Lit.int k x).wf = true → 0 ≤ x ∧ x < B) (h : IsRow k w a len cap zs) : ∃ l : List Nat, l.length = len ∧ len ≤ maxLen ∧ (∀ j, l.getD j 0 < B) ∧ RowI k w a l.length (fun j => ((l.getD j 0 : Nat) : Int)) := by
  obtain ⟨l, hl, hm, hw, hr⟩ := h.rowZ
  refine ⟨l.map Int.toNat, by rw [List.length_map, hl], hm, fun j => ?_, ?_⟩
  · rw [List.getD_eq_getElem?_getD, List.getElem?_map]
    cases e : l[j]? with
    | none => exact hB
    | some x => have := hk x (hw x (List.mem_of_getElem? e)); show x.toNat < B; omega
  · rw [List.length_map]
    refine hr.mono (Nat.le_refl _) fun j hj => ?_
    have := hk l[j] (hw _ (List.getElem_mem hj))
    simp only [List.getD_eq_getElem?_getD, List.getElem?_map, List.getElem?_eq_getElem hj, Option.map_some, Option.getD_some]
    omega
theorem ofInt_u64 (a : Nat) (ha : a < 18446744073709551616) : (BitVec.ofInt 64 (a : Int)).toNat = a := by
  rw [BitVec.toNat_ofInt]; omega
theorem u64_or_nat (a b : Nat) (ha : a < 18446744073709551616) (hb : b < 18446744073709551616) : bits .or .u64 (a : Int) (b : Int) = ((a ||| b : Nat) : Int) := by
  have h : a ||| b < 2 ^ 64 := Nat.or_lt_two_pow ha hb
  have e : (BitVec.ofInt 64 (a : Int) ||| BitVec.ofInt 64 (b : Int)).toNat = a ||| b := by rw [BitVec.toNat_or, ofInt_u64 a ha, ofInt_u64 b hb]
  show IntKind.u64.wrap ((BitVec.ofInt 64 (a : Int) ||| BitVec.ofInt 64 (b : Int)).toNat : Int) = _
  rw [e, IntKind.wrap_u64]; omega
end Go.Proofs.YtlkbdhejfmljlaaDoor
