/- Memory of a call's own beyond rows of integers: which blocks have turned, many cells at once, rows of texts of 64 bytes. -/
import Derived.Test.YtlkbdhejfmljlaaDoorKitRow
import Derived.Maps.OwnSet
import Derived.Maps.AppendAt
import Derived.Maps.RangeWalk
import Derived.Deep.MidRow
namespace Go.Proofs.YtlkbdhejfmljlaaDoor
open Go.RowKit

/-- Of what lay there just the blocks of which F holds may have turned. -/
structure Only (F : Nat → Prop) (w w' : World) : Prop where
  os : w'.os = w.os
  tape : w'.tape = w.tape
  output : w'.output = w.output
  size : w.heap.size ≤ w'.heap.size
  block : ∀ k, k < w.heap.size → ¬ F k → w'.heap[k]? = w.heap[k]?
theorem Only.refl (F : Nat → Prop) (w : World) : Only F w w := ⟨rfl, rfl, rfl, Nat.le_refl _, fun _ _ _ => rfl⟩
/-- F, and all that is new. -/
def Plus (F : Nat → Prop) (n : Nat) : Nat → Prop := fun k => F k ∨ n ≤ k
theorem Only.trans {F : Nat → Prop} {a b c : World} (h : Only F a b) (k : Only (Plus F a.heap.size) b c) : Only F a c :=
  ⟨k.os.trans h.os, k.tape.trans h.tape, k.output.trans h.output, Nat.le_trans h.size k.size, fun i hi hn =>
    (k.block i (Nat.lt_of_lt_of_le hi h.size) (fun hp => by rcases hp with h1 | h1; exact hn h1; omega)).trans (h.block i hi hn)⟩
theorem Only.mono {F G : Nat → Prop} {a b : World} (h : Only F a b) (hs : ∀ k, F k → G k) : Only G a b :=
  ⟨h.os, h.tape, h.output, h.size, fun i hi hn => h.block i hi (fun hf => hn (hs i hf))⟩
theorem Only.then {F : Nat → Prop} {a b c : World} (h : Only F a b) (k : Only F b c) : Only F a c := h.trans (k.mono fun _ hf => .inl hf)
theorem Only.of_below {w w' : World} (h : Below w.heap.size w w') (F : Nat → Prop) : Only F w w' := ⟨h.os, h.tape, h.output, h.size, fun k hk _ => h.block k hk⟩
theorem Only.below {w w' : World} {F : Nat → Prop} {B : Nat} (h : Only F w w') (hF : ∀ k, F k → B ≤ k) (hB : B ≤ w.heap.size) : Below B w w' := ⟨h.os, h.tape, h.output, h.size, fun k hk => h.block k (by omega) (fun hf => by have := hF k hf; omega)⟩
theorem Only.of_grown {w w' : World} {row : Option Nat} (h : w.grownBy w' row) (F : Nat → Prop) (hF : ∀ k, row = some k → F k) : Only F w w' :=
  ⟨h.os, h.tape, h.output, h.size, fun k hk hn => h.block k hk (fun e => hn (hF k e.symm))⟩
theorem Only.alloc (F : Nat → Prop) (w : World) (o : Obj) : Only F w (w.alloc o) := ⟨rfl, rfl, rfl, by simp, fun k hk _ => Below.heap_alloc w o k hk⟩
theorem Only.drew (F : Nat → Prop) (w : World) : Only F w w.drew := ⟨rfl, rfl, rfl, Nat.le_refl _, fun _ _ _ => rfl⟩
theorem Only.setCell (F : Nat → Prop) (w : World) (a : Addr) (v : Value) (h : F a.block) : Only F w (w.setCell a v) :=
  ⟨rfl, rfl, rfl, by simp [World.setCell], fun k _ hn => heap_setCell_other w a k v (fun e => hn (by rw [e]; exact h))⟩

/-! ### many cells at once -/
theorem setCells_os (b : Nat) : ∀ (vs : List Value) (o : Nat) (w : World), (w.setCells b o vs).os = w.os ∧ (w.setCells b o vs).tape = w.tape ∧ (w.setCells b o vs).output = w.output ∧ (w.setCells b o vs).heap.size = w.heap.size ∧ ∀ k, k ≠ b → (w.setCells b o vs).heap[k]? = w.heap[k]?
  | [], _, _ => ⟨rfl, rfl, rfl, rfl, fun _ _ => rfl⟩
  | v :: r, o, w => by
    obtain ⟨h1, h2, h3, h4, h5⟩ := setCells_os b r (o + 1) (w.setCell ⟨b, o, none⟩ v)
    refine ⟨h1, h2, h3, h4.trans (by simp [World.setCell]), fun k hk => (h5 k hk).trans (heap_setCell_other w ⟨b, o, none⟩ k v hk)⟩
theorem Only.setCells (F : Nat → Prop) (w : World) (b o : Nat) (vs : List Value) (h : F b) : Only F w (w.setCells b o vs) := by
  obtain ⟨h1, h2, h3, h4, h5⟩ := setCells_os b vs o w
  exact ⟨h1, h2, h3, by rw [h4]; exact Nat.le_refl _, fun k _ hn => h5 k (fun e => hn (by rw [e]; exact h))⟩
theorem heap_setCells (b : Nat) (t : TypeId) : ∀ (vs : List Value) (o : Nat) (w : World) (cur : Array Value), w.heap[b]? = some (.cells cur t (0, 0)) → o + vs.length ≤ cur.size →
    (w.setCells b o vs).heap[b]? = some (.cells (cur.toList.take o ++ vs ++ cur.toList.drop (o + vs.length)).toArray t (0, 0))
  | [], o, w, cur, h, _ => by
    rw [World.setCells, h]; simp
  | v :: r, o, w, cur, h, hfit => by
    simp only [List.length_cons] at hfit
    have h1 := heap_setCell_same w b o cur t v h
    have ih := heap_setCells b t r (o + 1) _ _ h1 (by simp; omega)
    rw [World.setCells, ih]
    congr 2
    apply Array.ext'
    simp only [Array.toList_setIfInBounds, List.length_cons]
    rw [List.take_set, List.drop_set_of_lt (by omega), List.take_succ_eq_append_getElem (by simp; omega)]
    have hset : ∀ x : Value, (cur.toList.take o ++ [x]).set o v = cur.toList.take o ++ [v] := fun x => by
      have hl : (cur.toList.take o).length = o := by simp; omega
      rw [List.set_append_right _ _ (by omega), hl, Nat.sub_self]; rfl
    rw [hset, show o + 1 + r.length = o + (r.length + 1) by omega]
    simp

/-! ### rows of texts of 64 bytes -/
def flat (l : List (List UInt8)) : List Value := byteVals l.flatten
theorem flat_nil : flat [] = [] := rfl
theorem flat_cons (s : List UInt8) (l : List (List UInt8)) : flat (s :: l) = byteVals s ++ flat l := by simp [flat, byteVals]
theorem flat_append (l r : List (List UInt8)) : flat (l ++ r) = flat l ++ flat r := by simp [flat, byteVals]
theorem flat_length : ∀ {l : List (List UInt8)}, (∀ s ∈ l, s.length = 64) → (flat l).length = l.length * 64
  | [], _ => rfl
  | s :: l, h => by
    rw [flat_cons, List.length_append, byteVals_length, h s (by simp), flat_length (fun t ht => h t (by simp [ht])), List.length_cons]; omega
theorem flat_at : ∀ {l : List (List UInt8)} {i : Nat}, (∀ s ∈ l, s.length = 64) → i < l.length → ((flat l).drop (i * 64)).take 64 = byteVals (l.getD i [])
  | s :: l, 0, h, _ => by
    rw [flat_cons, Nat.zero_mul, List.drop_zero, List.take_left' (by rw [byteVals_length]; exact h s (by simp))]; rfl
  | s :: l, i + 1, h, hi => by
    have hs : (byteVals s).length = 64 := by rw [byteVals_length]; exact h s (by simp)
    rw [flat_cons, show (i + 1) * 64 = (byteVals s).length + i * 64 by omega, List.drop_append]
    rw [List.drop_of_length_le (by omega), List.nil_append, show (byteVals s).length + i * 64 - (byteVals s).length = i * 64 by omega]
    exact flat_at (fun t ht => h t (by simp [ht])) (by simpa using hi)
theorem flat_set : ∀ {l : List (List UInt8)} {i : Nat} {s : List UInt8}, (∀ s ∈ l, s.length = 64) → i < l.length → s.length = 64 → (flat l).take (i * 64) ++ byteVals s ++ (flat l).drop (i * 64 + 64) = flat (l.set i s)
  | t :: l, 0, s, h, _, hs => by
    have ht : (byteVals t).length = 64 := by rw [byteVals_length]; exact h t (by simp)
    rw [List.set_cons_zero, flat_cons, flat_cons, Nat.zero_mul, List.take_zero, List.nil_append, Nat.zero_add, ← ht, List.drop_left]
  | t :: l, i + 1, s, h, hi, hs => by
    have ht : (byteVals t).length = 64 := by rw [byteVals_length]; exact h t (by simp)
    have ih := flat_set (l := l) (i := i) (s := s) (fun t ht => h t (by simp [ht])) (by simpa using hi) hs
    rw [List.set_cons_succ, flat_cons, flat_cons, ← ih, show (i + 1) * 64 = (byteVals t).length + i * 64 by omega, List.take_append, List.take_of_length_le (by omega), show (byteVals t).length + i * 64 - (byteVals t).length = i * 64 by omega]
    rw [show (byteVals t).length + i * 64 + 64 = (byteVals t).length + (i * 64 + 64) by omega, List.drop_append, List.drop_of_length_le (by omega), List.nil_append, show (byteVals t).length + (i * 64 + 64) - (byteVals t).length = i * 64 + 64 by omega]
    simp only [List.append_assoc]
theorem flat_zeros (n : Nat) : flat (List.replicate n (List.replicate 64 0)) = List.replicate (n * 64) (.int .u8 0) := by
  unfold flat byteVals
  rw [List.flatten_replicate_replicate]
  simp
theorem byteVals_one (l : List UInt8) : ∀ v ∈ byteVals l, v.oneCell' = true := by
  intro v hv
  obtain ⟨x, _, rfl⟩ := List.mem_map.1 hv
  rfl
/-- The i-th text of a row. -/
theorem range_row {w : World} {g : Nat} {cur : Array Value} {t : TypeId} {l : List (List UInt8)} (h : w.heap[g]? = some (.cells cur t (0, 0))) (hc : cur.toList.take (l.length * 64) = flat l) (hl : ∀ s ∈ l, s.length = 64) {i : Nat} (hi : i < l.length) :
    w.rangeAt g (i * 64) (byteVals (l.getD i [])) := by
  intro j v hv
  rw [cell_of_row w g _ cur t (0, 0) h]
  rw [← flat_at hl hi, ← hc] at hv
  rw [List.getElem?_take, List.getElem?_drop, List.getElem?_take] at hv
  split at hv
  · split at hv
    · rw [← hv]; simp
    · cases hv
  · cases hv
theorem there_row {w : World} {g : Nat} {cur : Array Value} {t : TypeId} (h : w.heap[g]? = some (.cells cur t (0, 0))) {o n : Nat} (hn : o + n ≤ cur.size) : w.there g o n := by
  intro j hj
  rw [cell_of_row w g _ cur t (0, 0) h, frozen_of_row w g _ cur t h]
  refine ⟨?_, rfl⟩
  rw [Array.getElem?_eq_getElem (by omega)]; rfl
/-- .. is written. -/
theorem flat_setCells {w : World} {g : Nat} {cur : Array Value} {t : TypeId} {l : List (List UInt8)} (h : w.heap[g]? = some (.cells cur t (0, 0))) (hc : cur.toList = flat l) (hl : ∀ s ∈ l, s.length = 64) {i : Nat} (hi : i < l.length) {s : List UInt8} (hs : s.length = 64) :
    ∃ cur', (w.setCells g (i * 64) (byteVals s)).heap[g]? = some (.cells cur' t (0, 0)) ∧ cur'.toList = flat (l.set i s) := by
  have hsz : cur.size = l.length * 64 := by rw [← Array.length_toList, hc, flat_length hl]
  have hb : (byteVals s).length = 64 := by rw [byteVals_length]; exact hs
  refine ⟨_, heap_setCells g t (byteVals s) (i * 64) w cur h (by omega), ?_⟩
  simp only []
  rw [hc, hb]
  exact flat_set hl hi hs
/-- the bytes of a row's part, as a text -/
theorem range_back {P : Program} {w : World} {g o cap : Nat} {l : List UInt8} (h : w.rangeAt g o (byteVals l)) (src dst e : TypeId) {n : Nat} (hn : l.length = n)
    (hs : P.underlying src = some (.slice e)) (he : P.underlying e = some (.int .u8)) (hd : P.underlying dst = some .string) :
    (convert src dst (.slice (some ⟨g, o, none⟩) n cap)).run P w = .ok (.string ⟨l.toArray⟩) w := by
  subst hn
  refine run_convert_bytes_back w src dst e ⟨g, o, none⟩ cap l hs he hd fun j hj => ?_
  rw [Addr.add_mid]
  exact h j _ (by unfold byteVals; simp [List.getElem?_eq_getElem hj])
end Go.Proofs.YtlkbdhejfmljlaaDoor
