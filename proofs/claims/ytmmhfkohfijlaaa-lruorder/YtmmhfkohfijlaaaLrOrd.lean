/- The order in which keys stand, plainly: the one that is wanted goes ahead of the others, and what is beyond the room goes. -/
import Derived.Test.YtmmhfkohfijlaaaLrMine
namespace Go.Proofs.Ytmmhfkohfijlaaa
open Go.RowKit Lr

namespace Lr
/-- k, and ahead of place t those that are another one -/
def nx (k : Int) (K : List Int) (t : Nat) : List Int := k :: (K.take t).filter fun x => !(x == k)
/-- whether k stands ahead of place t -/
def ws (k : Int) (K : List Int) (t : Nat) : Bool := (K.take t).any fun x => x == k
theorem nx_zero (k : Int) (K : List Int) : nx k K 0 = [k] := by simp [nx]
theorem ws_zero (k : Int) (K : List Int) : ws k K 0 = false := by simp [ws]
theorem nx_same {k : Int} {K : List Int} {t : Nat} (h : t < K.length) (e : K[t] = k) : nx k K (t + 1) = nx k K t := by
  unfold nx; rw [List.take_succ_eq_append_getElem h, List.filter_append]; simp [e]
theorem nx_other {k : Int} {K : List Int} {t : Nat} (h : t < K.length) (e : K[t] ≠ k) : nx k K (t + 1) = nx k K t ++ [K[t]] := by
  unfold nx; rw [List.take_succ_eq_append_getElem h, List.filter_append]; simp [e]
theorem ws_same {k : Int} {K : List Int} {t : Nat} (h : t < K.length) (e : K[t] = k) : ws k K (t + 1) = true := by
  unfold ws; rw [List.take_succ_eq_append_getElem h, List.any_append]; simp [e]
theorem ws_other {k : Int} {K : List Int} {t : Nat} (h : t < K.length) (e : K[t] ≠ k) : ws k K (t + 1) = ws k K t := by
  unfold ws; rw [List.take_succ_eq_append_getElem h, List.any_append]; simp [e]
theorem nx_length_le (k : Int) (K : List Int) (t : Nat) : (nx k K t).length ≤ t + 1 := by
  unfold nx
  have := List.length_filter_le (fun x => !(x == k)) (K.take t)
  rw [List.length_take] at this
  rw [List.length_cons]; omega
theorem nx_none {k : Int} {K : List Int} (h : k ∉ K) : nx k K K.length = k :: K := by
  unfold nx
  rw [List.take_length, List.filter_eq_self.2]
  intro x hx
  have : x ≠ k := fun e => h (by rw [← e]; exact hx)
  simpa using this
theorem ws_none {k : Int} {K : List Int} (h : k ∉ K) : ws k K K.length = false := by
  unfold ws
  rw [List.take_length, List.any_eq_false]
  intro x hx
  have : x ≠ k := fun e => h (by rw [← e]; exact hx)
  simpa using this
theorem filter_erase : ∀ {K : List Int} {k : Int} {i : Nat}, K.Nodup → (h : i < K.length) → K[i] = k → K.filter (fun x => !(x == k)) = K.eraseIdx i
  | a :: K, k, 0, hn, _, e => by
    have e1 : a = k := e
    subst e1
    have h1 := (List.nodup_cons.1 hn).1
    rw [List.filter_cons]
    simp only [beq_self_eq_true, Bool.not_true, Bool.false_eq_true, if_false, List.eraseIdx_cons_zero]
    rw [List.filter_eq_self]
    intro x hx
    have : x ≠ a := fun e => h1 (by rw [← e]; exact hx)
    simpa using this
  | a :: K, k, i + 1, hn, h, e => by
    have hl : i < K.length := by simpa using h
    have e1 : K[i] = k := e
    have hne : a ≠ k := fun q => (List.nodup_cons.1 hn).1 (by rw [q, ← e1]; exact List.getElem_mem hl)
    rw [List.filter_cons]
    simp only [show (a == k) = false from beq_false_of_ne hne, Bool.not_false, if_true, List.eraseIdx_cons_succ]
    rw [filter_erase (List.nodup_cons.1 hn).2 hl e1]
/-- none is pinned, and each key is a byte -/
def Free (l : L) : Prop := ∀ x ∈ l, x.2 = 0 ∧ 0 ≤ x.1 ∧ x.1 < 256
theorem keys_erase (l : L) (i : Nat) : keys (l.eraseIdx i) = (keys l).eraseIdx i := map_erase _ l i
theorem held_free0 {l : L} (h : Free l) (h0 : 0 < l.length) : held l = 0 := by
  rw [held_at (i := l.length - 1) (by omega) (h _ (List.getElem_mem _)).1 (fun j h1 h2 => by omega)]; omega
theorem Free.sub {l l' : L} (h : Free l) (hs : ∀ x ∈ l', x ∈ l) : Free l' := fun x hx => h x (hs x hx)
theorem Free.cons {l : L} (h : Free l) {k : Int} (h0 : 0 ≤ k) (h1 : k < 256) : Free ((k, 0) :: l) := fun x hx => by
  rcases List.mem_cons.1 hx with rfl | hx
  · exact ⟨rfl, h0, h1⟩
  · exact h x hx
/-- what Put answers and leaves, told by the order -/
structure Ord (n : Nat) (l : L) (k : Int) : Prop where
  e : putE n l k = 0
  keys : keys (put n l k) = (nx k (Lr.keys l) l.length).take n
  free : Free (put n l k)
  few : (nx k (Lr.keys l) l.length).length ≤ n → putW n l k = false
  many : n < (nx k (Lr.keys l) l.length).length → putW n l k = true ∧ putG n l k = (nx k (Lr.keys l) l.length).getD n 0 ∧ 0 ≤ putG n l k ∧ ws k (Lr.keys l) l.length = false ∧ (nx k (Lr.keys l) l.length).length = n + 1
theorem ord_put {n : Nat} {l : L} (ho : LOk n l) (hf : Free l) {k : Int} (h0 : 0 ≤ k) (h1 : k < 256) : Ord n l k := by
  have hfull := ho.full
  by_cases hy : idx l k < l.length
  · have hkey := idx_key hy
    have hN : nx k (Lr.keys l) l.length = Lr.keys (front l (idx l k)) := by
      unfold nx front
      rw [← keys_length l, List.take_length, filter_erase (i := idx l k) ho.nd (by rw [keys_length]; exact hy) (by rw [getD_at' hy] at hkey; simpa [Lr.keys] using hkey)]
      rw [show Lr.keys (l.getD (idx l k) (0, 0) :: l.eraseIdx (idx l k)) = (l.getD (idx l k) (0, 0)).1 :: Lr.keys (l.eraseIdx (idx l k)) from rfl, hkey, keys_erase]
    have hl : (nx k (Lr.keys l) l.length).length = l.length := by rw [hN, keys_length, front_length hy]
    refine ⟨?_, ?_, ?_, fun _ => ?_, fun h => ?_⟩
    · unfold putE; rw [if_pos hy]
    · unfold put; rw [if_pos hy, ← hN, List.take_of_length_le (by omega)]
    · unfold put; rw [if_pos hy, front, getD_at' hy]; exact hf.sub fun x hx => (erase_perm hy).mem_iff.1 hx
    · unfold putW; rw [if_pos hy]
    · omega
  · have hno : k ∉ Lr.keys l := fun hm => hy (has_iff.2 hm)
    have hN : nx k (Lr.keys l) l.length = k :: Lr.keys l := by rw [← keys_length l]; exact nx_none hno
    have hW : ws k (Lr.keys l) l.length = false := by rw [← keys_length l]; exact ws_none hno
    by_cases hr : l.length < n
    · refine ⟨?_, ?_, ?_, fun _ => ?_, fun h => ?_⟩
      · unfold putE; rw [if_neg hy, if_pos hr]
      · unfold put; rw [if_neg hy, if_pos hr, hN, List.take_of_length_le (by rw [List.length_cons, keys_length]; omega)]; rfl
      · unfold put; rw [if_neg hy, if_pos hr]; exact hf.cons h0 h1
      · unfold putW; rw [if_neg hy, if_pos hr]
      · rw [hN, List.length_cons, keys_length] at h; omega
    · have hln : l.length = n := by omega
      have hpos : 0 < l.length := by have := ho.room1; omega
      have hh := held_free0 hf hpos
      have hol : old l = l.length - 1 := by unfold old; rw [hh]; omega
      have hhl : held l < l.length := by omega
      have hlast : l.length - 1 < l.length := by omega
      refine ⟨?_, ?_, ?_, fun h => ?_, fun _ => ⟨?_, ?_, ?_, hW, ?_⟩⟩
      · unfold putE; rw [if_neg hy, if_neg hr, if_pos hhl]
      · unfold put
        rw [if_neg hy, if_neg hr, if_pos hhl, hol, hN, ← hln]
        rw [show Lr.keys ((k, 0) :: l.eraseIdx (l.length - 1)) = k :: Lr.keys (l.eraseIdx (l.length - 1)) from rfl, keys_erase]
        rw [show l.length = (l.length - 1) + 1 by omega, List.take_succ_cons]
        congr 1
        rw [show l.length - 1 + 1 - 1 = l.length - 1 by omega, List.eraseIdx_eq_take_drop_succ, List.drop_of_length_le (by rw [keys_length]; omega), List.append_nil]
      · unfold put; rw [if_neg hy, if_neg hr, if_pos hhl]; exact (hf.sub fun x hx => List.mem_of_mem_eraseIdx hx).cons h0 h1
      · rw [hN, List.length_cons, keys_length] at h; omega
      · unfold putW; rw [if_neg hy, if_neg hr, decide_eq_true hhl]
      · unfold putG
        rw [if_neg hy, if_neg hr, if_pos hhl, hol, hN, ← hln, ← keys_at l hlast]
        rw [show (k :: Lr.keys l).getD l.length 0 = (k :: Lr.keys l).getD ((l.length - 1) + 1) 0 by rw [show l.length - 1 + 1 = l.length by omega]]
        rw [List.getD_cons_succ]
      · unfold putG; rw [if_neg hy, if_neg hr, if_pos hhl, hol, getD_at' hlast]; exact (hf _ (List.getElem_mem hlast)).2.1
      · rw [hN, List.length_cons, keys_length]; omega
end Lr
end Go.Proofs.Ytmmhfkohfijlaaa
