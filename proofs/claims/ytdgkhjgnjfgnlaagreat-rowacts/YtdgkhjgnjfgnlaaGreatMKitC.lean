import Derived.RangeFuncWrites
import Derived.RangeFuncNested
import Derived.Test.YtdgkhjgnjfgnlaaGreatMKitB
namespace Go.Proofs.YtdgkhjgnjfgnlaaGreat
open Go.RowKit
def eachPost (B : Nat) (W : World) (J : World → Prop) : Exit → Act → World → Prop
 | .normal, _, W' => J W' ∧ W'.heap[B]? = W.heap[B]? ∧ W'.heap[B + 1]? = W.heap[B + 1]?
 | _, _, _ => False
def EachStops (F : Fence) (n : Nat) (P : Program) (gf : Nat) (lb : Array Value) (N : Nat) (L : List Value) (R : World → Prop) : Prop :=
 ∀ (l : Nat) (J : Nat → World → Prop) (W : World), (∀ j W', J j W' → R W') → (∀ j A B, J j A → Below A.heap.size A B → J j B) → (∀ j A, L[j]? = some (.pointer none) → J j A → J (j + 1) A) →
  (∀ j u A, L[j]? = some u → u ≠ .pointer none → J j A → YieldAt F (n - 1) P l #[u] A fun e B => e = .returned (.bool true) ∧ J (j + 1) B) → J 0 W →
  CallsIn F n P gf (#[.func (.yield l) #[] #[]] ++ lb) W fun e W' => (∃ v, e = .returned v) ∧ J N W'
variable {F : Fence} {n : Nat} {P : Program}
end Go.Proofs.YtdgkhjgnjfgnlaaGreat
namespace Go.Proofs.YtdgkhjgnjfgnlaaGreat
open Go.RowKit
def objT (b : Nat) (o : Obj) : Thing :=
 ⟨fun w F => w.heap[b]? = some o ∧ F b,
  fun h hg hn => ⟨(hg.block b (Array.getElem?_eq_some_iff.1 h.1).1 (hn b (Array.getElem?_eq_some_iff.1 h.1).1 h.2)).trans h.1, h.2⟩,
  fun h hs => ⟨h.1, hs b h.2⟩, fun h => ⟨h.1, h.2, (Array.getElem?_eq_some_iff.1 h.1).1⟩⟩
def withL (S : Nat → Thing) (m : Nat) (l : List Thing) : Nat → Thing := fun x => if x < m then S x else l.getD (x - m) Thing.none
theorem withL_low {S : Nat → Thing} {m : Nat} {l : List Thing} {x : Nat} (h : x < m) : withL S m l x = S x := if_pos h
theorem withL_at {S : Nat → Thing} {m : Nat} {l : List Thing} (i : Nat) : withL S m l (m + i) = l.getD i Thing.none := by
 unfold withL; rw [if_neg (by omega), Nat.add_sub_cancel_left]
theorem withL_add {w w' : World} {B m n : Nat} {S : Nat → Thing} {l : List Thing} (h : Many w B n (withL S m l)) (hn : n = m + l.length) {t : Thing} {G : Nat → Prop} (hb : Below w.heap.size w w') (ht : t.is w' G) (hG : ∀ k, G k → w.heap.size ≤ k) : Many w' B (n + 1) (withL S m (l ++ [t])) := by
 subst hn
 refine (h.add hb ht hG).congr fun x hx => ?_
 unfold swap1 withL
 by_cases e : x < m
 ·rw [if_neg (by omega), if_pos e, if_pos e]
 ·rw [if_neg e, if_neg e]
  by_cases e2 : x = m + l.length
  ·subst e2; rw [if_pos rfl, Nat.add_sub_cancel_left]; simp
  ·rw [if_neg e2]
   have hlt : x - m < l.length := by omega
   simp [List.getD_eq_getElem?_getD, List.getElem?_append_left hlt]
theorem withL_base {S S' : Nat → Thing} {m i : Nat} {l : List Thing} (hi : i < m) {t : Thing} (hS : ∀ x, x < m → swap1 S i t x = S' x) (x : Nat) : swap1 (withL S m l) i t x = withL S' m l x := by
 by_cases e : x < m
 ·rw [withL_low e, ← hS x e]
  unfold swap1
  by_cases e2 : x = i
  ·rw [if_pos e2, if_pos e2]
  ·rw [if_neg e2, if_neg e2, withL_low e]
 ·unfold swap1 withL
  rw [if_neg (by omega), if_neg e, if_neg e]
theorem withL_nil {w : World} {B m : Nat} {S : Nat → Thing} (h : Many w B m S) : Many w B m (withL S m []) := h.congr fun _ hx => (withL_low hx).symm
theorem withL_out {w : World} {B m n : Nat} {S : Nat → Thing} {l : List Thing} (h : Many w B n (withL S m l)) (hn : m ≤ n) : Many w B m S := (h.less hn).congr fun _ hx => withL_low hx
end Go.Proofs.YtdgkhjgnjfgnlaaGreat
