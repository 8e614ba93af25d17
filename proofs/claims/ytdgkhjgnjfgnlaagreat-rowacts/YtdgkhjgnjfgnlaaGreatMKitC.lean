/- Several texts in one. A loop over an iterator that tells the places of a row in order, but for those that are none: what its body may do is bounded by no kind of block; the loop's own two blocks alone must stand. A table of many things with a short list of the call's own behind it: one is added, changed, stored to. -/
import Derived.RangeFuncWrites
import Derived.RangeFuncNested
import Derived.Test.YtdgkhjgnjfgnlaaGreatMKitB
namespace Go.Proofs.YtdgkhjgnjfgnlaaGreat
open Go.RowKit

/-- how a round may be left: at its end, with the loop's two blocks (B, B + 1) as they were -/
def eachPost (B : Nat) (W : World) (J : World → Prop) : Exit → Act → World → Prop
  | .normal, _, W' => J W' ∧ W'.heap[B]? = W.heap[B]? ∧ W'.heap[B + 1]? = W.heap[B + 1]?
  | _, _, _ => False

/-- an iterator over N places: it reads what R tells, leaves the world (but for what is new), and calls yield for each place that is there -/
def EachStops (F : Fence) (n : Nat) (P : Program) (gf : Nat) (lb : Array Value) (N : Nat) (L : List Value) (R : World → Prop) : Prop :=
  ∀ (l : Nat) (J : Nat → World → Prop) (W : World), (∀ j W', J j W' → R W') → (∀ j A B, J j A → Below A.heap.size A B → J j B) → (∀ j A, L[j]? = some (.pointer none) → J j A → J (j + 1) A) →
    (∀ j u A, L[j]? = some u → u ≠ .pointer none → J j A → YieldAt F (n - 1) P l #[u] A fun e B => e = .returned (.bool true) ∧ J (j + 1) B) → J 0 W →
    CallsIn F n P gf (#[.func (.yield l) #[] #[]] ++ lb) W fun e W' => (∃ v, e = .returned v) ∧ J N W'

theorem below_put {w : World} {r : Nat} {n : Nat} (o : Obj) (hn : n ≤ r) : Below n w (w.putObj r o) :=
  ⟨rfl, rfl, rfl, by simp, fun k hk => World.putObj_heap_other (by omega)⟩

variable {F : Fence} {n : Nat} {P : Program}
theorem range_each {g : Operand} {pt : Tmp} {assign body : Code} {Q : Exit → Act → World → Prop} {a : Act} {w : World}
    (hro : F.round = none) (h1 : 1 ≤ n) {gf : Nat} {lb : Array Value} (hg : a.eval g = .func (.func gf) #[] lb) (hFg : F.fn gf) (eg : ∀ args w, (callFunc gf args).run P w = .ok (.enter gf args) w)
    {N : Nat} {L : List Value} {R : World → Prop} (hseq : EachStops F (n - 1) P gf lb N L R) (I : Nat → World → Prop)
    (hR : ∀ j W, I j W → R W) (hb : ∀ j A B, I j A → Below A.heap.size A B → I j B) (hskip : ∀ j A, L[j]? = some (.pointer none) → I j A → I (j + 1) A)
    (hput : ∀ j A r r', I j A → A.heap[w.heap.size + 1]? = some (.loop r) → I j (A.putObj (w.heap.size + 1) (.loop r')))
    (h0 : ∀ r, I 0 ((w.alloc (.deferred (some []))).alloc (.loop r))) (a₁ : Value → Act)
    (hassign : ∀ (l : Nat) (u : Value) (W : World) (K : Act → World → Prop), K (a₁ u) W →
      assign.wpIn (F.inRound l) (n - 1 - 1) P (Exit.then K (fun _ _ _ => False)) { tmps := a.tmps.setIfInBounds pt u, defers := [] } W)
    (hbody : ∀ (j : Nat) (u : Value) (W : World), L[j]? = some u → u ≠ .pointer none → I j W → (∃ r, W.heap[w.heap.size + 1]? = some (.loop r)) → W.heap[w.heap.size]? = some (.deferred (some [])) →
      body.wpIn (F.inRound (w.heap.size + 1)) (n - 1 - 1) P (eachPost w.heap.size W (I (j + 1))) (a₁ u) W)
    (hdone : ∀ (W : World), I N W → W.heap[w.heap.size]? = some (.deferred (some [])) → Q .normal { a with defers := { target := .collected w.heap.size, args := #[] } :: a.defers } W) :
    (Code.rangeFunc g #[pt] assign body).wpIn F n P Q a w := by
  refine wpIn_rangeFunc fun fn hfn => ?_
  rw [hro]
  let rec0 : LoopState → Option Code → Loop := fun st pe => { state := st, pending := pe, fn, tmps := a.tmps, params := #[pt], assign, body, defers := w.heap.size }
  have hl1 : ((w.alloc (.deferred (some []))).alloc (.loop (rec0 .ready none))).heap[w.heap.size + 1]? = some (.loop (rec0 .ready none)) := by
    have := World.alloc_heap_new (w.alloc (.deferred (some []))) (.loop (rec0 .ready none)); rwa [World.size_alloc] at this
  have hk1 : ((w.alloc (.deferred (some []))).alloc (.loop (rec0 .ready none))).heap[w.heap.size]? = some (.deferred (some [])) :=
    (Below.heap_alloc _ _ _ (by simp)).trans (World.alloc_heap_new w _)
  have hi1 := h0 (rec0 .ready none)
  refine ⟨w.heap.size + 1, [{ target := .collected w.heap.size, args := #[] }], (w.alloc (.deferred (some []))).alloc (.loop (rec0 .ready none)), { target := .fn (.func gf) lb, args := #[.func (.yield (w.heap.size + 1)) #[] #[]] }, (w.alloc (.deferred (some []))).alloc (.loop (rec0 .ready none)), gf, #[.func (.yield (w.heap.size + 1)) #[] #[]] ++ lb, (w.alloc (.deferred (some []))).alloc (.loop (rec0 .ready none)),
    run_enterLoop_outer _ _ _ _ _, ?_, ?_, ?_, fun _ => h1, ?_⟩
  · simp only [resolve, hg]
    simp [go_sem]
  · intro f' hf'; simp [Target.leads] at hf'; subst hf'; exact hFg
  · simp [invoke, go_sem, eg]
  · refine (hseq (w.heap.size + 1) (fun j W => I j W ∧ W.heap[w.heap.size + 1]? = some (.loop (rec0 .ready none)) ∧ W.heap[w.heap.size]? = some (.deferred (some []))) _
      (fun j W' h => hR j W' h.1) (fun j A B h hB => ⟨hb j A B h.1 hB, (hB.block _ (Array.getElem?_eq_some_iff.1 h.2.1).1).trans h.2.1, (hB.block _ (Array.getElem?_eq_some_iff.1 h.2.2).1).trans h.2.2⟩)
      (fun j A hj h => ⟨hskip j A hj h.1, h.2⟩) ?_ ⟨hi1, hl1, hk1⟩).mono ?_
    · rintro j u A hj hu ⟨hi, hl, hk⟩
      have hlt := (Array.getElem?_eq_some_iff.1 hl).1
      have hbusy : (A.putObj (w.heap.size + 1) (.loop (rec0 .busy none))).heap[w.heap.size + 1]? = some (.loop (rec0 .busy none)) := World.putObj_heap_same hlt
      have hy := run_yield (P := P) (args := #[u]) hl rfl
      have hbr := run_beginRound (P := P) hl rfl
      refine ⟨fn, a.tmps.setIfInBounds pt u, assign, body, by rw [hy]; simp [rec0], roundIn_of_wpIn hfn ?_⟩
      refine hassign _ u A _ ⟨_, hbr, ?_⟩
      refine wpIn_mono (hbody j u (A.putObj (w.heap.size + 1) (.loop (rec0 .busy none))) hj hu (hput j A _ _ hi hl) ⟨_, hbusy⟩ ((World.putObj_heap_other (by omega)).trans hk)) ?_
      rintro e a3 W3 hp
      cases e with
      | normal =>
        obtain ⟨hi3, hk3, hl3⟩ := hp
        have hl3' := hl3.trans hbusy
        refine ⟨_, _, run_endRound none hl3', rfl, hput _ _ _ _ hi3 hl3', World.putObj_heap_same (Array.getElem?_eq_some_iff.1 hl3').1, ?_⟩
        exact (World.putObj_heap_other (by omega)).trans (hk3.trans ((World.putObj_heap_other (by omega)).trans hk))
      | ret => exact hp.elim
      | exit id => exact hp.elim
      | goto t => exact hp.elim
      | panic ch => exact hp.elim
      | outgrown => exact hp.elim
    · rintro e W2 ⟨⟨v, rfl⟩, hi, hl, hk⟩
      exact ⟨none, _, run_endLoop hl (by simp [rec0]), hdone _ (hput _ _ _ _ hi hl) ((World.putObj_heap_other (by omega)).trans hk)⟩
end Go.Proofs.YtdgkhjgnjfgnlaaGreat

namespace Go.Proofs.YtdgkhjgnjfgnlaaGreat
open Go.RowKit

/-- a block that holds one thing, whatever kind it is of -/
def objT (b : Nat) (o : Obj) : Thing :=
  ⟨fun w F => w.heap[b]? = some o ∧ F b,
    fun h hg hn => ⟨(hg.block b (Array.getElem?_eq_some_iff.1 h.1).1 (hn b (Array.getElem?_eq_some_iff.1 h.1).1 h.2)).trans h.1, h.2⟩,
    fun h hs => ⟨h.1, hs b h.2⟩, fun h => ⟨h.1, h.2, (Array.getElem?_eq_some_iff.1 h.1).1⟩⟩
theorem many_obj {w : World} {B m : Nat} {T : Nat → Thing} (h : Many w B m T) {i : Nat} (hi : i < m) {b : Nat} {o : Obj} (e : T i = objT b o) : w.heap[b]? = some o := by
  obtain ⟨F, hF, _⟩ := h.look hi
  rw [e] at hF
  exact hF.1
/-- a block of the call's own is put anew -/
theorem many_put {w : World} {B m : Nat} {T : Nat → Thing} (h : Many w B m T) {i : Nat} (hi : i < m) {b : Nat} {o : Obj} (e : T i = objT b o) (o' : Obj) : Many (w.putObj b o') B m (swap1 T i (objT b o')) ∧ Only (fun k => B ≤ k ∧ k < w.heap.size) w (w.putObj b o') := by
  obtain ⟨F, h1, h2, h3, h4⟩ := h
  have hF := h1 i hi
  rw [e] at hF
  have hlt := (Array.getElem?_eq_some_iff.1 hF.1).1
  exact Many.turned hi h1 h2 h3 h4 ⟨World.putObj_heap_same hlt, .inl hF.2⟩ ⟨rfl, rfl, rfl, by simp, fun k _ hn => World.putObj_heap_other (fun ek => hn (ek ▸ hF.2))⟩
/-- a cell of the call's own is stored to -/
theorem many_store {w : World} {B m : Nat} {T : Nat → Thing} (h : Many w B m T) {i : Nat} (hi : i < m) {b : Nat} {t : TypeId} {v : Value} (e : T i = blkT b t #[v]) (u : Value) : Many (w.setCell ⟨b, 0, none⟩ u) B m (swap1 T i (blkT b t #[u])) ∧ Only (fun k => B ≤ k ∧ k < w.heap.size) w (w.setCell ⟨b, 0, none⟩ u) := by
  obtain ⟨F, h1, h2, h3, h4⟩ := h
  have hF := h1 i hi
  rw [e] at hF
  refine Many.turned hi h1 h2 h3 h4 ⟨?_, .inl hF.2⟩ (Only.setCell _ _ _ _ hF.2)
  have := heap_setCell_same w b 0 #[v] t u hF.1
  simpa using this

/-- things, and those of a list behind them -/
def withL (S : Nat → Thing) (m : Nat) (l : List Thing) : Nat → Thing := fun x => if x < m then S x else l.getD (x - m) Thing.none
theorem withL_low {S : Nat → Thing} {m : Nat} {l : List Thing} {x : Nat} (h : x < m) : withL S m l x = S x := if_pos h
theorem withL_at {S : Nat → Thing} {m : Nat} {l : List Thing} (i : Nat) : withL S m l (m + i) = l.getD i Thing.none := by
  unfold withL; rw [if_neg (by omega), Nat.add_sub_cancel_left]
theorem withL_add {w w' : World} {B m n : Nat} {S : Nat → Thing} {l : List Thing} (h : Many w B n (withL S m l)) (hn : n = m + l.length) {t : Thing} {G : Nat → Prop} (hb : Below w.heap.size w w') (ht : t.is w' G) (hG : ∀ k, G k → w.heap.size ≤ k) : Many w' B (n + 1) (withL S m (l ++ [t])) := by
  subst hn
  refine (h.add hb ht hG).congr fun x hx => ?_
  unfold swap1 withL
  by_cases e : x < m
  · rw [if_neg (by omega), if_pos e, if_pos e]
  · rw [if_neg e, if_neg e]
    by_cases e2 : x = m + l.length
    · subst e2; rw [if_pos rfl, Nat.add_sub_cancel_left]; simp
    · rw [if_neg e2]
      have hlt : x - m < l.length := by omega
      simp [List.getD_eq_getElem?_getD, List.getElem?_append_left hlt]
theorem withL_set {S : Nat → Thing} {m i : Nat} {l : List Thing} (hi : i < l.length) (t : Thing) (x : Nat) : swap1 (withL S m l) (m + i) t x = withL S m (l.set i t) x := by
  unfold swap1 withL
  by_cases e : x < m
  · rw [if_neg (by omega), if_pos e, if_pos e]
  · rw [if_neg e, if_neg e]
    by_cases e2 : x = m + i
    · subst e2; rw [if_pos rfl, Nat.add_sub_cancel_left]; simp [List.getD_eq_getElem?_getD, hi]
    · rw [if_neg e2]
      have : i ≠ x - m := by omega
      simp [List.getD_eq_getElem?_getD, List.getElem?_set_ne this]
theorem withL_base {S S' : Nat → Thing} {m i : Nat} {l : List Thing} (hi : i < m) {t : Thing} (hS : ∀ x, x < m → swap1 S i t x = S' x) (x : Nat) : swap1 (withL S m l) i t x = withL S' m l x := by
  by_cases e : x < m
  · rw [withL_low e, ← hS x e]
    unfold swap1
    by_cases e2 : x = i
    · rw [if_pos e2, if_pos e2]
    · rw [if_neg e2, if_neg e2, withL_low e]
  · unfold swap1 withL
    rw [if_neg (by omega), if_neg e, if_neg e]
theorem withL_nil {w : World} {B m : Nat} {S : Nat → Thing} (h : Many w B m S) : Many w B m (withL S m []) := h.congr fun _ hx => (withL_low hx).symm
theorem withL_out {w : World} {B m n : Nat} {S : Nat → Thing} {l : List Thing} (h : Many w B n (withL S m l)) (hn : m ≤ n) : Many w B m S := (h.less hn).congr fun _ hx => withL_low hx
end Go.Proofs.YtdgkhjgnjfgnlaaGreat
