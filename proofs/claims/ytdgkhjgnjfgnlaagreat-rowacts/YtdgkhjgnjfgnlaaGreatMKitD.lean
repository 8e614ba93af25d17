import Derived.OrdersHeld
import Derived.RangeFuncBox
import Derived.RangeFuncCalls
import Derived.OwnWalkIn
import Derived.TacticsInMore
import Derived.Test.YtdgkhjgnjfgnlaaGreatMKitA
namespace Go.Proofs.YtdgkhjgnjfgnlaaGreat
open Go.RowKit
section
variable {P : Program} {ops : Array Oper} {Q : Exit → Act → World → Prop} {md : Region.Mode} {S : World → Prop}
def nthOp : List Oper → Nat → Option Oper
 | [], _ => none
 | o :: _, 0 => some o
 | _ :: l, i + 1 => nthOp l i
theorem nthOp_eq (l : List Oper) (i : Nat) : nthOp l i = l[i]? := by
 induction l generalizing i with
 | nil => rfl
 | cons o l ih => cases i with
  | zero => rfl
  | succ i => exact ih i
theorem ops_at {i : Nat} {o : Oper} (h : nthOp ops.toList i = some o) : ops[i]? = some o := by
 rw [nthOp_eq] at h; simpa using h
def plainOps (ops : Array Oper) : Bool := ops.all fun o => match o.op with | .defer _ => false | _ => true
theorem plainOps_at (h : plainOps ops = true) {i : Nat} {o : Oper} (ho : ops[i]? = some o) (c : Call) : o.op ≠ .defer c := fun e => by
 have := Array.all_eq_true_iff_forall_mem.1 h o (Array.mem_of_getElem? ho)
 simp [e] at this
theorem op_in_round {o : Oper} {a : Act} {w : World} {K : Act → World → Prop} (l n : Nat) (hd : ∀ c, o.op ≠ .defer c) (h : o.wp P a w K Q) : o.wpIn (Fence.wide.inRound l) n P a w K Q := by
 refine ⟨fun _ _ => trivial, ?_⟩
 rw [Oper.semAt_eq _ _ _ hd]
 unfold Oper.wp at h
 generalize (execOp a.eval o).run P w = r at h ⊢
 match r, h with
 | .ok (.value _) _, h => exact h
 | .ok .skip _, h => exact h
 | .ok (.defer _) _, h => exact h
 | .ok (.enter _ _) _, h => exact ⟨fun e => (by cases e), (callsIn_wide.2 h).inRound l⟩
 | .ok (.row _ _) _, h => exact ⟨fun e => (by cases e), fun c cs _ => let ⟨v, w', r, s⟩ := h c cs; ⟨v, w', r, stepsIn_wide.2 s⟩⟩
 | .halt (.panic _) _, h => exact h
theorem any_in_round (l n : Nat) (hd : plainOps ops = true) (hout : ¬ LetsOut Q) : ∀ (fuel : Nat) (listed : Array Bool) (a : Act) (w : World), wpAny P md ops Q fuel listed a w → wpAnyIn (Fence.wide.inRound l) n P md ops Q fuel listed a w
 | 0, _, _, _, h => h
 | fuel + 1, listed, a, w, h => by
  refine ⟨h.1, fun i hi => ?_⟩
  have hi' := h.2 i hi
  unfold wpOp at hi'
  unfold wpOpIn
  cases ho : ops[i]? with
  | none => rw [ho] at hi'; exact any_in_round l n hd hout fuel _ _ _ hi'
  | some o =>
   rw [ho] at hi'
   dsimp only at hi' ⊢
   by_cases hw : Region.wanted o (yielded ops a.tmps) = true
   ·rw [if_pos hw] at hi' ⊢
    rcases hi' with h1 | ⟨_, h2⟩
    ·exact Oper.wpIn_mono (fun a w h => any_in_round l n hd hout fuel _ a w h) (op_in_round l n (plainOps_at hd ho) h1)
    ·exact absurd h2 hout
   ·rw [if_neg hw] at hi' ⊢
    exact ⟨fun _ _ => trivial, any_in_round l n hd hout fuel _ _ _ hi'⟩
theorem region_in_round (S : World → Prop) {l n id : Nat} {a : Act} {w : World} (hm : P.follows .mixedOrders = true) (hd : plainOps ops = true) (hout : ¬ LetsOut Q)
  (h : wpAnyH P .any ops Q S ops.size (Array.replicate ops.size false) a w.drew) : (Code.region id ops true).wpIn (Fence.wide.inRound l) n P Q a w :=
 wpIn_region_any hm (any_in_round l n hd hout _ _ _ _ (wpAny_of_held _ _ _ _ h))
theorem held_quiet (i : Nat) {oi : Oper} {v : Value} {fuel : Nat} {listed : Array Bool} {a : Act} {w : World} (hi : nthOp ops.toList i = some oi)
  (hc : (Region.noSelect ops && Region.free md ops listed i && (Region.ready md ops listed).contains i) = true)
  (hQ : ∀ c a w, Q (.panic c) (a.put oi.dst v) w → Q (.panic c) a w) (hS : S w) (hw : Region.wanted oi (yielded ops a.tmps) = true)
  (hy : ∀ w, S w → (execOp a.eval oi).run P w = .ok (.value v) w)
  (h : wpAnyH P md ops Q S fuel (listed.setIfInBounds i true) (a.put oi.dst v) w) : wpAnyH P md ops Q S (fuel + 1) listed a w := by
 rw [Bool.and_eq_true, Bool.and_eq_true] at hc
 exact wpAnyH_take (ops_at hi) hc.1.1 hc.1.2 hc.2 hQ (.inl ⟨hw, hy⟩) hS h
theorem held_op (i : Nat) {oi : Oper} {a : Act} {w : World} {K : Act → World → Prop} (hi : nthOp ops.toList i = some oi) (h : wpList P ops (Exit.then K Q) [oi] a w) : wpOp P ops Q i K a w := by
 unfold wpList at h
 unfold wpOp
 rw [ops_at hi]
 dsimp only
 by_cases hw : Region.wanted oi (yielded ops a.tmps) = true
 ·rw [if_pos hw] at h ⊢
  refine h.imp (fun h => ?_) id
  unfold Oper.wp at h ⊢
  generalize (execOp a.eval oi).run P w = r at h ⊢
  match r, h with
  | .ok (.value _) _, h => exact h
  | .ok .skip _, h => exact h
  | .ok (.defer _) _, h => exact h
  | .ok (.enter _ _) _, h => exact h.mono fun e _ he => by cases e <;> exact he
  | .ok (.row _ _) _, h => exact h.mono fun _ _ he => he
  | .halt (.panic _) _, h => exact h
 ·rw [if_neg hw] at h ⊢
  exact h
theorem held_one (i : Nat) {oi : Oper} {fuel : Nat} {listed : Array Bool} {a : Act} {w : World} (hi : nthOp ops.toList i = some oi) (hr : Region.ready md ops listed = [i])
  (h : wpList P ops (Exit.then (fun a' w' => S w' ∧ wpAnyH P md ops Q S fuel (listed.setIfInBounds i true) a' w') Q) [oi] a w) : wpAnyH P md ops Q S (fuel + 1) listed a w :=
 wpAnyH_all hr (by simp) fun j hj => by
  obtain rfl : j = i := by simpa using hj
  exact held_op j hi h
theorem held_two (i j : Nat) {oi oj : Oper} {fuel : Nat} {listed : Array Bool} {a : Act} {w : World} (hi : nthOp ops.toList i = some oi) (hj : nthOp ops.toList j = some oj) (hr : Region.ready md ops listed = [i, j])
  (h1 : wpList P ops (Exit.then (fun a' w' => S w' ∧ wpAnyH P md ops Q S fuel (listed.setIfInBounds i true) a' w') Q) [oi] a w)
  (h2 : wpList P ops (Exit.then (fun a' w' => S w' ∧ wpAnyH P md ops Q S fuel (listed.setIfInBounds j true) a' w') Q) [oj] a w) : wpAnyH P md ops Q S (fuel + 1) listed a w :=
 wpAnyH_all hr (by simp) fun k hk => by
  rcases (by simpa using hk : k = i ∨ k = j) with rfl | rfl
  ·exact held_op k hi h1
  ·exact held_op k hj h2
theorem held_done {fuel : Nat} {listed : Array Bool} {a : Act} {w : World} (hr : Region.ready md ops listed = []) (h : Q .normal a w) : wpAnyH P md ops Q S fuel listed a w := wpAnyH_done hr h fuel
end
theorem rowV_own {β : Type} (g n : Nat) (f : β → Nat → Value) : Own (fun s W => rowV W g n (f s) ∧ g < W.heap.size) := by
 rintro s A B row ⟨h, hlt⟩ hg hrow
 refine ⟨fun j hj => ?_, Nat.lt_of_lt_of_le hlt hg.size⟩
 obtain ⟨h1, h2⟩ := h j hj
 exact ⟨cell_kept h1 hg hrow, (frozen_kept h1 hg hrow).trans h2⟩
theorem grownBy_setCellAt (W : World) (b i : Nat) (v : Value) : W.grownBy (W.setCell ⟨b, i, none⟩ v) (some b) :=
 ⟨rfl, rfl, rfl, (KeepsWalks.setCell W _ v).size, fun k _ hk => Below.heap_setCell _ _ _ k (fun e => hk (by rw [e]))⟩
theorem boxed_setOther {W : World} {B : Nat} {t : TypeId} {v : Value} (h : Boxed W B t v) (b i : Nat) (u : Value) (hne : B ≠ b) : Boxed (W.setCell ⟨b, i, none⟩ u) B t v :=
 h.kept (grownBy_setCellAt W b i u) (fun e => hne (by injection e))
theorem below_append {W w1 : World} {base e size : Nat} {v : Value} {k : Nat} {xs : List Value} {tmp : Obj} (hrow : W.ownsRow base e size v k xs) (hn : base ≤ W.heap.size) (hgrow : (W.alloc tmp).grownBy w1 v.ownBlock) : Below base W w1 :=
 ((Below.refl base W).alloc hn tmp).grown hgrow (by simp; omega) fun j ej => (hrow.lt j ej).1
end Go.Proofs.YtdgkhjgnjfgnlaaGreat
namespace Go.Proofs.YtdgkhjgnjfgnlaaGreat
open Go.RowKit
section
variable {P : Program} {ops : Array Oper} {Q : Exit → Act → World → Prop} {md : Region.Mode} {S : World → Prop}
def DoesIf (P : Program) (ops : Array Oper) (S : World → Prop) (o : Oper) (v : Value) (a : Act) : Prop :=
 (Region.wanted o (yielded ops a.tmps) = true ∧ ∀ w, S w →
  (∃ w', (execOp a.eval o).run P w = .ok (.value v) w' ∧ S w') ∨
  (∃ f args w', (execOp a.eval o).run P w = .ok (.enter f args) w' ∧ Calls P f args w' fun e w'' => e = .returned v ∧ S w'')) ∨
 (Region.wanted o (yielded ops a.tmps) = false ∧ v = undef)
theorem DoesIf.of_same {o : Oper} {v : Value} {a a' : Act} (hy : DoesIf P ops S o v a) (he : execOp a'.eval o = execOp a.eval o)
  (hw : Region.wanted o (yielded ops a'.tmps) = Region.wanted o (yielded ops a.tmps)) : DoesIf P ops S o v a' := by
 unfold DoesIf at *
 rw [he, hw]
 exact hy
theorem DoesIf.wpOp {i : Nat} {o : Oper} {v : Value} {a : Act} (hi : ops[i]? = some o) (hy : DoesIf P ops S o v a)
  {K : Act → World → Prop} {w : World} (hS : S w) (h : ∀ w', S w' → K (a.put o.dst v) w') : wpOp P ops Q i K a w := by
 unfold Go.wpOp
 simp only [hi]
 rcases hy with ⟨hw, hv⟩ | ⟨hw, rfl⟩
 ·simp only [hw, if_true]
  refine .inl ?_
  unfold Oper.wp
  rcases hv w hS with ⟨w', e, hS'⟩ | ⟨f, args, w', e, hc⟩
  ·rw [e]; exact h _ hS'
  ·rw [e]
   refine Calls.mono hc ?_
   rintro e w'' ⟨rfl, hS'⟩
   exact h _ hS'
 ·simp only [hw, Bool.false_eq_true, if_false]; exact h _ hS
def detAny (P : Program) (md : Region.Mode) (ops : Array Oper) (Q : Exit → Act → World → Prop) (S : World → Prop) : Nat → Array Bool → Act → Prop
 | 0, listed, a => Region.ready md ops listed = [] ∧ ∀ w, S w → Q .normal a w
 | fuel + 1, listed, a => (Region.ready md ops listed = [] ∧ ∀ w, S w → Q .normal a w) ∨
  ∃ i oi v, ops[i]? = some oi ∧ i ∈ Region.ready md ops listed ∧
   (∀ j oj, ops[j]? = some oj → j ≠ i → listed.getD j true = false → (∀ e ∈ oj.after, Region.binds md e = true → e.on ≠ i) → oi.apart ops oj = true) ∧
   DoesIf P ops S oi v a ∧ detAny P md ops Q S fuel (listed.setIfInBounds i true) (a.put oi.dst v)
theorem detAny_swap (hsel : ∀ (j : Nat) (o : Oper) cs b, ops[j]? = some o → o.op ≠ .select cs b) : ∀ (n : Nat) (listed : Array Bool) (a : Act) (j : Nat), detAny P md ops Q S (n + 1) listed a → j ∈ Region.ready md ops listed →
  ∃ oj v, ops[j]? = some oj ∧ DoesIf P ops S oj v a ∧ detAny P md ops Q S n (listed.setIfInBounds j true) (a.put oj.dst v) := by
 intro n
 induction n with
 | zero =>
  intro listed a j h hj
  rcases h with ⟨h, _⟩ | ⟨i, oi, v, hi, hr, hfree, hy, hn⟩
  ·rw [h] at hj; cases hj
  ·by_cases hji : j = i
   ·subst hji; exact ⟨oi, v, hi, hy, hn⟩
   ·have := ready_mono hj hji
    rw [hn.1] at this; cases this
 | succ n ih =>
  intro listed a j h hj
  rcases h with ⟨h, _⟩ | ⟨i, oi, v, hi, hr, hfree, hy, hn⟩
  ·rw [h] at hj; cases hj
  ·by_cases hji : j = i
   ·subst hji; exact ⟨oi, v, hi, hy, hn⟩
   ·obtain ⟨oj, u, hoj, hyj, hnj⟩ := ih (listed.setIfInBounds i true) (a.put oi.dst v) j hn (ready_mono hj hji)
    obtain ⟨hjun, oj', hoj', hall⟩ := mem_ready.1 hj
    obtain rfl : oj = oj' := by rw [hoj] at hoj'; exact Option.some.inj hoj'
    have hnot : ∀ e ∈ oj.after, Region.binds md e = true → e.on ≠ i := fun e he hb heq => by
     have h1 := hall e he hb
     have h0 := (mem_ready.1 hr).1
     rw [heq] at h1
     rcases Nat.lt_or_ge i listed.size with h' | h'
     ·simp [h'] at h0 h1; rw [h0] at h1; cases h1
     ·simp [Array.getElem?_eq_none h'] at h1
    obtain ⟨h1, h2, h3⟩ := Oper.apart_spec (hfree j oj hoj hji hjun hnot)
    have sj := fun cs b => hsel j oj cs b hoj
    have si := fun cs b => hsel i oi cs b hi
    have hyj' : DoesIf P ops S oj u a := hyj.of_same (execOp_put oj sj a oi.dst v h1).symm (wanted_put oj a oi.dst v h1).symm
    have hyi' : DoesIf P ops S oi v (a.put oj.dst u) := hy.of_same (execOp_put oi si a oj.dst u h3) (wanted_put oi a oj.dst u h3)
    refine ⟨oj, u, hoj, hyj', .inr ⟨i, oi, v, hi, ready_mono hr (Ne.symm hji), fun k ok hk hki hun hno => ?_, hyi', ?_⟩⟩
    ·refine hfree k ok hk hki ?_ hno
     by_cases hjk : j = k
     ·subst hjk; exact hjun
     ·rw [getD_set_ne true hjk] at hun; exact hun
    ·rw [Array.setIfInBounds_comm _ _ hji, ← Act.put_comm a v u h2]
     exact hnj
theorem wpAnyH_of_det (hs : Region.noSelect ops = true) : ∀ (fuel : Nat) (listed : Array Bool) (a : Act), detAny P md ops Q S fuel listed a → ∀ w, S w → wpAnyH P md ops Q S fuel listed a w
 | 0, _, _, h, w, hS => ⟨h.1, h.2 w hS⟩
 | fuel + 1, listed, a, h, w, hS => by
  refine ⟨fun hr => ?_, fun j hj => ?_⟩
  ·rcases h with ⟨_, hq⟩ | ⟨i, oi, v, hi, hr', _⟩
   ·exact hq w hS
   ·rw [hr] at hr'; cases hr'
  ·obtain ⟨oj, v, hoj, hy, hn⟩ := detAny_swap (Region.noSelect_spec hs) fuel listed a j h hj
   exact hy.wpOp hoj hS fun w' hS' => ⟨hS', wpAnyH_of_det hs fuel _ _ hn w' hS'⟩
theorem det_read (i : Nat) {oi : Oper} {v : Value} {fuel : Nat} {listed : Array Bool} {a : Act} (hi : nthOp ops.toList i = some oi)
  (hc : (Region.free md ops listed i && (Region.ready md ops listed).contains i) = true) (hw : Region.wanted oi (yielded ops a.tmps) = true)
  (hy : ∀ w, S w → (execOp a.eval oi).run P w = .ok (.value v) w)
  (h : detAny P md ops Q S fuel (listed.setIfInBounds i true) (a.put oi.dst v)) : detAny P md ops Q S (fuel + 1) listed a := by
 rw [Bool.and_eq_true] at hc
 exact .inr ⟨i, oi, v, ops_at hi, by simpa using hc.2, Region.free_spec (ops_at hi) hc.1, .inl ⟨hw, fun w hS => .inl ⟨w, hy w hS, hS⟩⟩, h⟩
theorem det_call (i : Nat) {oi : Oper} {v : Value} {fuel : Nat} {listed : Array Bool} {a : Act} {f : FuncId} {args : Array Value} (hi : nthOp ops.toList i = some oi)
  (hc : (Region.free md ops listed i && (Region.ready md ops listed).contains i) = true) (hw : Region.wanted oi (yielded ops a.tmps) = true)
  (hy : ∀ w, S w → (execOp a.eval oi).run P w = .ok (.enter f args) w) (hcall : ∀ w, S w → Calls P f args w fun e w' => e = .returned v ∧ S w')
  (h : detAny P md ops Q S fuel (listed.setIfInBounds i true) (a.put oi.dst v)) : detAny P md ops Q S (fuel + 1) listed a := by
 rw [Bool.and_eq_true] at hc
 exact .inr ⟨i, oi, v, ops_at hi, by simpa using hc.2, Region.free_spec (ops_at hi) hc.1, .inl ⟨hw, fun w hS => .inr ⟨f, args, w, hy w hS, hcall w hS⟩⟩, h⟩
theorem det_skip (i : Nat) {oi : Oper} {fuel : Nat} {listed : Array Bool} {a : Act} (hi : nthOp ops.toList i = some oi)
  (hc : (Region.free md ops listed i && (Region.ready md ops listed).contains i) = true) (hw : Region.wanted oi (yielded ops a.tmps) = false)
  (h : detAny P md ops Q S fuel (listed.setIfInBounds i true) (a.put oi.dst undef)) : detAny P md ops Q S (fuel + 1) listed a := by
 rw [Bool.and_eq_true] at hc
 exact .inr ⟨i, oi, undef, ops_at hi, by simpa using hc.2, Region.free_spec (ops_at hi) hc.1, .inr ⟨hw, rfl⟩, h⟩
theorem det_done {fuel : Nat} {listed : Array Bool} {a : Act} (hr : Region.ready md ops listed = []) (h : ∀ w, S w → Q .normal a w) : detAny P md ops Q S fuel listed a := by
 cases fuel with
 | zero => exact ⟨hr, h⟩
 | succ n => exact .inl ⟨hr, h⟩
theorem region_det (S : World → Prop) {id : Nat} {a : Act} {w : World} (hm : P.follows .mixedOrders = true) (hs : Region.noSelect ops = true) (hS : S w.drew)
  (h : detAny P .any ops Q S ops.size (Array.replicate ops.size false) a) : (Code.region id ops true).wp P Q a w :=
 wp_region_held hm (wpAnyH_of_det hs _ _ _ h _ hS)
end
end Go.Proofs.YtdgkhjgnjfgnlaaGreat
