/- Several texts in one. Two drives, each with a ring over it or none, and a call's cells, in one memory: what is done with one leaves the others. The calls of the law RingActs, on both drives in one memory. The rings' calls of the law RingActs, on both drives in one memory. -/
import Derived.Test.YtjmeiifogblmoaaGreatDoorMRiB
import Derived.Test.YtjmeiifogblmoaaGreatDoorMKitB
import Derived.Test.YtjmeiifogblmoaaGreatDoorMRefI
namespace Go.Proofs.YtjmeiifogblmoaaGreatDoor
open Go.RowKit

/-- a ring of the program's, or none -/
def PIs (X : RingSays) (w : World) (dp : Nat) (H : Nat → Prop) : Option (Nat × Nat × Nat) → Prop
  | none => True
  | some (rp, t, c) => X.RAt w rp dp t c H
/-- a ring of the document's, or none -/
def RIs (w : World) (kp : Nat) (J : Nat → Prop) : Option (Nat × Nat × Nat) → Prop
  | none => True
  | some (sp, t, c) => RRing w sp kp t c ∧ J sp
section
variable {X : RingSays} {w w' : World} {dp kp : Nat} {H J G : Nat → Prop} {o : Option (Nat × Nat × Nat)}
theorem PIs.only (h : PIs X w dp H o) (ho : Only G w w') (hn : ∀ k, k < w.heap.size → H k → ¬ G k) : PIs X w' dp H o := by
  match o, h with
  | none, _ => trivial
  | some (rp, t, c), h => exact X.only h ho hn
theorem PIs.mono (h : PIs X w dp H o) (hs : ∀ k, H k → J k) : PIs X w dp J o := by
  match o, h with
  | none, _ => trivial
  | some (rp, t, c), h => exact X.mono h hs
theorem PIs.tight (h : PIs X w dp H o) : PIs X w dp (fun k => H k ∧ k < w.heap.size) o := by
  match o, h with
  | none, _ => trivial
  | some (rp, t, c), h => exact X.tight h
theorem RIs.only (h : RIs w kp H o) (ho : Only G w w') (hn : ∀ k, k < w.heap.size → H k → ¬ G k) : RIs w' kp H o := by
  match o, h with
  | none, _ => trivial
  | some (rp, t, c), h => exact ⟨h.1.only ho (hn rp h.1.lt h.2), h.2⟩
theorem RIs.mono (h : RIs w kp H o) (hs : ∀ k, H k → J k) : RIs w kp J o := by
  match o, h with
  | none, _ => trivial
  | some (rp, t, c), h => exact ⟨h.1, hs _ h.2⟩
theorem RIs.tight (h : RIs w kp H o) : RIs w kp (fun k => H k ∧ k < w.heap.size) o := by
  match o, h with
  | none, _ => trivial
  | some (rp, t, c), h => exact ⟨h.1, h.2, h.1.lt⟩
end
/-- the program's drive and its ring -/
def PT (X : RingSays) (dp : Nat) (D : Dr) (o : Option (Nat × Nat × Nat)) : Thing where
  is w G := ∃ F H : Nat → Prop, DriveAt w dp D F ∧ PIs X w dp H o ∧ (∀ k, F k → ¬ H k) ∧ (∀ k, F k → G k) ∧ ∀ k, H k → G k
  only := fun ⟨F, H, h1, h2, h3, h4, h5⟩ ho hn => ⟨F, H, h1.only ho (fun k hk hf => hn k hk (h4 k hf)), h2.only ho (fun k hk hf => hn k hk (h5 k hf)), h3, h4, h5⟩
  mono := fun ⟨F, H, h1, h2, h3, h4, h5⟩ hs => ⟨F, H, h1, h2, h3, fun k hk => hs k (h4 k hk), fun k hk => hs k (h5 k hk)⟩
  tight := fun {w _} ⟨F, H, h1, h2, h3, h4, h5⟩ => ⟨fun k => F k ∧ k < w.heap.size, fun k => H k ∧ k < w.heap.size, h1.tight, h2.tight, fun k hk hh => h3 k hk.1 hh.1, fun k hk => ⟨h4 k hk.1, hk.2⟩, fun k hk => ⟨h5 k hk.1, hk.2⟩⟩
/-- the document's drive and its ring -/
def RT (kp : Nat) (D : Dr) (o : Option (Nat × Nat × Nat)) : Thing where
  is w G := ∃ F H : Nat → Prop, RefAt w kp D F ∧ RIs w kp H o ∧ (∀ k, F k → ¬ H k) ∧ (∀ k, F k → G k) ∧ ∀ k, H k → G k
  only := fun ⟨F, H, h1, h2, h3, h4, h5⟩ ho hn => ⟨F, H, h1.only ho (fun k hk hf => hn k hk (h4 k hf)), h2.only ho (fun k hk hf => hn k hk (h5 k hf)), h3, h4, h5⟩
  mono := fun ⟨F, H, h1, h2, h3, h4, h5⟩ hs => ⟨F, H, h1, h2, h3, fun k hk => hs k (h4 k hk), fun k hk => hs k (h5 k hk)⟩
  tight := fun {w _} ⟨F, H, h1, h2, h3, h4, h5⟩ => ⟨fun k => F k ∧ k < w.heap.size, fun k => H k ∧ k < w.heap.size, h1.tight, h2.tight, fun k hk hh => h3 k hk.1 hh.1, fun k hk => ⟨h4 k hk.1, hk.2⟩, fun k hk => ⟨h5 k hk.1, hk.2⟩⟩
/-- where they stand, and what they hold -/
def tb13 (X : RingSays) (dp kp : Nat) (D E : Dr) (po ro : Option (Nat × Nat × Nat)) (A : Nat) (cs : Array Value) : Nat → Thing := fun x => if x = 0 then PT X dp D po else if x = 1 then RT kp E ro else blkT A 46 cs
def Two (X : RingSays) (w : World) (B m dp kp : Nat) (D E : Dr) (po ro : Option (Nat × Nat × Nat)) (A : Nat) (cs : Array Value) : Prop := Many w B m (tb13 X dp kp D E po ro A cs)
section
variable {X : RingSays} {w w0 w' : World} {B m dp kp A : Nat} {D E : Dr} {po ro : Option (Nat × Nat × Nat)} {cs : Array Value}
theorem tb13_0 (P : Option (Nat × Nat × Nat)) (D' : Dr) : swap1 (tb13 X dp kp D E po ro A cs) 0 (PT X dp D' P) = tb13 X dp kp D' E P ro A cs := by
  funext x
  by_cases h : x = 0
  · subst h; rw [swap1_same]; rfl
  · rw [swap1_other _ _ h]; unfold tb13; rw [if_neg h, if_neg h]
theorem tb13_1 (P : Option (Nat × Nat × Nat)) (E' : Dr) : swap1 (tb13 X dp kp D E po ro A cs) 1 (RT kp E' P) = tb13 X dp kp D E' po P A cs := by
  funext x
  by_cases h : x = 1
  · subst h; rw [swap1_same]; rfl
  · rw [swap1_other _ _ h]
    unfold tb13
    by_cases h0 : x = 0
    · rw [if_pos h0, if_pos h0]
    · rw [if_neg h0, if_neg h0, if_neg h, if_neg h]
theorem Two.below (h : Two X w B m dp kp D E po ro A cs) (hb : Below w.heap.size w w') : Two X w' B m dp kp D E po ro A cs := Many.below h hb
theorem Two.size (h : Two X w B m dp kp D E po ro A cs) : B ≤ w.heap.size := Many.size h
theorem Two.atA (h : Two X w B 3 dp kp D E po ro A cs) (j : Nat) : w.cell? ⟨A, j, none⟩ = cs[j]? := by
  obtain ⟨F, hF, _⟩ := Many.look h (i := 2) (by decide)
  exact blk_cell (t := 46) hF j
theorem Two.act (h : Two X w B 2 dp kp D E po ro A cs) (cs' : Array Value) : Two X (w.alloc (.cells cs' 46)) B 3 dp kp D E po ro w.heap.size cs' := by
  refine (Many.add h (T' := blkT w.heap.size 46 cs') (G := fun k => w.heap.size ≤ k) ((Below.refl _ w).alloc (Nat.le_refl _) _) (blk_new _ _ _) (fun _ hk => hk)).congr fun i hi => ?_
  by_cases e1 : i = 2
  · subst e1; rw [swap1_same]; rfl
  · rw [swap1_other _ _ e1]
    unfold tb13
    by_cases h0 : i = 0
    · rw [if_pos h0, if_pos h0]
    · have h1 : i = 1 := by omega
      rw [if_neg h0, if_neg h0, if_pos h1, if_pos h1]
theorem Two.left (h : Two X w B 3 dp kp D E po ro A cs) (A' : Nat) (cs' : Array Value) : Two X w B 2 dp kp D E po ro A' cs' := by
  refine (Many.less h (by omega)).congr fun i hi => ?_
  unfold tb13
  by_cases h0 : i = 0
  · rw [if_pos h0, if_pos h0]
  · have h1 : i = 1 := by omega
    rw [if_neg h0, if_neg h0, if_pos h1, if_pos h1]
/-- the thing i is called, a while behind the place where all was seen to stand -/
theorem many_callB {T : Nat → Thing} (h : Many w0 B m T) (hb : Below w0.heap.size w0 w) {i : Nat} (hi : i < m) (T' : Thing) {f : FuncId} {args : Array Value} {Q : Ending → World → Prop}
    (hc : ∀ F, (T i).is w F → (∀ k, F k → B ≤ k ∧ k < w0.heap.size) → Calls Tryz.prog f args w fun e w' => Q e w' ∧ T'.is w' (Plus F w.heap.size) ∧ Only F w w') :
    Calls Tryz.prog f args w fun e w' => Q e w' ∧ Many w' B m (swap1 T i T') ∧ Only (fun k => B ≤ k ∧ k < w0.heap.size) w w' := by
  obtain ⟨F, h1, h2, h3, h4⟩ := h
  refine (hc (F i) ((T i).below (h1 i hi) hb) (h2 i hi)).mono fun e w' ⟨q, ht, ho⟩ => ⟨q, (Many.turned hi (fun j hj => (T j).below (h1 j hj) hb) (fun j hj k hk => ⟨(h2 j hj k hk).1, Nat.lt_of_lt_of_le (h2 j hj k hk).2 hb.size⟩) h3 (Nat.le_trans h4 hb.size) ht ho).1, ho.mono (h2 i hi)⟩
theorem Two.pdrive (h : Two X w0 B m dp kp D E po ro A cs) (hb : Below w0.heap.size w0 w) (hm : 0 < m) {f : FuncId} {args : Array Value} (D' : Dr) {Q : Ending → World → Prop}
    (hc : ∀ F, DriveAt w dp D F → (∀ k, F k → B ≤ k ∧ k < w0.heap.size) → Calls Tryz.prog f args w fun e w' => Q e w' ∧ DriveAt w' dp D' (Plus F w.heap.size) ∧ Only F w w') :
    Calls Tryz.prog f args w fun e w' => Q e w' ∧ Two X w' B m dp kp D' E po ro A cs ∧ Only (fun k => B ≤ k ∧ k < w0.heap.size) w w' := by
  refine (many_callB h hb hm (PT X dp D' po) (Q := Q) (fun G hG hGl => ?_)).mono fun e w' ⟨q, hm, ho⟩ => ⟨q, by rw [tb13_0] at hm; exact hm, ho⟩
  obtain ⟨F, H, h1, h2, h3, h4, h5⟩ := hG
  refine (hc F h1 (fun k hk => hGl k (h4 k hk))).mono fun e w' ⟨q, hd, ho⟩ => ⟨q, ⟨Plus F w.heap.size, fun k => H k ∧ k < w.heap.size, hd, h2.tight.only ho (fun k _ hk hf => h3 k hf hk.1), fun k hk hh => hk.elim (fun x => h3 k x hh.1) (fun x => by have := hh.2; omega), fun k hk => hk.imp (h4 k) id, fun k hk => .inl (h5 k hk.1)⟩, ho.mono h4⟩
theorem Two.rdrive (h : Two X w0 B m dp kp D E po ro A cs) (hb : Below w0.heap.size w0 w) (hm : 1 < m) {f : FuncId} {args : Array Value} (E' : Dr) {Q : Ending → World → Prop}
    (hc : ∀ F, RefAt w kp E F → (∀ k, F k → B ≤ k ∧ k < w0.heap.size) → Calls Tryz.prog f args w fun e w' => Q e w' ∧ RefAt w' kp E' (Plus F w.heap.size) ∧ Only F w w') :
    Calls Tryz.prog f args w fun e w' => Q e w' ∧ Two X w' B m dp kp D E' po ro A cs ∧ Only (fun k => B ≤ k ∧ k < w0.heap.size) w w' := by
  refine (many_callB h hb hm (RT kp E' ro) (Q := Q) (fun G hG hGl => ?_)).mono fun e w' ⟨q, hm, ho⟩ => ⟨q, by rw [tb13_1] at hm; exact hm, ho⟩
  obtain ⟨F, H, h1, h2, h3, h4, h5⟩ := hG
  refine (hc F h1 (fun k hk => hGl k (h4 k hk))).mono fun e w' ⟨q, hd, ho⟩ => ⟨q, ⟨Plus F w.heap.size, fun k => H k ∧ k < w.heap.size, hd, h2.tight.only ho (fun k _ hk hf => h3 k hf hk.1), fun k hk hh => hk.elim (fun x => h3 k x hh.1) (fun x => by have := hh.2; omega), fun k hk => hk.imp (h4 k) id, fun k hk => .inl (h5 k hk.1)⟩, ho.mono h4⟩
theorem Two.pring {rp t c t' c' : Nat} (h : Two X w0 B m dp kp D E (some (rp, t, c)) ro A cs) (hb : Below w0.heap.size w0 w) (hm : 0 < m) {f : FuncId} {args : Array Value} (D' : Dr) {Q : Ending → World → Prop}
    (hc : ∀ F H, DriveAt w dp D F → X.RAt w rp dp t c H → (∀ k, F k → ¬ H k) → (∀ k, F k ∨ H k → B ≤ k ∧ k < w0.heap.size) → Calls Tryz.prog f args w fun e w' => Q e w' ∧ DriveAt w' dp D' (Plus F w.heap.size) ∧ X.RAt w' rp dp t' c' H ∧ Only (fun k => F k ∨ H k) w w') :
    Calls Tryz.prog f args w fun e w' => Q e w' ∧ Two X w' B m dp kp D' E (some (rp, t', c')) ro A cs ∧ Only (fun k => B ≤ k ∧ k < w0.heap.size) w w' := by
  refine (many_callB h hb hm (PT X dp D' (some (rp, t', c'))) (Q := Q) (fun G hG hGl => ?_)).mono fun e w' ⟨q, hm, ho⟩ => ⟨q, by rw [tb13_0] at hm; exact hm, ho⟩
  obtain ⟨F, H, h1, h2, h3, h4, h5⟩ := hG
  refine (hc F H h1 h2 h3 (fun k hk => hGl k (hk.elim (h4 k) (h5 k)))).mono fun e w' ⟨q, hd, hr, ho⟩ => ⟨q, ⟨Plus F w.heap.size, H, hd, hr, fun k hk hh => hk.elim (fun x => h3 k x hh) (fun x => by have := hGl k (h5 k hh); have := hb.size; omega), fun k hk => hk.imp (h4 k) id, fun k hk => .inl (h5 k hk)⟩, ho.mono fun k hk => hk.elim (h4 k) (h5 k)⟩
theorem Two.rring {sp t c t' c' : Nat} (h : Two X w0 B m dp kp D E po (some (sp, t, c)) A cs) (hb : Below w0.heap.size w0 w) (hm : 1 < m) {f : FuncId} {args : Array Value} (E' : Dr) {Q : Ending → World → Prop}
    (hc : ∀ F, RefAt w kp E F → RRing w sp kp t c → ¬ F sp → (∀ k, F k ∨ k = sp → B ≤ k ∧ k < w0.heap.size) → Calls Tryz.prog f args w fun e w' => Q e w' ∧ RefAt w' kp E' (Plus F w.heap.size) ∧ RRing w' sp kp t' c' ∧ Only (fun k => F k ∨ k = sp) w w') :
    Calls Tryz.prog f args w fun e w' => Q e w' ∧ Two X w' B m dp kp D E' po (some (sp, t', c')) A cs ∧ Only (fun k => B ≤ k ∧ k < w0.heap.size) w w' := by
  refine (many_callB h hb hm (RT kp E' (some (sp, t', c'))) (Q := Q) (fun G hG hGl => ?_)).mono fun e w' ⟨q, hm, ho⟩ => ⟨q, by rw [tb13_1] at hm; exact hm, ho⟩
  obtain ⟨F, H, h1, ⟨h2, hs⟩, h3, h4, h5⟩ := hG
  have hns : ¬ F sp := fun e => h3 sp e hs
  have hlt : sp < w.heap.size := h2.lt
  refine (hc F h1 h2 hns (fun k hk => hGl k (hk.elim (h4 k) (fun e => e ▸ h5 sp hs)))).mono fun e w' ⟨q, hd, hr, ho⟩ => ⟨q, ⟨Plus F w.heap.size, fun k => k = sp, hd, ⟨hr, rfl⟩, fun k hk hh => hk.elim (fun x => hns (hh ▸ x)) (fun x => by omega), fun k hk => hk.imp (h4 k) id, fun k hk => .inl (hk ▸ h5 sp hs)⟩, ho.mono fun k hk => hk.elim (h4 k) (fun e => e ▸ h5 sp hs)⟩
/-- another ring of the program's, made anew -/
theorem Two.popen (h : Two X w B m dp kp D E po ro A cs) (hm : 0 < m) (hb : Below w.heap.size w w') {P : Option (Nat × Nat × Nat)} (hr : PIs X w' dp (fun k => w.heap.size ≤ k) P) : Two X w' B m dp kp D E P ro A cs := by
  obtain ⟨F, h1, h2, h3, h4⟩ := h
  have h0 := h1 0 hm
  obtain ⟨F0, H0, a1, a2, a3, a4, a5⟩ := h0
  have := Many.turned hm (fun j hj => (tb13 X dp kp D E po ro A cs j).below (h1 j hj) (Below.refl _ _)) h2 h3 h4 (w' := w') (T' := PT X dp D P) ⟨fun k => F0 k ∧ k < w.heap.size, fun k => w.heap.size ≤ k, a1.tight.below hb, hr, fun k hk hh => by have := hk.2; omega, fun k hk => .inl (a4 k hk.1), fun k hk => .inr hk⟩ (Only.of_below hb _)
  rw [tb13_0] at this
  exact this.1
theorem Two.ropen (h : Two X w B m dp kp D E po ro A cs) (hm : 1 < m) (hb : Below w.heap.size w w') {P : Option (Nat × Nat × Nat)} (hr : RIs w' kp (fun k => w.heap.size ≤ k) P) : Two X w' B m dp kp D E po P A cs := by
  obtain ⟨F, h1, h2, h3, h4⟩ := h
  have h0 := h1 1 hm
  obtain ⟨F0, H0, a1, a2, a3, a4, a5⟩ := h0
  have := Many.turned hm (fun j hj => (tb13 X dp kp D E po ro A cs j).below (h1 j hj) (Below.refl _ _)) h2 h3 h4 (w' := w') (T' := RT kp E P) ⟨fun k => F0 k ∧ k < w.heap.size, fun k => w.heap.size ≤ k, a1.tight.below hb, hr, fun k hk hh => by have := hk.2; omega, fun k hk => .inl (a4 k hk.1), fun k hk => .inr hk⟩ (Only.of_below hb _)
  rw [tb13_1] at this
  exact this.1
/-- what stands is looked at -/
theorem Two.pat (h : Two X w B m dp kp D E po ro A cs) (hm : 0 < m) : ∃ F H, DriveAt w dp D F ∧ PIs X w dp H po := by
  obtain ⟨G, ⟨F, H, h1, h2, _⟩, _⟩ := Many.look h hm
  exact ⟨F, H, h1, h2⟩
theorem Two.rat (h : Two X w B m dp kp D E po ro A cs) (hm : 1 < m) : ∃ F H, RefAt w kp E F ∧ RIs w kp H ro := by
  obtain ⟨G, ⟨F, H, h1, h2, _⟩, _⟩ := Many.look h hm
  exact ⟨F, H, h1, h2⟩
end
end Go.Proofs.YtjmeiifogblmoaaGreatDoor

namespace Go.Proofs.YtjmeiifogblmoaaGreatDoor
open Go.RowKit

namespace Dr
/-- what a write, or a spoiling, at any place makes of a drive -/
def wri (D : Dr) (i : Int) (s : List UInt8) : Nat × Dr := if D.reachE i = 0 then (0, D.put i.toNat s) else (D.reachE i, D)
def spi (D : Dr) (i : Int) : Nat × Dr := if D.reachE i = 0 then (0, D.spoil i.toNat) else (D.reachE i, D)
theorem put_goes (D : Dr) (i : Nat) (s : List UInt8) : (D.put i s).goes = D.goes ∧ (D.put i s).left = D.left ∧ (D.put i s).safe = D.safe := ⟨rfl, rfl, rfl⟩
theorem write_put {D : Dr} (hg : D.goes = false) (i : Nat) (s : List UInt8) : D.write i s = D.put i s := by
  show (D.put i s).spend = D.put i s
  have : (D.put i s).goes = false := hg
  generalize D.put i s = E at *
  cases E; simp only at this; subst this; rfl
theorem flush_left {D : Dr} (hg : D.goes = false) : D.flush.left = D.left := by
  show (D.settle fun _ c => c).spend.left = _
  unfold spend
  show (if D.goes then D.left - 1 else D.left) = D.left
  rw [hg]; rfl
theorem wr1_left {x : Nat × Dr} (hg : x.2.goes = false) (i : Nat) (s : List UInt8) : (wr1 x i s).2.left = x.2.left := by
  unfold wr1
  split
  · split
    · show (x.2.write i s).left = _; rw [write_put hg]; rfl
    · rfl
  · rfl
theorem fl1_left {x : Nat × Dr} (hg : x.2.goes = false) : (fl1 x).2.left = x.2.left := by
  unfold fl1
  split
  · split
    · exact flush_left hg
    · rfl
  · rfl
theorem wrTo_left {x : Nat × Dr} (hg : x.2.goes = false) (p : Nat → Nat) (s : Nat → List UInt8) : ∀ k, (wrTo x p s k).2.left = x.2.left
  | 0 => rfl
  | k + 1 => by
    show (wr1 (wrTo x p s k) (p k) (s k)).2.left = _
    rw [wr1_left (by rw [(wrTo_keeps x p s k).2.2]; exact hg), wrTo_left hg p s k]
end Dr
/-- what holds of the law's drive behind j calls -/
structure Inv13 (D : Dr) (N j : Nat) : Prop where
  goes : D.goes = false
  left : D.left = 0
  len : D.safe.length = N
  few : D.Few (300 * j)
namespace Inv13
section
variable {D : Dr} {N j : Nat}
theorem fresh (N : Nat) : Inv13 (Dr.fresh N) N 0 := ⟨rfl, rfl, List.length_replicate, fun _ => Nat.zero_le _⟩
theorem next (h : Inv13 D N j) : Inv13 D N (j + 1) := ⟨h.goes, h.left, h.len, h.few.mono (by omega)⟩
theorem f9 (h : Inv13 D N j) (hj : j ≤ 1000) : D.Few 900000 := h.few.mono (by omega)
theorem wri (h : Inv13 D N j) (i : Int) (s : List UInt8) : Inv13 (D.wri i s).2 N (j + 1) := by
  unfold Dr.wri
  split
  · exact ⟨h.goes, h.left, h.len, (h.few.put _ _).mono (by omega)⟩
  · exact h.next
theorem spi (h : Inv13 D N j) (i : Int) : Inv13 (D.spi i).2 N (j + 1) := by
  unfold Dr.spi
  split
  · exact ⟨h.goes, h.left, h.len, h.few.mono (by omega)⟩
  · exact h.next
theorem die (h : Inv13 D N j) : Inv13 D.die N (j + 1) := ⟨h.goes, h.left, h.len, h.few.mono (by omega)⟩
theorem crash (h : Inv13 D N j) (keep : List Nat) : Inv13 (D.crash keep) N (j + 1) := ⟨rfl, rfl, (Dr.safeAt_length _ _ _).trans h.len, fun _ => Nat.zero_le _⟩
theorem format (h : Inv13 D N j) (hN : N ≤ 200) : Inv13 (Ri.formatS D).2 N (j + 1) := by
  unfold Ri.formatS
  split
  · exact h.next
  · have hs : Ri.slots D.safe.length ≤ 200 := by rw [h.len]; unfold Ri.slots; omega
    have hw := Dr.wrTo_keeps (0, D) (fun i => 4 + 41 * i) (fun _ => List.replicate 64 0) (Ri.slots D.safe.length)
    have hl := Dr.wrTo_left (x := (0, D)) h.goes (fun i => 4 + 41 * i) (fun _ => List.replicate 64 0) (Ri.slots D.safe.length)
    have hf := Dr.Few.wrTo (x := (0, D)) h.few (fun i => 4 + 41 * i) (fun _ => List.replicate 64 0) (Ri.slots D.safe.length)
    generalize Dr.wrTo (0, D) (fun i => 4 + 41 * i) (fun _ => List.replicate 64 0) (Ri.slots D.safe.length) = x at *
    have hg : x.2.goes = false := hw.2.2.trans h.goes
    obtain ⟨b1, b2, b3⟩ := Dr.wr1_keeps x 3 (Ri.markB 0).data.toList
    have b4 := Dr.wr1_left hg 3 (Ri.markB 0).data.toList
    have b5 := Dr.Few.wr1 hf 3 (Ri.markB 0).data.toList
    generalize Dr.wr1 x 3 (Ri.markB 0).data.toList = y at *
    obtain ⟨c1, c2, c3⟩ := Dr.fl1_keeps y
    exact ⟨c3.trans (b3.trans hg), (Dr.fl1_left (b3.trans hg)).trans (b4.trans (hl.trans h.left)), c1.trans ((congrArg List.length (b1.trans hw.1)).trans h.len), (Dr.Few.fl1 b5).mono (by omega)⟩
theorem trim (h : Inv13 D N j) (t c q : Nat) : Inv13 (Ri.trimS D t c q).2 N (j + 1) := by
  unfold Ri.trimS
  split
  · obtain ⟨b1, b2, b3⟩ := Dr.wr1_keeps (0, D) 3 (Ri.markB q).data.toList
    have b4 := Dr.wr1_left (x := (0, D)) h.goes 3 (Ri.markB q).data.toList
    have b5 := Dr.Few.wr1 (x := (0, D)) h.few 3 (Ri.markB q).data.toList
    generalize Dr.wr1 (0, D) 3 (Ri.markB q).data.toList = y at *
    obtain ⟨c1, c2, c3⟩ := Dr.fl1_keeps y
    exact ⟨c3.trans (b3.trans h.goes), (Dr.fl1_left (b3.trans h.goes)).trans (b4.trans h.left), c1.trans ((congrArg List.length b1).trans h.len), (Dr.Few.fl1 b5).mono (by omega)⟩
  · exact h.next
theorem append (h : Inv13 D N j) (t c : Nat) (row : Int) (n : Nat) (f : Nat → Prt) : Inv13 (Ri.appS D t c row n f).2 N (j + 1) := by
  unfold Ri.appS
  split
  · exact h.next
  · split
    · rename_i hm
      have hn : n ≤ 40 := ((Rc.few_iff _ _).1 ((Rc.places_iff _ _ _).1 ((Rc.may_iff _ _ _).1 hm).2).1).2.2.2
      unfold Ri.putS
      have hw := Dr.wrTo_keeps (0, D) (fun q => Ri.first D.safe.length (Ri.nth t (c + 1)) + 1 + q) (fun q => (f q).data.data.toList) n
      have hl := Dr.wrTo_left (x := (0, D)) h.goes (fun q => Ri.first D.safe.length (Ri.nth t (c + 1)) + 1 + q) (fun q => (f q).data.data.toList) n
      have hf := Dr.Few.wrTo (x := (0, D)) h.few (fun q => Ri.first D.safe.length (Ri.nth t (c + 1)) + 1 + q) (fun q => (f q).data.data.toList) n
      generalize Dr.wrTo (0, D) (fun q => Ri.first D.safe.length (Ri.nth t (c + 1)) + 1 + q) (fun q => (f q).data.data.toList) n = x at *
      have hg : x.2.goes = false := hw.2.2.trans h.goes
      obtain ⟨a1, a2, a3⟩ := Dr.fl1_keeps x
      have a4 := Dr.fl1_left hg
      have a5 := Dr.Few.fl1 hf
      generalize Dr.fl1 x = x2 at *
      have hg2 : x2.2.goes = false := a3.trans hg
      obtain ⟨b1, b2, b3⟩ := Dr.wr1_keeps x2 (Ri.first D.safe.length (Ri.nth t (c + 1))) (Rc.headS (Ri.nth t (c + 1)) row n f (Rc.sumF n f)).data.toList
      have b4 := Dr.wr1_left hg2 (Ri.first D.safe.length (Ri.nth t (c + 1))) (Rc.headS (Ri.nth t (c + 1)) row n f (Rc.sumF n f)).data.toList
      have b5 := Dr.Few.wr1 a5 (Ri.first D.safe.length (Ri.nth t (c + 1))) (Rc.headS (Ri.nth t (c + 1)) row n f (Rc.sumF n f)).data.toList
      generalize Dr.wr1 x2 (Ri.first D.safe.length (Ri.nth t (c + 1))) (Rc.headS (Ri.nth t (c + 1)) row n f (Rc.sumF n f)).data.toList = y at *
      obtain ⟨c1, c2, c3⟩ := Dr.fl1_keeps y
      exact ⟨c3.trans (b3.trans hg2), (Dr.fl1_left (b3.trans hg2)).trans (b4.trans (a4.trans (hl.trans h.left))), c1.trans ((congrArg List.length b1).trans (a1.trans ((congrArg List.length hw.1).trans h.len))), (Dr.Few.fl1 b5).mono (by omega)⟩
    · exact h.next
end
end Inv13
/-- a ring's numbers fit its drive -/
def RgOk (N t c : Nat) : Prop := t < 18446744073709551616 ∧ c ≤ Ri.slots N ∧ 0 < Ri.slots N
theorem RgOk.opened {D : Dr} {N : Nat} (hl : D.safe.length = N) (h : Ri.openE D = 0) : RgOk N (Ri.openT D) (Ri.openC D) := by
  refine ⟨by unfold Ri.openT Ri.told; exact Pg.dec8_lt _, by rw [← hl]; unfold Ri.openC; exact Ri.cnt_le _ _ _, ?_⟩
  unfold Ri.openE at h
  split at h
  · split at h
    · rename_i hh; rw [← hl]; exact hh.2
    · cases h
  · contradiction
theorem RgOk.app {D : Dr} {N t c : Nat} (hl : D.safe.length = N) (h : RgOk N t c) (row : Int) (n : Nat) (f : Nat → Prt) : RgOk N t (Ri.appC D t c row n f) := by
  refine ⟨h.1, ?_, h.2.2⟩
  have h2 := h.2.1
  unfold Ri.appC
  by_cases hf : Ri.slots D.safe.length ≤ c
  · have e : Ri.appS D t c row n f = (130, D) := if_pos hf
    rw [e, if_neg (show ¬ (130 : Nat) = 0 by decide)]
    exact h2
  · rw [hl] at hf
    split
    · omega
    · exact h2
theorem RgOk.trimmed {D : Dr} {N t c q : Nat} (h : RgOk N t c) (hq : q < 18446744073709551616) : RgOk N (Ri.trimT D t c q).1 (Ri.trimT D t c q).2 := by
  unfold Ri.trimT
  split
  · exact ⟨hq, by have := h.2.1; dsimp only; omega, h.2.2⟩
  · exact h
section
variable {X : RingSays} {w w0 : World} {B dp kp A N j : Nat} {D : Dr} {po ro : Option (Nat × Nat × Nat)} {cs : Array Value}
abbrev Old13 (B : Nat) (w : World) : Nat → Prop := fun k => B ≤ k ∧ k < w.heap.size
theorem old13 {w' : World} (h : Only (Old13 B w0) w w') (h0 : B ≤ w0.heap.size) (h1 : w0.heap.size ≤ w.heap.size) : Below B w w' := h.below (fun _ hk => hk.1) (Nat.le_trans h0 h1)
theorem Two.write {E : Dr} (h : Two X w B 3 dp kp D E po ro A cs) (hI : Inv13 D N j) (hj : j ≤ 1000) (i : Int) (s : ByteArray) (hs : s.size = 64) :
    Calls Tryz.prog 20 #[.pointer (some ⟨dp, 0, none⟩), .int .i64 i, .string s] w fun e w' => e = .returned (.int .i64 ((D.wri i s.data.toList).1 : Nat)) ∧ Two X w' B 3 dp kp (D.wri i s.data.toList).2 E po ro A cs ∧ Only (Old13 B w) w w' := by
  refine h.pdrive (Below.refl _ _) (by decide) _ (Q := fun e _ => e = .returned (.int .i64 ((D.wri i s.data.toList).1 : Nat))) fun F hd _ => ?_
  unfold Dr.wri
  by_cases hr : D.reachE i = 0
  · rw [if_pos hr]
    obtain ⟨h0, hb⟩ := Dr.reach_has hr
    have h0i : 0 ≤ i ∧ i.toNat < D.safe.length := by
      unfold Dr.hasB at hb
      simp only [Bool.and_eq_true, decide_eq_true_eq] at hb
      omega
    obtain ⟨q, rfl⟩ := Int.eq_ofNat_of_zero_le h0i.1
    have := pWr1 hd ((hI.f9 hj).mono (by decide)) q s hs
    rw [Dr.wr1_yes hr, Dr.write_put hI.goes] at this
    exact this
  · rw [if_neg hr]
    have ht : D.takeE i s.size = D.reachE i := by
      unfold Dr.takeE; rw [if_neg hr]
    have := write_no hd i s (by rw [ht]; exact hr)
    rw [ht] at this
    exact this.mono fun e w' ⟨he, hw⟩ => by subst hw; exact ⟨he, hd.mono fun _ hk => .inl hk, Only.refl _ _⟩
theorem Two.rwrite {E : Dr} (h : Two X w B 3 dp kp E D po ro A cs) (hI : Inv13 D N j) (hj : j ≤ 1000) (i : Int) (s : ByteArray) (hs : s.size = 64) :
    Calls Tryz.prog 22 #[.pointer (some ⟨kp, 0, none⟩), .int .i64 i, .string s] w fun e w' => e = .returned (.int .i64 ((D.wri i s.data.toList).1 : Nat)) ∧ Two X w' B 3 dp kp E (D.wri i s.data.toList).2 po ro A cs ∧ Only (Old13 B w) w w' := by
  refine h.rdrive (Below.refl _ _) (by decide) _ (Q := fun e _ => e = .returned (.int .i64 ((D.wri i s.data.toList).1 : Nat))) fun F hd _ => ?_
  unfold Dr.wri
  by_cases hr : D.reachE i = 0
  · rw [if_pos hr]
    obtain ⟨h0, hb⟩ := Dr.reach_has hr
    have h0i : 0 ≤ i ∧ i.toNat < D.safe.length := by
      unfold Dr.hasB at hb
      simp only [Bool.and_eq_true, decide_eq_true_eq] at hb
      omega
    obtain ⟨q, rfl⟩ := Int.eq_ofNat_of_zero_le h0i.1
    exact rWrite_yes hd hI.goes q h0i.2 hr ((hI.f9 hj).mono (by decide) q) s hs
  · rw [if_neg hr]
    exact (rWrite_no hd hI.goes i s hr).mono fun e w' ⟨he, hw⟩ => by subst hw; exact ⟨he, hd.mono fun _ hk => .inl hk, Only.refl _ _⟩
theorem Two.spoil {E : Dr} (h : Two X w B 3 dp kp D E po ro A cs) (i : Int) :
    Calls Tryz.prog 23 #[.pointer (some ⟨dp, 0, none⟩), .int .i64 i] w fun e w' => e = .returned (.int .i64 ((D.spi i).1 : Nat)) ∧ Two X w' B 3 dp kp (D.spi i).2 E po ro A cs ∧ Only (Old13 B w) w w' := by
  refine h.pdrive (Below.refl _ _) (by decide) _ (Q := fun e _ => e = .returned (.int .i64 ((D.spi i).1 : Nat))) fun F hd _ => ?_
  unfold Dr.spi
  by_cases hr : D.reachE i = 0
  · rw [if_pos hr]
    obtain ⟨h0, hb⟩ := Dr.reach_has hr
    have h0i : 0 ≤ i ∧ i.toNat < D.safe.length := by
      unfold Dr.hasB at hb
      simp only [Bool.and_eq_true, decide_eq_true_eq] at hb
      omega
    obtain ⟨q, rfl⟩ := Int.eq_ofNat_of_zero_le h0i.1
    exact (spoil_yes hd q h0 h0i.2).mono fun _ _ ⟨he, hd, ho⟩ => ⟨he, hd.mono fun _ hk => .inl hk, ho⟩
  · rw [if_neg hr]
    exact (spoil_no hd i hr).mono fun e w' ⟨he, hw⟩ => by subst hw; exact ⟨he, hd.mono fun _ hk => .inl hk, Only.refl _ _⟩
theorem Two.rspoil {E : Dr} (h : Two X w B 3 dp kp E D po ro A cs) (hI : Inv13 D N j) (i : Int) :
    Calls Tryz.prog 24 #[.pointer (some ⟨kp, 0, none⟩), .int .i64 i] w fun e w' => e = .returned (.int .i64 ((D.spi i).1 : Nat)) ∧ Two X w' B 3 dp kp E (D.spi i).2 po ro A cs ∧ Only (Old13 B w) w w' := by
  refine h.rdrive (Below.refl _ _) (by decide) _ (Q := fun e _ => e = .returned (.int .i64 ((D.spi i).1 : Nat))) fun F hd _ => ?_
  unfold Dr.spi
  by_cases hr : D.reachE i = 0
  · rw [if_pos hr]
    obtain ⟨h0, hb⟩ := Dr.reach_has hr
    have h0i : 0 ≤ i ∧ i.toNat < D.safe.length := by
      unfold Dr.hasB at hb
      simp only [Bool.and_eq_true, decide_eq_true_eq] at hb
      omega
    obtain ⟨q, rfl⟩ := Int.eq_ofNat_of_zero_le h0i.1
    exact (rSpoil_yes hd hI.goes q h0i.2 hr).mono fun _ _ ⟨he, hd, ho⟩ => ⟨he, hd.mono fun _ hk => .inl hk, ho⟩
  · rw [if_neg hr]
    exact (rSpoil_no hd hI.goes i hr).mono fun e w' ⟨he, hw⟩ => by subst hw; exact ⟨he, hd.mono fun _ hk => .inl hk, Only.refl _ _⟩
theorem Two.die {E : Dr} (h : Two X w B 3 dp kp D E po ro A cs) :
    Calls Tryz.prog 25 #[.pointer (some ⟨dp, 0, none⟩)] w fun e w' => e = .returned (.tuple #[]) ∧ Two X w' B 3 dp kp D.die E po ro A cs ∧ Only (Old13 B w) w w' :=
  h.pdrive (Below.refl _ _) (by decide) _ (Q := fun e _ => e = .returned (.tuple #[])) fun _ hd _ => (die_any hd).mono fun _ _ ⟨he, hd, ho⟩ => ⟨he, hd.mono fun _ hk => .inl hk, ho⟩
theorem Two.gone {E : Dr} (h : Two X w B 3 dp kp D E po ro A cs) :
    (Two X (w.setCell ⟨kp, 3, none⟩ (.bool true)) B 3 dp kp D E.die po ro A cs ∧ Only (Old13 B w) w (w.setCell ⟨kp, 3, none⟩ (.bool true))) ∧ (∃ v, w.cell? ⟨kp, 3, none⟩ = some (.bool v)) ∧ w.frozen? ⟨kp, 3, none⟩ = false := by
  obtain ⟨F, h1, h2, h3, h4⟩ := h
  obtain ⟨F0, H0, a1, a2, a3, a4, a5⟩ := h1 1 (by decide)
  obtain ⟨ha, ho⟩ := RefAt.gone a1
  obtain ⟨c3, _, f3, _⟩ := RefAt.flags a1
  have := Many.turned (i := 1) (by decide) h1 h2 h3 h4 (T' := RT kp E.die ro) ⟨F0, H0, ha, a2.only ho (fun k _ hk hf => a3 k hf hk), a3, fun k hk => .inl (a4 k hk), fun k hk => .inl (a5 k hk)⟩ (ho.mono a4)
  rw [tb13_1] at this
  exact ⟨this, ⟨_, c3⟩, f3⟩
theorem Two.crash {E : Dr} (h : Two X w B 3 dp kp D E po ro A cs) (hI : Inv13 D N j) (hj : j ≤ 1000) (keep : List Nat) (a : Option Addr) (cap : Nat) (hR : RowI .u8 w a keep.length (fun j => ((keep.getD j 0 : Nat) : Int))) (hkl : keep.length ≤ 1000000) (hb : ∀ j, keep.getD j 0 < 256) (hna : 0 < keep.length → ∀ x, a = some x → x.block < B) :
    Calls Tryz.prog 18 #[.pointer (some ⟨dp, 0, none⟩), .slice a keep.length cap] w fun e w' => e = .returned (.tuple #[]) ∧ Two X w' B 3 dp kp (D.crash keep) E po ro A cs ∧ Only (Old13 B w) w w' :=
  h.pdrive (Below.refl _ _) (by decide) _ (Q := fun e _ => e = .returned (.tuple #[])) fun _ hd hF => (crash_any hd ((hI.f9 hj).mono (by decide)) keep a cap hR (by unfold maxLen; omega) hb (fun h0 x hx e => by have := hF _ e; have := hna h0 x hx; omega)).mono fun _ _ ⟨he, hd, ho⟩ => ⟨he, hd.mono fun _ hk => .inl hk, ho⟩
theorem Two.rcrash {E : Dr} (h : Two X w B 3 dp kp E D po ro A cs) (hI : Inv13 D N j) (hj : j ≤ 1000) (keep : List Nat) (a : Option Addr) (cap : Nat) (hR : RowI .u8 w a keep.length (fun j => ((keep.getD j 0 : Nat) : Int))) (hkl : keep.length ≤ 1000000) (hb : ∀ j, keep.getD j 0 < 256) (hna : 0 < keep.length → ∀ x, a = some x → x.block < B) :
    Calls Tryz.prog 19 #[.pointer (some ⟨kp, 0, none⟩), .slice a keep.length cap] w fun e w' => e = .returned (.tuple #[]) ∧ Two X w' B 3 dp kp E (D.crash keep) po ro A cs ∧ Only (Old13 B w) w w' :=
  h.rdrive (Below.refl _ _) (by decide) _ (Q := fun e _ => e = .returned (.tuple #[])) fun _ hd hF => (rCrash_any hd hI.goes hI.left ((hI.f9 hj).mono (by decide)) keep a cap hR hkl hb (fun h0 x hx e => by have := hF _ e; have := hna h0 x hx; omega)).mono fun _ _ ⟨he, hd, ho⟩ => ⟨he, hd.mono fun _ hk => .inl hk, ho⟩
theorem Two.format {E : Dr} {m : Nat} (h : Two X w B m dp kp D E po ro A cs) (hm : 0 < m) (hI : Inv13 D N j) (hj : j ≤ 1000) :
    Calls Tryz.prog 12 #[.pointer (some ⟨dp, 0, none⟩)] w fun e w' => e = .returned (.int .i64 ((Ri.formatS D).1 : Nat)) ∧ Two X w' B m dp kp (Ri.formatS D).2 E po ro A cs ∧ Only (Old13 B w) w w' :=
  h.pdrive (Below.refl _ _) hm _ (Q := fun e _ => e = .returned (.int .i64 ((Ri.formatS D).1 : Nat))) fun _ hd _ => X.format hd hI.goes (hI.f9 hj)
theorem Two.rformat {E : Dr} {m : Nat} (h : Two X w B m dp kp E D po ro A cs) (hm : 1 < m) (hI : Inv13 D N j) (hj : j ≤ 1000) :
    Calls Tryz.prog 13 #[.pointer (some ⟨kp, 0, none⟩)] w fun e w' => e = .returned (.int .i64 ((Ri.formatS D).1 : Nat)) ∧ Two X w' B m dp kp E (Ri.formatS D).2 po ro A cs ∧ Only (Old13 B w) w w' :=
  h.rdrive (Below.refl _ _) hm _ (Q := fun e _ => e = .returned (.int .i64 ((Ri.formatS D).1 : Nat))) fun _ hd _ => rFormat_any hd hI.goes (hI.f9 hj)
end
end Go.Proofs.YtjmeiifogblmoaaGreatDoor

namespace Go.Proofs.YtjmeiifogblmoaaGreatDoor
open Go.RowKit

section
variable {X : RingSays} {w w0 : World} {B dp kp A N j m rp sp t c n cap : Nat} {D E : Dr} {po ro : Option (Nat × Nat × Nat)} {cs : Array Value} {row : Int} {a : Option Addr} {f : Nat → Prt}
theorem Two.open (h : Two X w B m dp kp D E po ro A cs) (hm : 0 < m) (hg : D.goes = false) :
    Calls Tryz.prog 16 #[.pointer (some ⟨dp, 0, none⟩)] w fun e w' => ((Ri.openE D ≠ 0 ∧ (∃ a cap, e = .returned (.tuple #[.pointer none, .slice a 0 cap, .int .i64 (Ri.openE D : Nat)])) ∧ Two X w' B m dp kp D E none ro A cs) ∨
      (Ri.openE D = 0 ∧ ∃ rp a cap, e = .returned (.tuple #[.pointer (some ⟨rp, 0, none⟩), .slice a (Ri.openC D) cap, .int .i64 0]) ∧ Two X w' B m dp kp D E (some (rp, Ri.openT D, Ri.openC D)) ro A cs ∧ RecsR w' a (Ri.openC D) (fun j => Ri.recT D (Ri.nth (Ri.openT D) (j + 1))))) ∧ Below w.heap.size w w' := by
  obtain ⟨F, H, hd, _⟩ := h.pat hm
  refine (X.opens hd hg).mono ?_
  rintro e w' ⟨⟨h1, a, cap, he⟩ | ⟨h1, rp, a, cap, he, hr, hrec⟩, hb⟩
  · exact ⟨.inl ⟨h1, ⟨a, cap, he⟩, h.popen hm hb trivial⟩, hb⟩
  · exact ⟨.inr ⟨h1, rp, a, cap, he, h.popen hm hb (P := some (rp, Ri.openT D, Ri.openC D)) hr, hrec⟩, hb⟩
theorem Two.ropen' (h : Two X w B m dp kp D E po ro A cs) (hm : 1 < m) (hg : E.goes = false) :
    Calls Tryz.prog 17 #[.pointer (some ⟨kp, 0, none⟩)] w fun e w' => ((Ri.openE E ≠ 0 ∧ e = .returned (.tuple #[.pointer none, .slice none 0 0, .int .i64 (Ri.openE E : Nat)]) ∧ Two X w' B m dp kp D E po none A cs) ∨
      (Ri.openE E = 0 ∧ ∃ sp a cap, e = .returned (.tuple #[.pointer (some ⟨sp, 0, none⟩), .slice a (Ri.openC E) cap, .int .i64 0]) ∧ Two X w' B m dp kp D E po (some (sp, Ri.openT E, Ri.openC E)) A cs ∧ RecsR w' a (Ri.openC E) (fun j => Ri.recT E (Ri.nth (Ri.openT E) (j + 1))))) ∧ Below w.heap.size w w' := by
  obtain ⟨F, H, hd, _⟩ := h.rat hm
  refine (rOpen_any hd hg).mono ?_
  rintro e w' ⟨⟨h1, he⟩ | ⟨h1, sp, a, cap, he, hr, hlo, hrec⟩, hb⟩
  · exact ⟨.inl ⟨h1, he, h.ropen hm hb trivial⟩, hb⟩
  · exact ⟨.inr ⟨h1, sp, a, cap, he, h.ropen hm hb (P := some (sp, Ri.openT E, Ri.openC E)) ⟨hr, hlo⟩, hrec⟩, hb⟩
theorem slots200 {N c : Nat} (hN : N ≤ 200) (h : c ≤ Ri.slots N) : c ≤ 1000 := by unfold Ri.slots at h; omega
theorem Two.append (h : Two X w0 B 3 dp kp D E (some (rp, t, c)) ro A cs) (hb : Below w0.heap.size w0 w) (hI : Inv13 D N j) (hj : j ≤ 1000) (hN : N ≤ 200) (hk : RgOk N t c) (hin : RecIn row n f) (hl : RecLight n f) (hp : PartsR w a n f) (ha : 0 < n → ∀ x, a = some x → x.block < B ∨ w0.heap.size ≤ x.block) :
    Calls Tryz.prog 28 #[.pointer (some ⟨rp, 0, none⟩), .int .i64 row, .slice a n cap] w fun e w' => e = .returned (.tuple #[.int .u64 (Ri.appV D t c row n f : Nat), .int .i64 ((Ri.appS D t c row n f).1 : Nat)]) ∧ Two X w' B 3 dp kp (Ri.appS D t c row n f).2 E (some (rp, t, Ri.appC D t c row n f)) ro A cs ∧ Only (Old13 B w0) w w' :=
  h.pring hb (by decide) _ (Q := fun e _ => e = .returned (.tuple #[.int .u64 (Ri.appV D t c row n f : Nat), .int .i64 ((Ri.appS D t c row n f).1 : Nat)])) fun F H hd hr hFH hlo =>
    X.append row a n cap f hd hr hFH hI.goes (hI.f9 hj) hk.1 (slots200 hN hk.2.1) hin hl hp (fun hn x hx => ⟨fun e => by have := hlo _ (.inl e); have := ha hn x hx; omega, fun e => by have := hlo _ (.inr e); have := ha hn x hx; omega⟩)
theorem Two.rappend (h : Two X w0 B 3 dp kp E D po (some (sp, t, c)) A cs) (hb : Below w0.heap.size w0 w) (hI : Inv13 D N j) (hj : j ≤ 1000) (hN : N ≤ 200) (hk : RgOk N t c) (hin : RecIn row n f) (hp : PartsR w a n f) :
    Calls Tryz.prog 29 #[.pointer (some ⟨sp, 0, none⟩), .int .i64 row, .slice a n cap] w fun e w' => e = .returned (.tuple #[.int .u64 (Ri.appV D t c row n f : Nat), .int .i64 ((Ri.appS D t c row n f).1 : Nat)]) ∧ Two X w' B 3 dp kp E (Ri.appS D t c row n f).2 po (some (sp, t, Ri.appC D t c row n f)) A cs ∧ Only (Old13 B w0) w w' :=
  h.rring hb (by decide) _ (Q := fun e _ => e = .returned (.tuple #[.int .u64 (Ri.appV D t c row n f : Nat), .int .i64 ((Ri.appS D t c row n f).1 : Nat)])) fun F hd hr hF _ =>
    rAppend_any hd hI.goes (hI.f9 hj) hr hF hk.1 (Nat.le_trans (slots200 hN hk.2.1) (by decide)) hin hp
theorem Two.trim (h : Two X w B 3 dp kp D E (some (rp, t, c)) ro A cs) (hI : Inv13 D N j) (hj : j ≤ 1000) (hN : N ≤ 200) (hk : RgOk N t c) (q : Nat) (hq : q < 18446744073709551616) :
    Calls Tryz.prog 31 #[.pointer (some ⟨rp, 0, none⟩), .int .u64 (q : Int)] w fun e w' => e = .returned (.int .i64 ((Ri.trimS D t c q).1 : Nat)) ∧ Two X w' B 3 dp kp (Ri.trimS D t c q).2 E (some (rp, (Ri.trimT D t c q).1, (Ri.trimT D t c q).2)) ro A cs ∧ Only (Old13 B w) w w' :=
  h.pring (Below.refl _ _) (by decide) _ (Q := fun e _ => e = .returned (.int .i64 ((Ri.trimS D t c q).1 : Nat))) fun F H hd hr hFH _ =>
    X.trim q hd hr hFH hI.goes (hI.f9 hj) (by rw [hI.len]; exact hk.2.2) hk.1 (slots200 hN hk.2.1) hq
theorem Two.rtrim (h : Two X w B 3 dp kp E D po (some (sp, t, c)) A cs) (hI : Inv13 D N j) (hj : j ≤ 1000) (hN : N ≤ 200) (hk : RgOk N t c) (q : Nat) (hq : q < 18446744073709551616) :
    Calls Tryz.prog 32 #[.pointer (some ⟨sp, 0, none⟩), .int .u64 (q : Int)] w fun e w' => e = .returned (.int .i64 ((Ri.trimS D t c q).1 : Nat)) ∧ Two X w' B 3 dp kp E (Ri.trimS D t c q).2 po (some (sp, (Ri.trimT D t c q).1, (Ri.trimT D t c q).2)) A cs ∧ Only (Old13 B w) w w' :=
  h.rring (Below.refl _ _) (by decide) _ (Q := fun e _ => e = .returned (.int .i64 ((Ri.trimS D t c q).1 : Nat))) fun F hd hr hF _ =>
    rTrim_any hd hI.goes (hI.f9 hj) hr hF hk.1 q hq (Nat.le_trans (slots200 hN hk.2.1) (by decide))
theorem Two.leftC (h : Two X w B 3 dp kp D E (some (rp, t, c)) ro A cs) (hI : Inv13 D N j) (hN : N ≤ 200) (hk : RgOk N t c) :
    Calls Tryz.prog 33 #[.pointer (some ⟨rp, 0, none⟩)] w fun e w' => e = .returned (.int .i64 ((Ri.slots N : Nat) - (c : Nat))) ∧ Below w.heap.size w w' := by
  obtain ⟨F, H, hd, hr⟩ := h.pat (by decide)
  have := X.left hd hr hk.1 (slots200 hN hk.2.1)
  rw [hI.len] at this
  exact this
theorem Two.rleftC (h : Two X w B 3 dp kp E D po (some (sp, t, c)) A cs) (hI : Inv13 D N j) (hN : N ≤ 200) (hk : RgOk N t c) :
    Calls Tryz.prog 34 #[.pointer (some ⟨sp, 0, none⟩)] w fun e w' => e = .returned (.int .i64 ((Ri.slots N : Nat) - (c : Nat))) ∧ Below w.heap.size w w' := by
  obtain ⟨F, H, hd, hr⟩ := h.rat (by decide)
  have := rLeft_any hd hr.1 hk.1 (Nat.le_trans (slots200 hN hk.2.1) (by decide))
  rw [hI.len] at this
  exact this
theorem Two.nextC (h : Two X w B 3 dp kp D E (some (rp, t, c)) ro A cs) :
    Calls Tryz.prog 35 #[.pointer (some ⟨rp, 0, none⟩)] w fun e w' => e = .returned (.int .u64 (Ri.nth t (c + 1) : Nat)) ∧ Below w.heap.size w w' := by
  obtain ⟨F, H, hd, hr⟩ := h.pat (by decide)
  exact X.next hr
/-- the cells of the document's ring -/
theorem Two.rcells (h : Two X w B m dp kp E D po (some (sp, t, c)) A cs) (hm : 1 < m) : w.cell? ⟨sp, 1, none⟩ = some (.int .u64 (t : Int)) ∧ w.cell? ⟨sp, 2, none⟩ = some (.int .u64 (Ri.nth t (c + 1) : Nat)) := by
  obtain ⟨F, H, hd, hr⟩ := h.rat hm
  exact ⟨by rw [cell_of_row w sp 1 _ _ _ hr.1]; rfl, by rw [cell_of_row w sp 2 _ _ _ hr.1]; rfl⟩
end
end Go.Proofs.YtjmeiifogblmoaaGreatDoor
