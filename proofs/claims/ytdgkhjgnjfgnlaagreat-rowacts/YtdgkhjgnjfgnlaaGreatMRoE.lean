import Derived.Test.YtdgkhjgnjfgnlaaGreatMRoD
import Derived.Test.YtdgkhjgnjfgnlaaGreatMKitG
import Derived.Test.YtdgkhjgnjfgnlaaGreatMKitH
namespace Go.Proofs.YtdgkhjgnjfgnlaaGreat
open Go.RowKit
attribute [local go_sem] Oper.semAt_some
structure PrSet (w : World) (da : Option Addr) (dn : Nat) (ba : Option Addr) (bn : Nat) (C : Nat → Ro.Col) (bf : Nat → Int) : Prop where
 row : RowP w da dn C
 built : RowI .i64 w ba bn bf
 drv : ∀ i p D, i < dn → C i = some (p, D) → ∃ F, DriveAt w p D F
theorem PrSet.below {w w' : World} {da : Option Addr} {dn : Nat} {ba : Option Addr} {bn : Nat} {C : Nat → Ro.Col} {bf : Nat → Int} (h : PrSet w da dn ba bn C bf) (hb : Below w.heap.size w w') : PrSet w' da dn ba bn C bf :=
 ⟨h.row.below hb, h.built.below hb, fun i p D hi e => by obtain ⟨F, hF⟩ := h.drv i p D hi e; exact ⟨F, (drvT p D).below hF hb⟩⟩
def prC : Ro.Col → Thing
 | none => Thing.none
 | some x => drvT x.1 x.2
structure PrM (w : World) (B m : Nat) (T : Nat → Thing) (ri bi o : Nat) (da : Option Addr) (dn dcap : Nat) (ba : Option Addr) (bn bcap : Nat) (C : Nat → Ro.Col) (bf : Nat → Int) : Prop where
 many : Many w B m T
 hri : ri < m
 hbi : bi < m
 ho : o + dn ≤ m
 row : ∃ L, T ri = rowT 59 (.slice da dn dcap) L ∧ L.length = dn ∧ ∀ i, i < dn → L[i]? = some (Ro.ptr (C i))
 built : ∃ L, T bi = rowT 3 (.slice ba bn bcap) L ∧ L.length = bn ∧ ∀ i, i < bn → L[i]? = some (.int .i64 (bf i))
 drv : ∀ i, i < dn → T (o + i) = prC (C i)
 ro : ¬ (o ≤ ri ∧ ri < o + dn)
 bo : ¬ (o ≤ bi ∧ bi < o + dn)
section
variable {w w' : World} {B m : Nat} {T : Nat → Thing} {ri bi o : Nat} {da ba : Option Addr} {dn dcap bn bcap : Nat} {C : Nat → Ro.Col} {bf : Nat → Int}
theorem PrM.set (h : PrM w B m T ri bi o da dn dcap ba bn bcap C bf) : PrSet w da dn ba bn C bf := by
 refine ⟨fun j hj => ?_, fun j hj => ?_, fun i p D hi e => ?_⟩
 ·obtain ⟨L, e, hl, hL⟩ := h.row
  obtain ⟨F, hF, _⟩ := h.many.look h.hri
  rw [e] at hF
  obtain ⟨g, cp, hv, hc⟩ := rowT_at hF (hL j hj)
  injection hv with hv1 _ _
  exact ⟨g, 0, hv1, by rw [Nat.zero_add]; exact hc⟩
 ·obtain ⟨L, e, hl, hL⟩ := h.built
  obtain ⟨F, hF, _⟩ := h.many.look h.hbi
  rw [e] at hF
  obtain ⟨g, cp, hv, hc⟩ := rowT_at hF (hL j hj)
  injection hv with hv1 _ _
  exact ⟨g, 0, hv1, by rw [Nat.zero_add]; exact hc⟩
 ·obtain ⟨F, hF, _⟩ := h.many.look (i := o + i) (by have := h.ho; omega)
  rw [h.drv i hi, e] at hF
  exact ⟨F, hF⟩
theorem PrM.below (h : PrM w B m T ri bi o da dn dcap ba bn bcap C bf) (hb : Below w.heap.size w w') : PrM w' B m T ri bi o da dn dcap ba bn bcap C bf :=
 ⟨h.many.below hb, h.hri, h.hbi, h.ho, h.row, h.built, h.drv, h.ro, h.bo⟩
theorem PrM.call (h : PrM w B m T ri bi o da dn dcap ba bn bcap C bf) {z p : Nat} {D D' : Dr} (hz : z < dn) (hC : C z = some (p, D)) {f : FuncId} {args : Array Value} {Q : Ending → Prop}
  (hc : ∀ G, DriveAt w p D G → Calls Tryz.prog f args w fun e w' => Q e ∧ DriveAt w' p D' (Plus G w.heap.size) ∧ Only G w w') :
  Calls Tryz.prog f args w fun e w' => Q e ∧ Many w' B m (spread T o dn (fun i => prC (swap1 C z (some (p, D')) i))) ∧ Only (fun k => B ≤ k ∧ k < w.heap.size) w w' := by
 have ho := h.ho
 refine (h.many.call (i := o + z) (by omega) (drvT p D') (Q := Q) (fun F hF _ => ?_)).mono ?_
 ·rw [h.drv z hz, hC] at hF
  exact hc F hF
 ·rintro e w' ⟨hq, hm, hO⟩
  refine ⟨hq, hm.congr fun j _ => ?_, hO⟩
  have hsp : ∀ j, spread T o dn (fun i => prC (C i)) j = T j := spread_same h.drv
  have e1 : swap1 T (o + z) (drvT p D') j = swap1 (spread T o dn (fun i => prC (C i))) (o + z) (drvT p D') j := by unfold swap1; rw [hsp j]
  rw [e1, spread_put _ _ _ _ hz]
  unfold spread
  split
  ·unfold swap1
   by_cases hj : j - o = z
   ·show (if j - o = z then drvT p D' else prC (C (j - o))) = prC (if j - o = z then some (p, D') else C (j - o))
    rw [if_pos hj, if_pos hj]; rfl
   ·show (if j - o = z then drvT p D' else prC (C (j - o))) = prC (if j - o = z then some (p, D') else C (j - o))
    rw [if_neg hj, if_neg hj]
  ·rfl
end
section
variable {w w' : World} {B m : Nat} {T : Nat → Thing} {ri bi o : Nat} {da ba : Option Addr} {dn dcap bn bcap : Nat} {C : Nat → Ro.Col} {bf : Nat → Int}
theorem PrM.anew (h : PrM w B m T ri bi o da dn dcap ba bn bcap C bf) {C' : Nat → Ro.Col} (hm : Many w' B m (spread T o dn (fun i => prC (C' i)))) (hp : ∀ i, Ro.ptr (C' i) = Ro.ptr (C i)) :
  PrM w' B m (spread T o dn (fun i => prC (C' i))) ri bi o da dn dcap ba bn bcap C' bf := by
 obtain ⟨L, e, hl, hL⟩ := h.row
 obtain ⟨L2, e2, hl2, hL2⟩ := h.built
 refine ⟨hm, h.hri, h.hbi, h.ho, ⟨L, ?_, hl, fun i hi => by rw [hp]; exact hL i hi⟩, ⟨L2, ?_, hl2, hL2⟩, fun i hi => spread_in _ _ _ _ hi, h.ro, h.bo⟩
 ·unfold spread; rw [if_neg h.ro]; exact e
 ·unfold spread; rw [if_neg h.bo]; exact e2
theorem PrM.more (h : PrM w B m T ri bi o da dn dcap ba bn bcap C bf) {X : Thing} (hm : Many w' B (m + 1) (swap1 T m X)) : PrM w' B (m + 1) (swap1 T m X) ri bi o da dn dcap ba bn bcap C bf := by
 have q1 := h.hri
 have q2 := h.hbi
 have q3 := h.ho
 refine ⟨hm, by omega, by omega, by omega, ?_, ?_, fun i hi => ?_, h.ro, h.bo⟩
 ·rw [swap1_other _ _ (by omega)]; exact h.row
 ·rw [swap1_other _ _ (by omega)]; exact h.built
 ·rw [swap1_other _ _ (by omega)]; exact h.drv i hi
end
def I64 (n : Int) : Prop := -9223372036854775808 ≤ n ∧ n ≤ 9223372036854775807
def PrAns (w : World) (B m : Nat) (T : Nat → Thing) (o dn : Nat) (E : Nat) (C' : Nat → Ro.Col) (e : Ending) (w' : World) : Prop :=
 e = .returned (.int .i64 (E : Int)) ∧ Many w' B m (spread T o dn (fun i => prC (C' i))) ∧ Only (fun k => B ≤ k ∧ k < w.heap.size) w w'
structure RowSays (w0 : World) : Prop where
 may : ∀ (w : World), Below w0.heap.size w0 w → ∀ (c k r : Nat) (da ba : Option Addr) (dn dcap bn bcap : Nat) (C : Nat → Ro.Col) (bf : Nat → Int), Lay.ok (c : Int) (k : Int) (r : Int) → dn ≤ 1000 → dn ≤ dcap → bn ≤ 1000 → bn ≤ bcap → PrSet w da dn ba bn C bf → Calls Tryz.prog 22 #[.agg #[.int .i64 (c : Int), .int .i64 (k : Int), .int .i64 (r : Int), .slice da dn dcap, .slice ba bn bcap]] w fun e w' => e = .returned (.bool (Ro.mayB c k r dn bn C)) ∧ Below w.heap.size w w'
 read : ∀ (w : World), Below w0.heap.size w0 w → ∀ (c k r : Nat) (da ba : Option Addr) (dn dcap bn bcap : Nat) (C : Nat → Ro.Col) (bf : Nat → Int), Lay.ok (c : Int) (k : Int) (r : Int) → dn ≤ 1000 → dn ≤ dcap → bn ≤ 1000 → bn ≤ bcap → PrSet w da dn ba bn C bf → ∀ (row off : Int), I64 row → I64 off → Calls Tryz.prog 12 #[.agg #[.int .i64 (c : Int), .int .i64 (k : Int), .int .i64 (r : Int), .slice da dn dcap, .slice ba bn bcap], .int .i64 row, .int .i64 off] w (RdSays w (Ro.readE c k r dn bn C bf row off) (Ro.readN c k r dn bn C bf row off) (Ro.oneX c k C bf row off) (Ro.readL c k r dn bn C bf row off))
 filled : ∀ (w : World), Below w0.heap.size w0 w → ∀ (c k r : Nat) (da ba : Option Addr) (dn dcap bn bcap : Nat) (C : Nat → Ro.Col) (bf : Nat → Int), Lay.ok (c : Int) (k : Int) (r : Int) → dn ≤ 1000 → dn ≤ dcap → bn ≤ 1000 → bn ≤ bcap → PrSet w da dn ba bn C bf → ∀ (row off : Int), I64 row → I64 off → Calls Tryz.prog 14 #[.agg #[.int .i64 (c : Int), .int .i64 (k : Int), .int .i64 (r : Int), .slice da dn dcap, .slice ba bn bcap], .int .i64 row, .int .i64 off] w (FdSays w (Ro.filledE c k r dn bn C bf row off) (Ro.filledN c k r dn bn C bf row off) (Ro.filledF c k r dn bn C bf row off) (Ro.filledL c k r dn bn C bf row off))
 sector : ∀ (w : World), Below w0.heap.size w0 w → ∀ (c k r : Nat) (da ba : Option Addr) (dn dcap bn bcap : Nat) (C : Nat → Ro.Col) (bf : Nat → Int), Lay.ok (c : Int) (k : Int) (r : Int) → dn ≤ 1000 → dn ≤ dcap → bn ≤ 1000 → bn ≤ bcap → PrSet w da dn ba bn C bf → ∀ (row off i : Int), I64 row → I64 off → I64 i → Calls Tryz.prog 16 #[.agg #[.int .i64 (c : Int), .int .i64 (k : Int), .int .i64 (r : Int), .slice da dn dcap, .slice ba bn bcap], .int .i64 row, .int .i64 off, .int .i64 i] w fun e w' => e = .returned (.tuple #[.string (Ro.secX c k r dn bn C bf row off i), .int .i64 (Ro.secE c k r dn bn C bf row off i)]) ∧ Below w.heap.size w w'
 lost : ∀ (w : World), Below w0.heap.size w0 w → ∀ (c k r : Nat) (da ba : Option Addr) (dn dcap bn bcap : Nat) (C : Nat → Ro.Col) (bf : Nat → Int), Lay.ok (c : Int) (k : Int) (r : Int) → dn ≤ 1000 → dn ≤ dcap → bn ≤ 1000 → bn ≤ bcap → PrSet w da dn ba bn C bf → ∀ (row : Int), I64 row → Calls Tryz.prog 18 #[.agg #[.int .i64 (c : Int), .int .i64 (k : Int), .int .i64 (r : Int), .slice da dn dcap, .slice ba bn bcap], .int .i64 row] w (LsAns w (Ro.lostE c k r dn bn C row) (Ro.lostL c k r dn bn C bf row))
 write : ∀ (w : World), Below w0.heap.size w0 w → ∀ (c k r : Nat) (da ba : Option Addr) (dn dcap bn bcap : Nat) (C : Nat → Ro.Col) (bf : Nat → Int), Lay.ok (c : Int) (k : Int) (r : Int) → dn ≤ 1000 → dn ≤ dcap → bn ≤ 1000 → bn ≤ bcap → ∀ (B m : Nat) (T : Nat → Thing) (ri bi o : Nat), PrM w B m T ri bi o da dn dcap ba bn bcap C bf → (∀ i x, C i = some x → ∀ j, (x.2.writes j).length ≤ 1000000) → ∀ (row off role : Int), I64 row → I64 off → I64 role → ∀ s : ByteArray, s.size ≤ maxLen → Calls Tryz.prog 27 #[.agg #[.int .i64 (c : Int), .int .i64 (k : Int), .int .i64 (r : Int), .slice da dn dcap, .slice ba bn bcap], .int .i64 row, .int .i64 off, .int .i64 role, .string s] w (PrAns w B m T o dn (Ro.wrE c k r dn bn C row off role s) (Ro.wrC c k r dn bn C row off role s))
 flush : ∀ (w : World), Below w0.heap.size w0 w → ∀ (c k r : Nat) (da ba : Option Addr) (dn dcap bn bcap : Nat) (C : Nat → Ro.Col) (bf : Nat → Int), Lay.ok (c : Int) (k : Int) (r : Int) → dn ≤ 1000 → dn ≤ dcap → bn ≤ 1000 → bn ≤ bcap → ∀ (B m : Nat) (T : Nat → Thing) (ri bi o : Nat), PrM w B m T ri bi o da dn dcap ba bn bcap C bf → (∀ i x, C i = some x → ∀ j, (x.2.writes j).length ≤ 1000000) → Calls Tryz.prog 30 #[.agg #[.int .i64 (c : Int), .int .i64 (k : Int), .int .i64 (r : Int), .slice da dn dcap, .slice ba bn bcap]] w (PrAns w B m T o dn (Ro.flushE c k r dn bn C) (Ro.flushC c k r dn bn C))
end Go.Proofs.YtdgkhjgnjfgnlaaGreat
namespace Go.Proofs.YtdgkhjgnjfgnlaaGreat
open Go.RowKit
theorem Many.renew {w w' : World} {B m : Nat} {T : Nat → Thing} (h : Many w B m T) {i : Nat} {T' : Thing} {G : Nat → Prop} (hb : Below w.heap.size w w') (ht : T'.is w' G) (hG : ∀ k, G k → w.heap.size ≤ k) : Many w' B m (swap1 T i T') := by
 obtain ⟨F, h1, h2, h3, h4⟩ := h
 refine ⟨swap1 F i (fun k => G k ∧ k < w'.heap.size), fun j hj => ?_, fun j hj k hk => ?_, fun j l hj hl hne k hk hl' => ?_, Nat.le_trans h4 hb.size⟩
 ·by_cases e : j = i
  ·subst e; rw [swap1_same, swap1_same]; exact T'.tight ht
  ·rw [swap1_other _ _ e, swap1_other _ _ e]; exact (T j).below (h1 j hj) hb
 ·by_cases e : j = i
  ·subst e; rw [swap1_same] at hk; exact ⟨Nat.le_trans h4 (hG k hk.1), hk.2⟩
  ·rw [swap1_other _ _ e] at hk; exact ⟨(h2 j hj k hk).1, Nat.lt_of_lt_of_le (h2 j hj k hk).2 hb.size⟩
 ·by_cases e : j = i
  ·subst e
   rw [swap1_same] at hk; rw [swap1_other _ _ (Ne.symm hne)] at hl'
   have := (h2 l hl k hl').2; have := hG k hk.1; omega
  ·rw [swap1_other _ _ e] at hk
   by_cases e2 : l = i
   ·subst e2
    rw [swap1_same] at hl'
    have := (h2 j hj k hk).2; have := hG k hl'.1; omega
   ·rw [swap1_other _ _ e2] at hl'
    exact h3 j l hj hl hne k hk hl'
def ptrs16 (n : Nat) (C : Nat → Ro.Col) : List Value := (List.range n).map fun i => Ro.ptr (C i)
def ints16 (n : Nat) (f : Nat → Int) : List Value := (List.range n).map fun i => .int .i64 (f i)
theorem ptrs16_len (n : Nat) (C : Nat → Ro.Col) : (ptrs16 n C).length = n := by simp [ptrs16]
theorem ints16_len (n : Nat) (f : Nat → Int) : (ints16 n f).length = n := by simp [ints16]
theorem ptrs16_at {n i : Nat} (C : Nat → Ro.Col) (h : i < n) : (ptrs16 n C)[i]? = some (Ro.ptr (C i)) := by simp [ptrs16, h]
theorem ints16_at {n i : Nat} (f : Nat → Int) (h : i < n) : (ints16 n f)[i]? = some (.int .i64 (f i)) := by simp [ints16, h]
theorem ptrs16_snoc (n : Nat) (C : Nat → Ro.Col) : ptrs16 (n + 1) C = ptrs16 n C ++ [Ro.ptr (C n)] := by simp [ptrs16, List.range_succ]
theorem ints16_snoc (n : Nat) (f : Nat → Int) : ints16 (n + 1) f = ints16 n f ++ [.int .i64 (f n)] := by simp [ints16, List.range_succ]
theorem ptrs16_same {n : Nat} {C D : Nat → Ro.Col} (h : ∀ i, i < n → Ro.ptr (C i) = Ro.ptr (D i)) : ptrs16 n C = ptrs16 n D := List.map_congr_left fun i hi => h i (List.mem_range.1 hi)
def two16 (c np nq nr ns : Nat) (vP vQ vR vS : Value) (C D : Nat → Ro.Col) (f g : Nat → Int) : Nat → Thing := fun j =>
 if j = 0 then rowT 59 vP (ptrs16 np C) else if j = 1 then rowT 3 vQ (ints16 nq f) else if j = 2 then rowT 67 vR (ptrs16 nr D) else if j = 3 then rowT 3 vS (ints16 ns g) else
  if j < 4 + c then prC (C (j - 4)) else refC (D (j - (4 + c)))
section
variable {c np nq nr ns : Nat} {vP vQ vR vS : Value} {C D : Nat → Ro.Col} {f g : Nat → Int}
theorem two16_0 : two16 c np nq nr ns vP vQ vR vS C D f g 0 = rowT 59 vP (ptrs16 np C) := if_pos rfl
theorem two16_1 : two16 c np nq nr ns vP vQ vR vS C D f g 1 = rowT 3 vQ (ints16 nq f) := by unfold two16; rw [if_neg (by decide), if_pos rfl]
theorem two16_2 : two16 c np nq nr ns vP vQ vR vS C D f g 2 = rowT 67 vR (ptrs16 nr D) := by unfold two16; rw [if_neg (by decide), if_neg (by decide), if_pos rfl]
theorem two16_3 : two16 c np nq nr ns vP vQ vR vS C D f g 3 = rowT 3 vS (ints16 ns g) := by unfold two16; rw [if_neg (by decide), if_neg (by decide), if_neg (by decide), if_pos rfl]
theorem two16_p {i : Nat} (h : i < c) : two16 c np nq nr ns vP vQ vR vS C D f g (4 + i) = prC (C i) := by
 unfold two16
 rw [if_neg (by omega), if_neg (by omega), if_neg (by omega), if_neg (by omega), if_pos (by omega), Nat.add_sub_cancel_left]
theorem two16_r (i : Nat) : two16 c np nq nr ns vP vQ vR vS C D f g (4 + c + i) = refC (D i) := by
 unfold two16
 rw [if_neg (by omega), if_neg (by omega), if_neg (by omega), if_neg (by omega), if_neg (by omega), Nat.add_sub_cancel_left]
theorem two16_far {j : Nat} (h : ¬ j < 4) : two16 c np nq nr ns vP vQ vR vS C D f g j = if j < 4 + c then prC (C (j - 4)) else refC (D (j - (4 + c))) := by
 unfold two16
 rw [if_neg (by omega), if_neg (by omega), if_neg (by omega), if_neg (by omega)]
theorem two16_start {w : World} {B : Nat} (hB : B ≤ w.heap.size) (f g : Nat → Int) : Many w B (4 + 2 * c) (two16 c 0 0 0 0 (.slice none 0 0) (.slice none 0 0) (.slice none 0 0) (.slice none 0 0) (fun _ => none) (fun _ => none) f g) := by
 refine ⟨fun _ _ => False, fun i hi => ?_, fun _ _ k hk => hk.elim, fun _ _ _ _ _ k hk => hk.elim, hB⟩
 have nilR : ∀ (t : TypeId), (rowT t (.slice none 0 0) []).is w (fun _ => False) := fun t => ⟨World.ownsRow_nil _ _ _ _, fun g e => by cases e⟩
 unfold two16
 split
 ·exact nilR _
 ·split
  ·exact nilR _
  ·split
   ·exact nilR _
   ·split
    ·exact nilR _
    ·split
     ·exact trivial
     ·exact trivial
theorem two16_newP {w w' : World} {B t p : Nat} {E : Dr} {G : Nat → Prop} (h : Many w B (4 + 2 * c) (two16 c t nq nr ns vP vQ vR vS C D f g)) (ht : t < c) (hb : Below w.heap.size w w') (hd : DriveAt w' p E G) (hG : ∀ k, G k → w.heap.size ≤ k) :
  Many w' B (4 + 2 * c) (two16 c t nq nr ns vP vQ vR vS (swap1 C t (some (p, E))) D f g) := by
 refine (h.renew (i := 4 + t) (T' := drvT p E) hb hd hG).congr fun j hj => ?_
 have e0 : ptrs16 t (swap1 C t (some (p, E))) = ptrs16 t C := ptrs16_same fun i hi => by rw [swap1_other _ _ (by omega)]
 by_cases e : j = 4 + t
 ·subst e; rw [swap1_same, two16_p ht, swap1_same]; rfl
 ·rw [swap1_other _ _ e]
  by_cases h4 : j < 4
  ·unfold two16
   rw [e0]
   have : j = 0 ∨ j = 1 ∨ j = 2 ∨ j = 3 := by omega
   rcases this with rfl | rfl | rfl | rfl <;> rfl
  ·rw [two16_far h4, two16_far h4]
   split
   ·rw [swap1_other _ _ (by omega)]
   ·rfl
theorem two16_newR {w w' : World} {B t p : Nat} {E : Dr} {G : Nat → Prop} (h : Many w B (4 + 2 * c) (two16 c np nq t ns vP vQ vR vS C D f g)) (hb : Below w.heap.size w w') (hd : RefAt w' p E G) (hG : ∀ k, G k → w.heap.size ≤ k) :
  Many w' B (4 + 2 * c) (two16 c np nq t ns vP vQ vR vS C (swap1 D t (some (p, E))) f g) := by
 refine (h.renew (i := 4 + c + t) (T' := refT p E) hb hd hG).congr fun j hj => ?_
 have e0 : ptrs16 t (swap1 D t (some (p, E))) = ptrs16 t D := ptrs16_same fun i hi => by rw [swap1_other _ _ (by omega)]
 by_cases e : j = 4 + c + t
 ·subst e; rw [swap1_same, two16_r, swap1_same]; rfl
 ·rw [swap1_other _ _ e]
  by_cases h4 : j < 4
  ·unfold two16
   rw [e0]
   have : j = 0 ∨ j = 1 ∨ j = 2 ∨ j = 3 := by omega
   rcases this with rfl | rfl | rfl | rfl <;> rfl
  ·rw [two16_far h4, two16_far h4]
   split
   ·rfl
   ·rw [swap1_other _ _ (by omega)]
theorem two16_rowP {v : Value} {n : Nat} (j : Nat) : swap1 (two16 c np nq nr ns vP vQ vR vS C D f g) 0 (rowT 59 v (ptrs16 n C)) j = two16 c n nq nr ns v vQ vR vS C D f g j := by
 by_cases e : j = 0
 ·subst e; rw [swap1_same, two16_0]
 ·rw [swap1_other _ _ e]; unfold two16; rw [if_neg e, if_neg e]
theorem two16_rowQ {v : Value} {n : Nat} (j : Nat) : swap1 (two16 c np nq nr ns vP vQ vR vS C D f g) 1 (rowT 3 v (ints16 n f)) j = two16 c np n nr ns vP v vR vS C D f g j := by
 by_cases e : j = 1
 ·subst e; rw [swap1_same, two16_1]
 ·rw [swap1_other _ _ e]; unfold two16; rw [if_neg e, if_neg e]
theorem two16_rowR {v : Value} {n : Nat} (j : Nat) : swap1 (two16 c np nq nr ns vP vQ vR vS C D f g) 2 (rowT 67 v (ptrs16 n D)) j = two16 c np nq n ns vP vQ v vS C D f g j := by
 by_cases e : j = 2
 ·subst e; rw [swap1_same, two16_2]
 ·rw [swap1_other _ _ e]; unfold two16; rw [if_neg e, if_neg e]
theorem two16_rowS {v : Value} {n : Nat} (j : Nat) : swap1 (two16 c np nq nr ns vP vQ vR vS C D f g) 3 (rowT 3 v (ints16 n g)) j = two16 c np nq nr n vP vQ vR v C D f g j := by
 by_cases e : j = 3
 ·subst e; rw [swap1_same, two16_3]
 ·rw [swap1_other _ _ e]; unfold two16; rw [if_neg e, if_neg e]
end
end Go.Proofs.YtdgkhjgnjfgnlaaGreat
namespace Go.Proofs.YtdgkhjgnjfgnlaaGreat
open Go.RowKit
theorem many_setL {w : World} {B m : Nat} {T : Nat → Thing} (h : Many w B m T) {i : Nat} (hi : i < m) {t : TypeId} {g n cap : Nat} {l : List Value} (hn : n = l.length) (e : T i = rowT t (.slice (some ⟨g, 0, none⟩) n cap) l) (j : Nat) (u : Value) :
  Many (w.setCell ⟨g, j, none⟩ u) B m (swap1 T i (rowT t (.slice (some ⟨g, 0, none⟩) n cap) (l.set j u))) ∧ Only (fun k => B ≤ k ∧ k < w.heap.size) w (w.setCell ⟨g, j, none⟩ u) := by
 subst hn
 obtain ⟨F, h1, h2, h3, h4⟩ := h
 have hF := h1 i hi
 rw [e] at hF
 obtain ⟨ho, hf⟩ := hF
 refine Many.turned hi h1 h2 h3 h4 ⟨?_, fun g' hg' => .inl (hf g' hg')⟩ (Only.setCell _ _ _ _ (hf g rfl))
 have := (ho.stored j u).1
 rw [List.length_set]
 exact this
theorem many_rows_ne {w : World} {B m : Nat} {T : Nat → Thing} (h : Many w B m T) {i j : Nat} (hi : i < m) (hj : j < m) (hne : i ≠ j) {t t' : TypeId} {g g' n n' cap cap' : Nat} {l l' : List Value} (e : T i = rowT t (.slice (some ⟨g, 0, none⟩) n cap) l) (e' : T j = rowT t' (.slice (some ⟨g', 0, none⟩) n' cap') l') : g ≠ g' := by
 obtain ⟨F, h1, h2, h3, h4⟩ := h
 have a := h1 i hi
 have b := h1 j hj
 rw [e] at a
 rw [e'] at b
 intro hg
 subst hg
 exact h3 i j hi hj hne g (a.2 g rfl) (b.2 g rfl)
theorem Many.drop {w : World} {B m : Nat} {T : Nat → Thing} (h : Many w B m T) (i : Nat) : Many w B m (swap1 T i Thing.none) := by
 obtain ⟨F, h1, h2, h3, h4⟩ := h
 refine ⟨F, fun j hj => ?_, h2, h3, h4⟩
 by_cases e : j = i
 ·rw [e, swap1_same]; exact trivial
 ·rw [swap1_other _ _ e]; exact h1 j hj
theorem ptrs16_set {n j : Nat} (C : Nat → Ro.Col) (x : Ro.Col) : (ptrs16 n C).set j (Ro.ptr x) = ptrs16 n (swap1 C j x) := by
 apply List.ext_getElem?
 intro i
 by_cases hi : i < n
 ·by_cases e : i = j
  ·subst e
   rw [List.getElem?_set_self (by rw [ptrs16_len]; exact hi), ptrs16_at _ hi, swap1_same]
  ·rw [List.getElem?_set_ne (Ne.symm e), ptrs16_at _ hi, ptrs16_at _ hi, swap1_other _ _ e]
 ·rw [List.getElem?_eq_none (by rw [List.length_set, ptrs16_len]; omega), List.getElem?_eq_none (by rw [ptrs16_len]; omega)]
theorem ints16_set {n j : Nat} (f : Nat → Int) (x : Int) : (ints16 n f).set j (.int .i64 x) = ints16 n (swap1 f j x) := by
 apply List.ext_getElem?
 intro i
 by_cases hi : i < n
 ·by_cases e : i = j
  ·subst e
   rw [List.getElem?_set_self (by rw [ints16_len]; exact hi), ints16_at _ hi, swap1_same]
  ·rw [List.getElem?_set_ne (Ne.symm e), ints16_at _ hi, ints16_at _ hi, swap1_other _ _ e]
 ·rw [List.getElem?_eq_none (by rw [List.length_set, ints16_len]; omega), List.getElem?_eq_none (by rw [ints16_len]; omega)]
section
variable {w : World} {B c np nq nr ns : Nat} {vP vQ vR vS : Value} {C D : Nat → Ro.Col} {f f' : Nat → Int} {a cap : Nat}
end
namespace Ro
theorem wrC_ptr (c k r dn bn : Nat) (C : Nat → Col) (row off role : Int) (s : ByteArray) (i : Nat) : ptr (wrC c k r dn bn C row off role s i) = ptr (C i) := by
 unfold wrC
 split
 ·split
  ·by_cases e : i = colN c row.toNat role.toNat
   ·rw [e, swap1_same]
    unfold colC
    cases C (colN c row.toNat role.toNat) with
    | none => rfl
    | some x =>
     show ptr (if x.2.dead then some x else some (x.1, _)) = _
     split <;> rfl
   ·rw [swap1_other _ _ e]
  ·rfl
 ·rfl
theorem flushC_ptr (c k r dn bn : Nat) (C : Nat → Col) (i : Nat) : ptr (flushC c k r dn bn C i) = ptr (C i) := by
 unfold flushC
 split
 ·unfold flC
  split
  ·cases C i with
   | none => rfl
   | some x =>
    show ptr (if x.2.dead then some x else some (x.1, _)) = _
    split <;> rfl
  ·rfl
 ·rfl
end Ro
end Go.Proofs.YtdgkhjgnjfgnlaaGreat
namespace Go.Proofs.YtdgkhjgnjfgnlaaGreat
open Go.RowKit
structure Box5 (w : World) (b : Nat) (c0 c1 c2 c3 c4 : Value) : Prop where
 k0 : w.cell? ⟨b, 0, none⟩ = some c0
 k1 : w.cell? ⟨b, 1, none⟩ = some c1
 k2 : w.cell? ⟨b, 2, none⟩ = some c2
 k3 : w.cell? ⟨b, 3, none⟩ = some c3
 k4 : w.cell? ⟨b, 4, none⟩ = some c4
 fz : ∀ j, w.frozen? ⟨b, j, none⟩ = false
namespace Box5
variable {w w' : World} {b B : Nat} {c0 c1 c2 c3 c4 : Value}
theorem new (w : World) (t : TypeId) (c0 c1 c2 c3 c4 : Value) : Box5 (w.alloc (.cells #[c0, c1, c2, c3, c4] t)) w.heap.size c0 c1 c2 c3 c4 :=
 ⟨World.cell?_alloc_mark w _ t (0, 0) 0, World.cell?_alloc_mark w _ t (0, 0) 1, World.cell?_alloc_mark w _ t (0, 0) 2, World.cell?_alloc_mark w _ t (0, 0) 3, World.cell?_alloc_mark w _ t (0, 0) 4, fun j => by rw [World.frozen?_alloc_mark]; simp⟩
theorem lt (h : Box5 w b c0 c1 c2 c3 c4) : b < w.heap.size := World.block_lt_of_cell? w _ h.k0
theorem below (h : Box5 w b c0 c1 c2 c3 c4) (hb : Below B w w') (hB : b < B) : Box5 w' b c0 c1 c2 c3 c4 :=
 ⟨(hb.cell (p := ⟨b, 0, none⟩) hB).trans h.k0, (hb.cell (p := ⟨b, 1, none⟩) hB).trans h.k1, (hb.cell (p := ⟨b, 2, none⟩) hB).trans h.k2, (hb.cell (p := ⟨b, 3, none⟩) hB).trans h.k3, (hb.cell (p := ⟨b, 4, none⟩) hB).trans h.k4, fun j => (hb.frozen (p := ⟨b, j, none⟩) hB).trans (h.fz j)⟩
theorem far (h : Box5 w b c0 c1 c2 c3 c4) {p : Addr} (hp : p.block ≠ b) (x : Value) : Box5 (w.setCell p x) b c0 c1 c2 c3 c4 :=
 ⟨(World.cell?_setCell_other _ _ _ _ (fun e => hp (by rw [e]))).trans h.k0, (World.cell?_setCell_other _ _ _ _ (fun e => hp (by rw [e]))).trans h.k1, (World.cell?_setCell_other _ _ _ _ (fun e => hp (by rw [e]))).trans h.k2, (World.cell?_setCell_other _ _ _ _ (fun e => hp (by rw [e]))).trans h.k3, (World.cell?_setCell_other _ _ _ _ (fun e => hp (by rw [e]))).trans h.k4, fun j => (World.frozen?_setCell _ _ _ _).trans (h.fz j)⟩
theorem put3 (h : Box5 w b c0 c1 c2 c3 c4) (x : Value) : Box5 (w.setCell ⟨b, 3, none⟩ x) b c0 c1 c2 x c4 :=
 ⟨(World.cell?_setCell_other _ _ _ _ (fun e => by injection e with _ e2; cases e2)).trans h.k0, (World.cell?_setCell_other _ _ _ _ (fun e => by injection e with _ e2; cases e2)).trans h.k1, (World.cell?_setCell_other _ _ _ _ (fun e => by injection e with _ e2; cases e2)).trans h.k2, World.cell?_setCell_same _ _ _ h.k3, (World.cell?_setCell_other _ _ _ _ (fun e => by injection e with _ e2; cases e2)).trans h.k4, fun j => (World.frozen?_setCell _ _ _ _).trans (h.fz j)⟩
theorem put4 (h : Box5 w b c0 c1 c2 c3 c4) (x : Value) : Box5 (w.setCell ⟨b, 4, none⟩ x) b c0 c1 c2 c3 x :=
 ⟨(World.cell?_setCell_other _ _ _ _ (fun e => by injection e with _ e2; cases e2)).trans h.k0, (World.cell?_setCell_other _ _ _ _ (fun e => by injection e with _ e2; cases e2)).trans h.k1, (World.cell?_setCell_other _ _ _ _ (fun e => by injection e with _ e2; cases e2)).trans h.k2, (World.cell?_setCell_other _ _ _ _ (fun e => by injection e with _ e2; cases e2)).trans h.k3, World.cell?_setCell_same _ _ _ h.k4, fun j => (World.frozen?_setCell _ _ _ _).trans (h.fz j)⟩
end Box5
def nilV : Value := .slice none 0 0
def Set5 (w : World) (b c k r : Nat) (vD vB : Value) : Prop := Box5 w b (.int .i64 (c : Int)) (.int .i64 (k : Int)) (.int .i64 (r : Int)) vD vB
structure Pair16 (w : World) (c k r np nq nr ns : Nat) (vP vQ vR vS : Value) (C D : Nat → Ro.Col) (f g : Nat → Int) (W : World) : Prop where
 geo : W.cell? ⟨w.heap.size, 0, none⟩ = some (.int .i64 (c : Int)) ∧ W.cell? ⟨w.heap.size, 1, none⟩ = some (.int .i64 (k : Int)) ∧ W.cell? ⟨w.heap.size, 2, none⟩ = some (.int .i64 (r : Int))
 z4 : Set5 W (w.heap.size + 1) 0 0 0 nilV nilV
 z5 : Set5 W (w.heap.size + 2) 0 0 0 nilV nilV
 s6 : Set5 W (w.heap.size + 3) c k r vP vQ
 s7 : Set5 W (w.heap.size + 4) c k r vR vS
 many : Many W (w.heap.size + 5) (4 + 2 * c) (two16 c np nq nr ns vP vQ vR vS C D f g)
 low : Below w.heap.size w W
namespace Pair16
variable {w W W' : World} {c k r np nq nr ns : Nat} {vP vQ vR vS : Value} {C D : Nat → Ro.Col} {f g : Nat → Int}
theorem size (h : Pair16 w c k r np nq nr ns vP vQ vR vS C D f g W) : w.heap.size + 5 ≤ W.heap.size := h.many.size
theorem rows (h : Pair16 w c k r np nq nr ns vP vQ vR vS C D f g W) {np' nq' nr' ns' : Nat} {C' D' : Nat → Ro.Col} (hb : Below (w.heap.size + 5) W W') {vP' vQ' vR' vS' : Value}
  (hm : Many W' (w.heap.size + 5) (4 + 2 * c) (two16 c np' nq' nr' ns' vP' vQ' vR' vS' C' D' f g)) (s6 : Set5 W' (w.heap.size + 3) c k r vP' vQ') (s7 : Set5 W' (w.heap.size + 4) c k r vR' vS') : Pair16 w c k r np' nq' nr' ns' vP' vQ' vR' vS' C' D' f g W' :=
 ⟨⟨(hb.cell (p := ⟨w.heap.size, 0, none⟩) (by show w.heap.size < _; omega)).trans h.geo.1, (hb.cell (p := ⟨w.heap.size, 1, none⟩) (by show w.heap.size < _; omega)).trans h.geo.2.1, (hb.cell (p := ⟨w.heap.size, 2, none⟩) (by show w.heap.size < _; omega)).trans h.geo.2.2⟩,
  Box5.below h.z4 hb (by omega), Box5.below h.z5 hb (by omega), s6, s7, hm, h.low.trans (hb.mono (by omega))⟩
theorem keep6 (h : Pair16 w c k r np nq nr ns vP vQ vR vS C D f g W) (hb : Below (w.heap.size + 5) W W') : Set5 W' (w.heap.size + 3) c k r vP vQ := Box5.below h.s6 hb (by omega)
theorem keep7 (h : Pair16 w c k r np nq nr ns vP vQ vR vS C D f g W) (hb : Below (w.heap.size + 5) W W') : Set5 W' (w.heap.size + 4) c k r vR vS := Box5.below h.s7 hb (by omega)
theorem put (h : Pair16 w c k r np nq nr ns vP vQ vR vS C D f g W) (hb : Below (w.heap.size + 5) W W') {b j : Nat} (hbb : b = w.heap.size + 3 ∨ b = w.heap.size + 4) (x : Value) {np' nq' nr' ns' : Nat} {vP' vQ' vR' vS' : Value} {C' D' : Nat → Ro.Col}
  (hm : Many W' (w.heap.size + 5) (4 + 2 * c) (two16 c np' nq' nr' ns' vP' vQ' vR' vS' C' D' f g)) (s6 : Set5 (W'.setCell ⟨b, j, none⟩ x) (w.heap.size + 3) c k r vP' vQ') (s7 : Set5 (W'.setCell ⟨b, j, none⟩ x) (w.heap.size + 4) c k r vR' vS') :
  Pair16 w c k r np' nq' nr' ns' vP' vQ' vR' vS' C' D' f g (W'.setCell ⟨b, j, none⟩ x) := by
 have hsz := h.size
 have hsz2 := hm.size
 have hO : Only (fun k => k = b) W' (W'.setCell ⟨b, j, none⟩ x) := Only.setCell _ _ _ _ rfl
 have hl : Below w.heap.size W' (W'.setCell ⟨b, j, none⟩ x) := hO.below (fun k hk => by rw [hk]; omega) (by omega)
 have z4 : Set5 W' (w.heap.size + 1) 0 0 0 nilV nilV := Box5.below h.z4 hb (by omega)
 have z5 : Set5 W' (w.heap.size + 2) 0 0 0 nilV nilV := Box5.below h.z5 hb (by omega)
 refine ⟨⟨?_, ?_, ?_⟩, Box5.far z4 (by show b ≠ _; omega) _, Box5.far z5 (by show b ≠ _; omega) _, s6, s7, hm.only hO (fun k hk => .inl (by rw [hk]; omega)), (h.low.trans (hb.mono (by omega))).trans hl⟩
 ·exact (World.cell?_setCell_other _ _ _ _ (fun e => by injection e with e1; omega)).trans ((hb.cell (p := ⟨w.heap.size, 0, none⟩) (by show w.heap.size < _; omega)).trans h.geo.1)
 ·exact (World.cell?_setCell_other _ _ _ _ (fun e => by injection e with e1; omega)).trans ((hb.cell (p := ⟨w.heap.size, 1, none⟩) (by show w.heap.size < _; omega)).trans h.geo.2.1)
 ·exact (World.cell?_setCell_other _ _ _ _ (fun e => by injection e with e1; omega)).trans ((hb.cell (p := ⟨w.heap.size, 2, none⟩) (by show w.heap.size < _; omega)).trans h.geo.2.2)
theorem putP (h : Pair16 w c k r np nq nr ns vP vQ vR vS C D f g W) (hb : Below (w.heap.size + 5) W W') {np' : Nat} {x : Value} {C' : Nat → Ro.Col} (hm : Many W' (w.heap.size + 5) (4 + 2 * c) (two16 c np' nq nr ns x vQ vR vS C' D f g)) :
  Pair16 w c k r np' nq nr ns x vQ vR vS C' D f g (W'.setCell ⟨w.heap.size + 3, 3, none⟩ x) :=
 h.put hb (.inl rfl) x hm (Box5.put3 (h.keep6 hb) _) (Box5.far (h.keep7 hb) (by show w.heap.size + 3 ≠ _; omega) _)
theorem putQ (h : Pair16 w c k r np nq nr ns vP vQ vR vS C D f g W) (hb : Below (w.heap.size + 5) W W') {nq' : Nat} {x : Value} (hm : Many W' (w.heap.size + 5) (4 + 2 * c) (two16 c np nq' nr ns vP x vR vS C D f g)) :
  Pair16 w c k r np nq' nr ns vP x vR vS C D f g (W'.setCell ⟨w.heap.size + 3, 4, none⟩ x) :=
 h.put hb (.inl rfl) x hm (Box5.put4 (h.keep6 hb) _) (Box5.far (h.keep7 hb) (by show w.heap.size + 3 ≠ _; omega) _)
theorem putR (h : Pair16 w c k r np nq nr ns vP vQ vR vS C D f g W) (hb : Below (w.heap.size + 5) W W') {nr' : Nat} {x : Value} {D' : Nat → Ro.Col} (hm : Many W' (w.heap.size + 5) (4 + 2 * c) (two16 c np nq nr' ns vP vQ x vS C D' f g)) :
  Pair16 w c k r np nq nr' ns vP vQ x vS C D' f g (W'.setCell ⟨w.heap.size + 4, 3, none⟩ x) :=
 h.put hb (.inr rfl) x hm (Box5.far (h.keep6 hb) (by show w.heap.size + 4 ≠ _; omega) _) (Box5.put3 (h.keep7 hb) _)
theorem putS (h : Pair16 w c k r np nq nr ns vP vQ vR vS C D f g W) (hb : Below (w.heap.size + 5) W W') {ns' : Nat} {x : Value} (hm : Many W' (w.heap.size + 5) (4 + 2 * c) (two16 c np nq nr ns' vP vQ vR x C D f g)) :
  Pair16 w c k r np nq nr ns' vP vQ vR x C D f g (W'.setCell ⟨w.heap.size + 4, 4, none⟩ x) :=
 h.put hb (.inr rfl) x hm (Box5.far (h.keep6 hb) (by show w.heap.size + 4 ≠ _; omega) _) (Box5.put4 (h.keep7 hb) _)
theorem start (w : World) (c k r : Nat) (f g : Nat → Int) (tg ts tr : TypeId) :
  Pair16 w c k r 0 0 0 0 nilV nilV nilV nilV (fun _ => none) (fun _ => none) f g (((((w.alloc (.cells #[.int .i64 (c : Int), .int .i64 (k : Int), .int .i64 (r : Int)] tg)).alloc (.cells #[.int .i64 0, .int .i64 0, .int .i64 0, .slice none 0 0, .slice none 0 0] ts)).alloc (.cells #[.int .i64 0, .int .i64 0, .int .i64 0, .slice none 0 0, .slice none 0 0] tr)).alloc (.cells #[.int .i64 (c : Int), .int .i64 (k : Int), .int .i64 (r : Int), .slice none 0 0, .slice none 0 0] ts)).alloc (.cells #[.int .i64 (c : Int), .int .i64 (k : Int), .int .i64 (r : Int), .slice none 0 0, .slice none 0 0] tr)) := by
 have al : ∀ (W : World) (cs : Array Value) (t : TypeId), Below W.heap.size W (W.alloc (.cells cs t)) := fun W cs t => (Below.refl _ _).alloc (Nat.le_refl _) _
 have b1 := al w #[.int .i64 (c : Int), .int .i64 (k : Int), .int .i64 (r : Int)] tg
 generalize hw1 : w.alloc (.cells #[.int .i64 (c : Int), .int .i64 (k : Int), .int .i64 (r : Int)] tg) = w1 at b1 ⊢
 have n1 : w1.heap.size = w.heap.size + 1 := by rw [← hw1, World.size_alloc]
 have g0 : w1.cell? ⟨w.heap.size, 0, none⟩ = some (.int .i64 (c : Int)) ∧ w1.cell? ⟨w.heap.size, 1, none⟩ = some (.int .i64 (k : Int)) ∧ w1.cell? ⟨w.heap.size, 2, none⟩ = some (.int .i64 (r : Int)) := by
  rw [← hw1]; exact ⟨World.cell?_alloc_mark w _ tg (0, 0) 0, World.cell?_alloc_mark w _ tg (0, 0) 1, World.cell?_alloc_mark w _ tg (0, 0) 2⟩
 have x4 := Box5.new w1 ts (.int .i64 ((0 : Nat) : Int)) (.int .i64 ((0 : Nat) : Int)) (.int .i64 ((0 : Nat) : Int)) nilV nilV
 have b4 := al w1 #[.int .i64 0, .int .i64 0, .int .i64 0, .slice none 0 0, .slice none 0 0] ts
 change Box5 (w1.alloc (.cells #[.int .i64 0, .int .i64 0, .int .i64 0, .slice none 0 0, .slice none 0 0] ts)) _ _ _ _ _ _ at x4
 generalize hw2 : w1.alloc (.cells #[.int .i64 0, .int .i64 0, .int .i64 0, .slice none 0 0, .slice none 0 0] ts) = w2 at b4 x4 ⊢
 have n2 : w2.heap.size = w.heap.size + 2 := by rw [← hw2, World.size_alloc, n1]
 have x5 := Box5.new w2 tr (.int .i64 ((0 : Nat) : Int)) (.int .i64 ((0 : Nat) : Int)) (.int .i64 ((0 : Nat) : Int)) nilV nilV
 have b5 := al w2 #[.int .i64 0, .int .i64 0, .int .i64 0, .slice none 0 0, .slice none 0 0] tr
 change Box5 (w2.alloc (.cells #[.int .i64 0, .int .i64 0, .int .i64 0, .slice none 0 0, .slice none 0 0] tr)) _ _ _ _ _ _ at x5
 generalize hw3 : w2.alloc (.cells #[.int .i64 0, .int .i64 0, .int .i64 0, .slice none 0 0, .slice none 0 0] tr) = w3 at b5 x5 ⊢
 have n3 : w3.heap.size = w.heap.size + 3 := by rw [← hw3, World.size_alloc, n2]
 have x6 := Box5.new w3 ts (.int .i64 (c : Int)) (.int .i64 (k : Int)) (.int .i64 (r : Int)) nilV nilV
 have b6 := al w3 #[.int .i64 (c : Int), .int .i64 (k : Int), .int .i64 (r : Int), .slice none 0 0, .slice none 0 0] ts
 change Box5 (w3.alloc (.cells #[.int .i64 (c : Int), .int .i64 (k : Int), .int .i64 (r : Int), .slice none 0 0, .slice none 0 0] ts)) _ _ _ _ _ _ at x6
 generalize hw4 : w3.alloc (.cells #[.int .i64 (c : Int), .int .i64 (k : Int), .int .i64 (r : Int), .slice none 0 0, .slice none 0 0] ts) = w4 at b6 x6 ⊢
 have n4 : w4.heap.size = w.heap.size + 4 := by rw [← hw4, World.size_alloc, n3]
 have x7 := Box5.new w4 tr (.int .i64 (c : Int)) (.int .i64 (k : Int)) (.int .i64 (r : Int)) nilV nilV
 have b7 := al w4 #[.int .i64 (c : Int), .int .i64 (k : Int), .int .i64 (r : Int), .slice none 0 0, .slice none 0 0] tr
 change Box5 (w4.alloc (.cells #[.int .i64 (c : Int), .int .i64 (k : Int), .int .i64 (r : Int), .slice none 0 0, .slice none 0 0] tr)) _ _ _ _ _ _ at x7
 generalize hw5 : w4.alloc (.cells #[.int .i64 (c : Int), .int .i64 (k : Int), .int .i64 (r : Int), .slice none 0 0, .slice none 0 0] tr) = w5 at b7 x7 ⊢
 have n5 : w5.heap.size = w.heap.size + 5 := by rw [← hw5, World.size_alloc, n4]
 rw [n1] at x4 b4
 rw [n2] at x5 b5
 rw [n3] at x6 b6
 rw [n4] at x7 b7
 have q4 : Below (w.heap.size + 1) w1 w5 := ((b4.trans (b5.mono (by omega))).trans (b6.mono (by omega))).trans (b7.mono (by omega))
 have q5 : Below (w.heap.size + 2) w2 w5 := (b5.trans (b6.mono (by omega))).trans (b7.mono (by omega))
 have q6 : Below (w.heap.size + 3) w3 w5 := b6.trans (b7.mono (by omega))
 exact ⟨⟨(q4.cell (p := ⟨w.heap.size, 0, none⟩) (Nat.lt_succ_self _)).trans g0.1, (q4.cell (p := ⟨w.heap.size, 1, none⟩) (Nat.lt_succ_self _)).trans g0.2.1, (q4.cell (p := ⟨w.heap.size, 2, none⟩) (Nat.lt_succ_self _)).trans g0.2.2⟩,
  x4.below q5 (by omega), x5.below q6 (by omega), x6.below b7 (by omega), x7, two16_start (by omega) f g, b1.trans (q4.mono (by omega))⟩
end Pair16
end Go.Proofs.YtdgkhjgnjfgnlaaGreat
