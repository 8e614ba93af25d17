import Derived.Test.YtdgkhjgnjfgnlaaGreatMRoE
import Derived.Test.YtdgkhjgnjfgnlaaGreatMKitC
import Derived.Test.YtdgkhjgnjfgnlaaGreatRoPairW
import Derived.Test.YtdgkhjgnjfgnlaaGreatMKitH
import Derived.IntWalk
import Derived.Test.YtdgkhjgnjfgnlaaGreatMDrvE
namespace Go.Proofs.YtdgkhjgnjfgnlaaGreat
open Go.RowKit
def St16 (w : World) (B c : Nat) (vP vQ vR vS : Value) (C D : Nat → Ro.Col) (f g : Nat → Int) (l : List Thing) : Prop :=
 Many w B (4 + 2 * c + l.length) (withL (two16 c c c c c vP vQ vR vS C D f g) (4 + 2 * c) l)
section
variable {w w' : World} {B c : Nat} {vP vQ vR vS : Value} {C D : Nat → Ro.Col} {f g : Nat → Int} {l : List Thing}
theorem St16.of (h : Many w B (4 + 2 * c) (two16 c c c c c vP vQ vR vS C D f g)) : St16 w B c vP vQ vR vS C D f g [] := withL_nil h
theorem St16.out (h : St16 w B c vP vQ vR vS C D f g l) : Many w B (4 + 2 * c) (two16 c c c c c vP vQ vR vS C D f g) := withL_out h (by omega)
theorem St16.below (h : St16 w B c vP vQ vR vS C D f g l) (hb : Below w.heap.size w w') : St16 w' B c vP vQ vR vS C D f g l := Many.below h hb
theorem St16.size (h : St16 w B c vP vQ vR vS C D f g l) : B ≤ w.heap.size := Many.size h
theorem St16.more (h : St16 w B c vP vQ vR vS C D f g l) {t : Thing} {G : Nat → Prop} (hb : Below w.heap.size w w') (ht : t.is w' G) (hG : ∀ k, G k → w.heap.size ≤ k) : St16 w' B c vP vQ vR vS C D f g (l ++ [t]) := by
 have h1 := withL_add h rfl hb ht hG
 unfold St16
 rw [List.length_append]
 exact h1
theorem St16.box (h : St16 w B c vP vQ vR vS C D f g l) (t : TypeId) (cs : Array Value) : St16 (w.alloc (.cells cs t)) B c vP vQ vR vS C D f g (l ++ [blkT w.heap.size t cs]) :=
 h.more ((Below.refl _ _).alloc (Nat.le_refl _) _) (blk_new w t cs) (fun _ hk => hk)
theorem St16.block (h : St16 w B c vP vQ vR vS C D f g l) {i b : Nat} {t : TypeId} {cs : Array Value} (e : l[i]? = some (blkT b t cs)) : w.heap[b]? = some (.cells cs t (0, 0)) := by
 have hi : i < l.length := (List.getElem?_eq_some_iff.1 e).1
 obtain ⟨F, hF, _⟩ := Many.look h (i := 4 + 2 * c + i) (by omega)
 rw [withL_at, List.getD_eq_getElem?_getD, e] at hF
 exact hF.1
theorem St16.cell (h : St16 w B c vP vQ vR vS C D f g l) {i b : Nat} {t : TypeId} {cs : Array Value} (e : l[i]? = some (blkT b t cs)) (j : Nat) : w.cell? ⟨b, j, none⟩ = cs[j]? := cell_of_row w b j cs t (0, 0) (h.block e)
theorem St16.lt (h : St16 w B c vP vQ vR vS C D f g l) {i b : Nat} {t : TypeId} {cs : Array Value} (e : l[i]? = some (blkT b t cs)) : b < w.heap.size := (Array.getElem?_eq_some_iff.1 (h.block e)).1
theorem St16.pr {da ba : Option Addr} {dcap bcap : Nat} (h : St16 w B c (.slice da c dcap) (.slice ba c bcap) vR vS C D f g l) :
  PrM w B (4 + 2 * c + l.length) (withL (two16 c c c c c (.slice da c dcap) (.slice ba c bcap) vR vS C D f g) (4 + 2 * c) l) 0 1 4 da c dcap ba c bcap C f :=
 ⟨h, by omega, by omega, by omega, ⟨ptrs16 c C, (withL_low (by omega)).trans two16_0, ptrs16_len _ _, fun _ hi => ptrs16_at C hi⟩, ⟨ints16 c f, (withL_low (by omega)).trans two16_1, ints16_len _ _, fun _ hi => ints16_at f hi⟩, fun _ hi => (withL_low (by omega)).trans (two16_p hi), by omega, by omega⟩
theorem St16.ref {da ba : Option Addr} {dcap bcap : Nat} (h : St16 w B c vP vQ (.slice da c dcap) (.slice ba c bcap) C D f g l) :
  RefM w B (4 + 2 * c + l.length) (withL (two16 c c c c c vP vQ (.slice da c dcap) (.slice ba c bcap) C D f g) (4 + 2 * c) l) 2 3 (4 + c) da c dcap ba c bcap D g :=
 ⟨h, by omega, by omega, by omega, ⟨ptrs16 c D, (withL_low (by omega)).trans two16_2, ptrs16_len _ _, fun _ hi => ptrs16_at D hi⟩, ⟨ints16 c g, (withL_low (by omega)).trans two16_3, ints16_len _ _, fun _ hi => ints16_at g hi⟩, fun i _ => (withL_low (by omega)).trans (two16_r i), by omega, by omega⟩
theorem two16_likeP {C' : Nat → Ro.Col} (hp : ∀ i, Ro.ptr (C' i) = Ro.ptr (C i)) {q : Nat} (hq : ¬ (4 ≤ q ∧ q < 4 + c)) : two16 c c c c c vP vQ vR vS C D f g q = two16 c c c c c vP vQ vR vS C' D f g q := by
 by_cases h4 : q < 4
 ·unfold two16
  rw [ptrs16_same (n := c) (C := C) (D := C') fun i _ => (hp i).symm]
  have : q = 0 ∨ q = 1 ∨ q = 2 ∨ q = 3 := by omega
  rcases this with rfl | rfl | rfl | rfl <;> rfl
 ·rw [two16_far h4, two16_far h4, if_neg (by omega), if_neg (by omega)]
theorem two16_likeR {D' : Nat → Ro.Col} (hp : ∀ i, Ro.ptr (D' i) = Ro.ptr (D i)) {q : Nat} (hq : q < 4 + c) : two16 c c c c c vP vQ vR vS C D f g q = two16 c c c c c vP vQ vR vS C D' f g q := by
 by_cases h4 : q < 4
 ·unfold two16
  rw [ptrs16_same (n := c) (C := D) (D := D') fun i _ => (hp i).symm]
  have : q = 0 ∨ q = 1 ∨ q = 2 ∨ q = 3 := by omega
  rcases this with rfl | rfl | rfl | rfl <;> rfl
 ·rw [two16_far h4, two16_far h4, if_pos (by omega), if_pos (by omega)]
theorem St16.turnP {C' : Nat → Ro.Col} (hp : ∀ i, Ro.ptr (C' i) = Ro.ptr (C i)) (h : Many w B (4 + 2 * c + l.length) (spread (withL (two16 c c c c c vP vQ vR vS C D f g) (4 + 2 * c) l) 4 c (fun i => prC (C' i)))) : St16 w B c vP vQ vR vS C' D f g l := by
 refine Many.congr h fun q _ => ?_
 by_cases hq : 4 ≤ q ∧ q < 4 + c
 ·obtain ⟨i, rfl⟩ : ∃ i, q = 4 + i := ⟨q - 4, by omega⟩
  rw [spread_in _ _ _ _ (by omega), withL_low (by omega), two16_p (by omega)]
 ·rw [spread_out _ _ _ _ (by omega)]
  by_cases hl : q < 4 + 2 * c
  ·rw [withL_low hl, withL_low hl]; exact two16_likeP hp hq
  ·unfold withL; rw [if_neg hl, if_neg hl]
theorem St16.turnR {D' : Nat → Ro.Col} (hp : ∀ i, Ro.ptr (D' i) = Ro.ptr (D i)) (h : Many w B (4 + 2 * c + l.length) (spread (withL (two16 c c c c c vP vQ vR vS C D f g) (4 + 2 * c) l) (4 + c) c (fun i => refC (D' i)))) : St16 w B c vP vQ vR vS C D' f g l := by
 refine Many.congr h fun q _ => ?_
 by_cases hq : 4 + c ≤ q ∧ q < 4 + c + c
 ·obtain ⟨i, rfl⟩ : ∃ i, q = 4 + c + i := ⟨q - (4 + c), by omega⟩
  rw [spread_in _ _ _ _ (by omega), withL_low (by omega), two16_r]
 ·rw [spread_out _ _ _ _ (by omega)]
  by_cases hl : q < 4 + 2 * c
  ·rw [withL_low hl, withL_low hl]; exact two16_likeR hp (by omega)
  ·unfold withL; rw [if_neg hl, if_neg hl]
theorem St16.setQ {a cap : Nat} (h : St16 w B c vP (.slice (some ⟨a, 0, none⟩) c cap) vR vS C D f g l) (j : Nat) (x : Int) :
  St16 (w.setCell ⟨a, j, none⟩ (.int .i64 x)) B c vP (.slice (some ⟨a, 0, none⟩) c cap) vR vS C D (swap1 f j x) g l ∧ Only (fun k => B ≤ k ∧ k < w.heap.size) w (w.setCell ⟨a, j, none⟩ (.int .i64 x)) := by
 obtain ⟨h1, h2⟩ := many_setL h (i := 1) (by omega) (by rw [ints16_len]) ((withL_low (by omega)).trans two16_1) j (.int .i64 x)
 refine ⟨Many.congr h1 fun q _ => ?_, h2⟩
 refine withL_base (by omega) (fun q _ => ?_) q
 rw [ints16_set]
 by_cases e : q = 1
 ·subst e; rw [swap1_same, two16_1]
 ·rw [swap1_other _ _ e]; unfold two16; rw [if_neg e, if_neg e]
theorem St16.setS {a cap : Nat} (h : St16 w B c vP vQ vR (.slice (some ⟨a, 0, none⟩) c cap) C D f g l) (j : Nat) (x : Int) :
  St16 (w.setCell ⟨a, j, none⟩ (.int .i64 x)) B c vP vQ vR (.slice (some ⟨a, 0, none⟩) c cap) C D f (swap1 g j x) l ∧ Only (fun k => B ≤ k ∧ k < w.heap.size) w (w.setCell ⟨a, j, none⟩ (.int .i64 x)) := by
 obtain ⟨h1, h2⟩ := many_setL h (i := 3) (by omega) (by rw [ints16_len]) ((withL_low (by omega)).trans two16_3) j (.int .i64 x)
 refine ⟨Many.congr h1 fun q _ => ?_, h2⟩
 refine withL_base (by omega) (fun q _ => ?_) q
 rw [ints16_set]
 by_cases e : q = 3
 ·subst e; rw [swap1_same, two16_3]
 ·rw [swap1_other _ _ e]; unfold two16; rw [if_neg e, if_neg e]
theorem St16.goneP {a cap : Nat} (h : St16 w B c (.slice (some ⟨a, 0, none⟩) c cap) vQ vR vS C D f g l) {j : Nat} (hj : j < c) :
  St16 (w.setCell ⟨a, j, none⟩ (.pointer none)) B c (.slice (some ⟨a, 0, none⟩) c cap) vQ vR vS (swap1 C j none) D f g l ∧ Only (fun k => B ≤ k ∧ k < w.heap.size) w (w.setCell ⟨a, j, none⟩ (.pointer none)) := by
 obtain ⟨h1, h2⟩ := many_setL h (i := 0) (by omega) (by rw [ptrs16_len]) ((withL_low (by omega)).trans two16_0) j (.pointer none)
 have h3 := h1.drop (4 + j)
 rw [show (Value.pointer none) = Ro.ptr none from rfl, ptrs16_set] at h3
 refine ⟨Many.congr h3 fun q _ => ?_, h2⟩
 have e0 : ∀ q, swap1 (withL (two16 c c c c c (.slice (some ⟨a, 0, none⟩) c cap) vQ vR vS C D f g) (4 + 2 * c) l) 0 (rowT 59 (.slice (some ⟨a, 0, none⟩) c cap) (ptrs16 c (swap1 C j none))) q = withL (swap1 (two16 c c c c c (.slice (some ⟨a, 0, none⟩) c cap) vQ vR vS C D f g) 0 (rowT 59 (.slice (some ⟨a, 0, none⟩) c cap) (ptrs16 c (swap1 C j none)))) (4 + 2 * c) l q := fun q => withL_base (by omega) (fun _ _ => rfl) q
 have e1 : swap1 (withL (two16 c c c c c (.slice (some ⟨a, 0, none⟩) c cap) vQ vR vS C D f g) (4 + 2 * c) l) 0 (rowT 59 (.slice (some ⟨a, 0, none⟩) c cap) (ptrs16 c (swap1 C j none))) = withL (swap1 (two16 c c c c c (.slice (some ⟨a, 0, none⟩) c cap) vQ vR vS C D f g) 0 (rowT 59 (.slice (some ⟨a, 0, none⟩) c cap) (ptrs16 c (swap1 C j none)))) (4 + 2 * c) l := funext e0
 rw [e1]
 refine withL_base (by omega) (fun q _ => ?_) q
 by_cases e : q = 4 + j
 ·subst e; rw [swap1_same, two16_p hj, swap1_same]; rfl
 ·rw [swap1_other _ _ e]
  by_cases e0 : q = 0
  ·subst e0; rw [swap1_same, two16_0]
  ·rw [swap1_other _ _ e0]
   by_cases h4 : q < 4
   ·unfold two16
    have : q = 1 ∨ q = 2 ∨ q = 3 := by omega
    rcases this with rfl | rfl | rfl <;> rfl
   ·rw [two16_far h4, two16_far h4]
    split
    ·rw [swap1_other _ _ (by omega)]
    ·rfl
theorem St16.goneR {a cap : Nat} (h : St16 w B c vP vQ (.slice (some ⟨a, 0, none⟩) c cap) vS C D f g l) {j : Nat} (hj : j < c) :
  St16 (w.setCell ⟨a, j, none⟩ (.pointer none)) B c vP vQ (.slice (some ⟨a, 0, none⟩) c cap) vS C (swap1 D j none) f g l ∧ Only (fun k => B ≤ k ∧ k < w.heap.size) w (w.setCell ⟨a, j, none⟩ (.pointer none)) := by
 obtain ⟨h1, h2⟩ := many_setL h (i := 2) (by omega) (by rw [ptrs16_len]) ((withL_low (by omega)).trans two16_2) j (.pointer none)
 have h3 := h1.drop (4 + c + j)
 rw [show (Value.pointer none) = Ro.ptr none from rfl, ptrs16_set] at h3
 refine ⟨Many.congr h3 fun q _ => ?_, h2⟩
 have e1 : swap1 (withL (two16 c c c c c vP vQ (.slice (some ⟨a, 0, none⟩) c cap) vS C D f g) (4 + 2 * c) l) 2 (rowT 67 (.slice (some ⟨a, 0, none⟩) c cap) (ptrs16 c (swap1 D j none))) = withL (swap1 (two16 c c c c c vP vQ (.slice (some ⟨a, 0, none⟩) c cap) vS C D f g) 2 (rowT 67 (.slice (some ⟨a, 0, none⟩) c cap) (ptrs16 c (swap1 D j none)))) (4 + 2 * c) l := funext fun q => withL_base (by omega) (fun _ _ => rfl) q
 rw [e1]
 refine withL_base (by omega) (fun q _ => ?_) q
 by_cases e : q = 4 + c + j
 ·subst e; rw [swap1_same, two16_r, swap1_same]; rfl
 ·rw [swap1_other _ _ e]
  by_cases e0 : q = 2
  ·subst e0; rw [swap1_same, two16_2]
  ·rw [swap1_other _ _ e0]
   by_cases h4 : q < 4
   ·unfold two16
    have : q = 0 ∨ q = 1 ∨ q = 3 := by omega
    rcases this with rfl | rfl | rfl <;> rfl
   ·rw [two16_far h4, two16_far h4]
    split
    ·rfl
    ·rw [swap1_other _ _ (by omega)]
end
def Few16 (C : Nat → Ro.Col) (n : Nat) : Prop := ∀ i x, C i = some x → ∀ j, (x.2.writes j).length ≤ n
theorem Few16.le {C : Nat → Ro.Col} {n m : Nat} (h : Few16 C n) (hm : n ≤ m) : Few16 C m := fun i x e j => Nat.le_trans (h i x e j) hm
theorem Dr.put_few {D : Dr} {n : Nat} (h : ∀ j, (D.writes j).length ≤ n) (i : Nat) (s : List UInt8) (j : Nat) : ((D.put i s).writes j).length ≤ n + 1 := by
 unfold Dr.put
 dsimp only
 split
 ·rw [List.length_append]
  have := h i
  simp; omega
 ·exact Nat.le_succ_of_le (h j)
theorem Few16.wrote {D : Dr} {n : Nat} (h : ∀ j, (D.writes j).length ≤ n) (i : Int) (s : ByteArray) (j : Nat) : ((D.wrote i s).writes j).length ≤ n + 1 := by
 unfold Dr.wrote
 split
 ·exact Dr.put_few h _ _ _
 ·exact Nat.le_succ_of_le (h j)
theorem Few16.wrC {C : Nat → Ro.Col} {n : Nat} (h : Few16 C n) (c k r dn bn : Nat) (row off role : Int) (s : ByteArray) : Few16 (Ro.wrC c k r dn bn C row off role s) (n + 1) := fun i x e j => by
 unfold Ro.wrC at e
 split at e
 ·split at e
  ·by_cases hi : i = Ro.colN c row.toNat role.toNat
   ·rw [hi, swap1_same] at e
    cases hC : C (Ro.colN c row.toNat role.toNat) with
    | none => rw [hC] at e; cases e
    | some y =>
     rw [hC] at e
     unfold Ro.colC at e
     dsimp only at e
     split at e
     ·injection e with e
      rw [← e]
      exact Nat.le_succ_of_le (h _ y hC j)
     ·injection e with e
      rw [← e]
      exact Few16.wrote (h _ y hC) _ _ _
   ·rw [swap1_other _ _ hi] at e
    exact Nat.le_succ_of_le (h i x e j)
  ·exact Nat.le_succ_of_le (h i x e j)
 ·exact Nat.le_succ_of_le (h i x e j)
theorem Dr.flushed_few {D : Dr} {n : Nat} (h : ∀ j, (D.writes j).length ≤ n) (j : Nat) : (D.flushed.writes j).length ≤ n := by
 unfold Dr.flushed
 split
 ·exact Nat.zero_le _
 ·exact h j
theorem Few16.flushC {C : Nat → Ro.Col} {n : Nat} (h : Few16 C n) (c k r dn bn : Nat) : Few16 (Ro.flushC c k r dn bn C) n := fun i x e j => by
 unfold Ro.flushC at e
 split at e
 ·unfold Ro.flC at e
  split at e
  ·cases hC : C i with
   | none => rw [hC] at e; cases e
   | some y =>
    rw [hC] at e
    unfold Ro.fluC at e
    dsimp only at e
    split at e
    ·injection e with e
     rw [← e]
     exact h _ y hC j
    ·injection e with e
     rw [← e]
     exact Dr.flushed_few (h _ y hC) j
  ·exact h i x e j
 ·exact h i x e j
theorem Few16.new {t n : Nat} {C : Nat → Ro.Col} (h : ∀ i, i < t → ∃ p, C i = some (p, Dr.fresh n)) (h2 : ∀ i, ¬ i < t → C i = none) : Few16 C 0 := fun i x e j => by
 by_cases hi : i < t
 ·obtain ⟨p, hp⟩ := h i hi
  rw [hp] at e
  injection e with e
  rw [← e]; exact Nat.le_refl _
 ·rw [h2 i hi] at e; cases e
end Go.Proofs.YtdgkhjgnjfgnlaaGreat
namespace Go.Proofs.YtdgkhjgnjfgnlaaGreat
open Go.RowKit
def geo16c (a : Nat) : Nat := 4 + a % 4
def geo16k (b : Nat) : Nat := 1 + b % 3
def geo16r (d : Nat) : Nat := 1 + d % 6
theorem geo16_ok (a b d : Nat) : Lay.ok (geo16c a : Int) (geo16k b : Int) (geo16r d : Int) := ⟨by unfold geo16c; omega, by unfold geo16k; omega, by unfold geo16r; omega⟩
set_option maxRecDepth 100000 in
set_option maxHeartbeats 2000000 in
theorem geo16_any (a b d : Nat) (a1 : a < 256) (b1 : b < 256) (d1 : d < 256) (w : World) :
  Calls Tryz.prog 10 #[.int .u8 (a : Int), .int .u8 (b : Int), .int .u8 (d : Int)] w fun e w' => e = .returned (.agg #[.int .i64 (geo16c a : Int), .int .i64 (geo16k b : Int), .int .i64 (geo16r d : Int)]) ∧ Below w.heap.size w w' := by
 have e1 : (a : Int).tmod 4 = (a : Int) % 4 := Int.tmod_eq_emod_of_nonneg (by omega)
 have e2 : (b : Int).tmod 3 = (b : Int) % 3 := Int.tmod_eq_emod_of_nonneg (by omega)
 have e3 : (d : Int).tmod 6 = (d : Int) % 6 := Int.tmod_eq_emod_of_nonneg (by omega)
 have f1 : (geo16c a : Int) = 4 + (a : Int) % 4 := by unfold geo16c; omega
 have f2 : (geo16k b : Int) = 1 + (b : Int) % 3 := by unfold geo16k; omega
 have f3 : (geo16r d : Int) = 1 + (d : Int) % 6 := by unfold geo16r; omega
 rw [f1, f2, f3]
 clear f1 f2 f3
 obtain ⟨x, hx⟩ : ∃ x, (a : Int) % 4 = x := ⟨_, rfl⟩
 obtain ⟨y, hy⟩ : ∃ y, (b : Int) % 3 = y := ⟨_, rfl⟩
 obtain ⟨z, hz⟩ : ∃ z, (d : Int) % 6 = z := ⟨_, rfl⟩
 have x1 : 0 ≤ x ∧ x < 4 := by omega
 have y1 : 0 ≤ y ∧ y < 3 := by omega
 have z1 : 0 ≤ z ∧ z < 6 := by omega
 rw [hx] at e1
 rw [hy] at e2
 rw [hz] at e3
 rw [hx, hy, hz]
 clear hx hy hz
 obtain ⟨x0, x9⟩ := x1
 obtain ⟨y0, y9⟩ := y1
 obtain ⟨z0, z9⟩ := z1
 go_enter Tryz.func10, Tryz.ntmps10
 go_wp2
 refine bodyPost_ret (v := .agg #[.int .i64 (4 + x), .int .i64 (1 + y), .int .i64 (1 + z)]) (by simp [results, asAddr]; go_simp; try rfl) rfl ⟨rfl, (Below.refl _ _).alloc (Nat.le_refl _) _⟩
namespace Ro
def fillB (s : ByteArray) : ByteArray := (s ++ blankB).extract 0 64
theorem blank_size : blankB.size = 64 := rfl
theorem fillB_size (s : ByteArray) : (fillB s).size = 64 := by
 unfold fillB
 rw [ByteArray.size_extract, ByteArray.size_append, blank_size]; omega
end Ro
set_option maxRecDepth 100000 in
set_option maxHeartbeats 400000 in
theorem full16_any (s : ByteArray) (hs : s.size ≤ 100) (w : World) : Calls Tryz.prog 24 #[.string s] w fun e w' => e = .returned (.string (Ro.fillB s)) ∧ w' = w := by
 have hbl := blank_any w
 have hb := Ro.blank_size
 have E : Hid ((s ++ blankB).extract 0 64 = Ro.fillB s) := rfl
 obtain ⟨b, eb⟩ : ∃ b, b = blankB := ⟨_, rfl⟩
 rw [← eb] at hb hbl E
 have h64 : (s ++ b).size = s.size + 64 := by rw [ByteArray.size_append, hb]
 have hm : (s ++ b).size ≤ maxLen := by rw [h64]; unfold maxLen; omega
 clear eb
 go_enter Tryz.func24, Tryz.ntmps24
 go_wp2_with fail
 refine hbl.mono ?_
 rintro e w' ⟨rfl, rfl⟩
 go_wp2
 go_ret
 exact ⟨by rw [E.out]; rfl, rfl⟩
end Go.Proofs.YtdgkhjgnjfgnlaaGreat
namespace Go.Proofs.YtdgkhjgnjfgnlaaGreat
namespace Ro
structure Has (n : Nat) (u v : Nat → List UInt8) (D : Dr) : Prop where
 live : D.Live n
 good : ∀ i, D.spoilt.getD i false = false
 safe : ∀ i, i < n → D.safe.getD i [] = u i
 last : ∀ i, i < n → D.last i = v i
def zero64 : List UInt8 := List.replicate 64 0
theorem Has.fresh (n : Nat) : Has n (fun _ => zero64) (fun _ => zero64) (Dr.fresh n) :=
 ⟨Dr.Live.fresh n, Dr.fresh_spoilt n, fun _ hi => Dr.fresh_safe hi, fun i hi => by unfold Dr.last; rw [if_pos (show (Dr.fresh n).writes i = [] from rfl)]; exact Dr.fresh_safe hi⟩
def updL (v : Nat → List UInt8) (j : Nat) (s : List UInt8) : Nat → List UInt8 := fun i => if i = j then s else v i
section
variable {n : Nat} {u v : Nat → List UInt8} {D : Dr}
theorem Has.wrote (h : Has n u v D) {j : Nat} (hj : j < n) {s : ByteArray} (hs : s.size = 64) : D.takeE (j : Int) s.size = 0 ∧ Has n u (updL v j s.data.toList) (D.wrote (j : Int) s) := by
 have ht := h.live.take (i := j) hj hs
 have e : D.wrote (j : Int) s = D.put j s.data.toList := by unfold Dr.wrote; rw [if_pos ht, Int.toNat_natCast, h.live.write]
 rw [e]
 refine ⟨ht, h.live.put j _, fun i => Dr.put_spoilt D j _ (h.good i), h.safe, fun i hi => ?_⟩
 unfold updL
 split
 ·rename_i e2; subst e2; exact Dr.put_last D i _
 ·rename_i e2; rw [Dr.put_else D _ e2]; exact h.last i hi
theorem Has.flushed (h : Has n u v D) : D.runsE = 0 ∧ Has n v v D.flushed := by
 have e : D.flushed = D.calmed := by unfold Dr.flushed; rw [if_pos h.live.run, h.live.flush]; rfl
 rw [e]
 refine ⟨h.live.run, h.live.settle _, h.good, fun i hi => (Dr.flush_one h.live hi).trans (h.last i hi), fun i hi => (Dr.calmed_last h.live h.good hi).trans (h.last i hi)⟩
theorem Has.crash (h : Has n u v D) : Has n u u (D.crash []) := by
 have hlen : D.safe.length = n := h.live.len
 have hs : ∀ i, i < n → (D.settle (Dr.keeps [])).safe.getD i [] = u i := fun i hi => by
  by_cases hw : D.writes i = []
  ·rw [Dr.settle_idle _ (by omega) hw]; exact h.safe i hi
  ·obtain ⟨j, _, _, e⟩ := Dr.settle_busy (Dr.keeps []) (i := i) (by omega) hw
   rw [e, show Dr.keeps [] j (D.writes i).length = 0 from rfl, if_neg (by omega)]
   exact h.safe i hi
 refine ⟨⟨h.live.dead, rfl, (Dr.safeAt_length D _ _).trans hlen⟩, h.good, hs, fun i hi => ?_⟩
 unfold Dr.last
 rw [if_pos (show (D.crash []).writes i = [] from rfl)]
 exact hs i hi
theorem Has.read (h : Has n u v D) {j : Nat} (hj : j < n) : D.readE (j : Int) = 0 ∧ D.readS (j : Int) = v j := by
 obtain ⟨a, b⟩ := h.live.read hj (h.good j)
 exact ⟨a, b.trans (h.last j hj)⟩
theorem Has.size (h : Has n u v D) : D.n = n := h.live.len
end
def Have (c n : Nat) (u v : Nat → Nat → List UInt8) (C : Nat → Col) : Prop := ∀ i, i < c → ∃ p D, C i = some (p, D) ∧ Has n (u i) (v i) D
theorem Have.new {c n : Nat} {C : Nat → Col} (h : New16 c n C) : Have c n (fun _ _ => zero64) (fun _ _ => zero64) C := fun i hi => by
 obtain ⟨p, hp⟩ := h i hi
 exact ⟨p, _, hp, Has.fresh n⟩
section
variable {c k r n : Nat} {u v : Nat → Nat → List UInt8} {C : Nat → Col}
theorem Have.may (h : Have c n u v C) (hn : 4 + r * k ≤ n) : mayB c k r c c C = true := by
 unfold mayB
 rw [decide_eq_true rfl, Bool.true_and, Bool.true_and, List.all_eq_true]
 intro i hi
 obtain ⟨p, D, e, hD⟩ := h i (List.mem_range.1 hi)
 rw [e]
 exact decide_eq_true (by rw [hD.size]; exact hn)
theorem Have.chk (h : Have c n u v C) (hn : 4 + r * k ≤ n) (row off : Int) : chk c k r c c C row off = if inB k r row off then 0 else 70 := by
 unfold Ro.chk
 rw [h.may hn]; rfl
theorem Have.chk_in (h : Have c n u v C) (hn : 4 + r * k ≤ n) {row off : Nat} (hr : row < r) (ho : off < k) : Ro.chk c k r c c C (row : Int) (off : Int) = 0 := by
 rw [h.chk hn, show inB k r (row : Int) (off : Int) = true from by
  unfold inB
  rw [decide_eq_true (by omega), decide_eq_true (by omega), decide_eq_true (by omega), decide_eq_true (by omega)]; rfl]
 rfl
theorem place_lt {row off : Nat} (hn : 4 + r * k ≤ n) (hr : row < r) (ho : off < k) : 4 + row * k + off < n := by
 have : (row + 1) * k ≤ r * k := Nat.mul_le_mul_right k hr
 rw [Nat.add_mul] at this
 omega
theorem place_int (row k off : Nat) : (4 + (row : Int) * (k : Int) + (off : Int)) = ((4 + row * k + off : Nat) : Int) := by rw [Int.natCast_add, Int.natCast_add, Int.natCast_mul]; rfl
def upd2 (v : Nat → Nat → List UInt8) (z j : Nat) (s : List UInt8) : Nat → Nat → List UInt8 := fun i => if i = z then updL (v i) j s else v i
theorem Have.write (h : Have c n u v C) (hn : 4 + r * k ≤ n) {row off role : Nat} (hr : row < r) (ho : off < k) (hro : role < c) {s : ByteArray} (hs : s.size = 64) :
  wrE c k r c c C (row : Int) (off : Int) (role : Int) s = 0 ∧ Have c n u (upd2 v (colN c row role) (4 + row * k + off) s.data.toList) (wrC c k r c c C (row : Int) (off : Int) (role : Int) s) := by
 have hz : colN c row role < c := colN_lt (by omega)
 obtain ⟨p, D, e, hD⟩ := h _ hz
 obtain ⟨t1, t2⟩ := hD.wrote (place_lt hn hr ho) hs
 have hb : roleB c (role : Int) = true := by unfold roleB; rw [decide_eq_true (by omega), decide_eq_true (by omega)]; rfl
 refine ⟨?_, fun i hi => ?_⟩
 ·unfold wrE
  rw [h.chk_in hn hr ho, if_pos rfl, hb, if_pos rfl, Int.toNat_natCast, Int.toNat_natCast, e]
  show (if D.dead then 40 else D.takeE _ s.size) = 0
  rw [hD.live.dead, place_int]
  exact t1
 ·unfold wrC upd2
  rw [h.chk_in hn hr ho, if_pos rfl, hb, if_pos rfl, Int.toNat_natCast, Int.toNat_natCast]
  by_cases hi2 : i = colN c row role
  ·rw [hi2, swap1_same, if_pos rfl, e]
   refine ⟨p, D.wrote ((4 + row * k + off : Nat) : Int) s, ?_, t2⟩
   show (if D.dead then some (p, D) else some (p, D.wrote (4 + (row : Int) * (k : Int) + (off : Int)) s)) = _
   rw [hD.live.dead, place_int]; rfl
  ·rw [swap1_other _ _ hi2, if_neg hi2]
   exact h i hi
theorem Have.flush (h : Have c n u v C) (hn : 4 + r * k ≤ n) : flushE c k r c c C = 0 ∧ Have c n v v (flushC c k r c c C) := by
 refine ⟨?_, fun i hi => ?_⟩
 ·unfold flushE
  rw [h.may hn, if_pos rfl, show flB C c = false from by
   unfold flB
   rw [List.any_eq_false]
   intro i hi
   obtain ⟨p, D, e, hD⟩ := h i (List.mem_range.1 hi)
   rw [e]
   unfold fluB
   dsimp only
   rw [hD.flushed.1]
   simp]
  rfl
 ·obtain ⟨p, D, e, hD⟩ := h i hi
  unfold flushC
  rw [h.may hn, if_pos rfl]
  unfold flC
  rw [if_pos hi, e]
  refine ⟨p, D.flushed, ?_, hD.flushed.2⟩
  show (if D.dead then some (p, D) else _) = _
  rw [hD.live.dead]; rfl
section
variable {bf : Nat → Int} (hbf : ∀ i, i < c → (r : Int) ≤ bf i)
include hbf
theorem Have.miss (h : Have c n u v C) {row : Nat} (hr : row < r) {z : Nat} (hz : z < c) : missB C bf (row : Int) z = false := by
 obtain ⟨p, D, e, hD⟩ := h z hz
 unfold missB
 rw [e]
 have := hbf z hz
 rw [Bool.or_eq_false_iff]
 exact ⟨hD.live.dead, decide_eq_false (by omega)⟩
theorem Have.one (h : Have c n u v C) (hn : 4 + r * k ≤ n) {row off : Nat} (hr : row < r) (ho : off < k) {q : Nat} (hc : 0 < c) :
  oneE c k C bf (row : Int) (off : Int) q = 0 ∧ oneX c k C bf (row : Int) (off : Int) q = txt (v (colN c row q) (4 + row * k + off)) := by
 have hz : colN c row q < c := colN_lt hc
 obtain ⟨p, D, e, hD⟩ := h _ hz
 obtain ⟨t1, t2⟩ := hD.read (place_lt hn hr ho)
 have hm := h.miss hbf hr hz
 refine ⟨?_, ?_⟩
 ·unfold oneE
  rw [Int.toNat_natCast, hm, e]
  show D.readE _ = 0
  rw [place_int]; exact t1
 ·unfold oneX
  rw [Int.toNat_natCast, hm, e]
  show txt (D.readS _) = _
  rw [place_int, t2]
theorem Have.sect (h : Have c n u v C) (hn : 4 + r * k ≤ n) {row off i : Nat} (hr : row < r) (ho : off < k) (hi : i + 2 < c) :
  secE c k r c c C bf (row : Int) (off : Int) (i : Int) = 0 ∧ secX c k r c c C bf (row : Int) (off : Int) (i : Int) = txt (v (colN c row i) (4 + row * k + off)) := by
 obtain ⟨t1, t2⟩ := h.one hbf hn hr ho (q := i) (by omega)
 have hb : secB c (i : Int) = true := by unfold secB; rw [decide_eq_true (by omega), decide_eq_true (by omega)]; rfl
 refine ⟨?_, ?_⟩
 ·unfold secE
  rw [h.chk_in hn hr ho, if_pos rfl, hb, if_pos rfl, Int.toNat_natCast]
  unfold secE0
  rw [t1]; rfl
 ·unfold secX
  rw [h.chk_in hn hr ho, if_pos rfl, hb, if_pos rfl, Int.toNat_natCast]
  unfold secX0
  rw [t1, t2]; rfl
end
end
def cut (c : Nat) (C : Nat → Col) : Nat → Col := fun i => if i < c then C i else none
theorem cut_low {c i : Nat} (C : Nat → Col) (h : i < c) : cut c C i = C i := if_pos h
end Ro
theorem St16.cut {w : World} {B c : Nat} {vP vQ vR vS : Value} {C D : Nat → Ro.Col} {f g : Nat → Int} {l : List Thing} (h : St16 w B c vP vQ vR vS C D f g l) : St16 w B c vP vQ vR vS (Ro.cut c C) (Ro.cut c D) f g l := by
 refine Many.congr h fun q hq => ?_
 by_cases hl : q < 4 + 2 * c
 ·rw [withL_low hl, withL_low hl]
  by_cases h4 : q < 4
  ·unfold two16
   rw [ptrs16_same (n := c) (C := C) (D := Ro.cut c C) fun i hi => by rw [Ro.cut_low _ hi], ptrs16_same (n := c) (C := D) (D := Ro.cut c D) fun i hi => by rw [Ro.cut_low _ hi]]
   have : q = 0 ∨ q = 1 ∨ q = 2 ∨ q = 3 := by omega
   rcases this with rfl | rfl | rfl | rfl <;> rfl
  ·rw [two16_far h4, two16_far h4]
   split
   ·rw [Ro.cut_low _ (by omega)]
   ·rw [Ro.cut_low _ (by omega)]
 ·unfold withL; rw [if_neg hl, if_neg hl]
theorem New16.cut {c n : Nat} {C : Nat → Ro.Col} (h : New16 c n C) : New16 c n (Ro.cut c C) ∧ Few16 (Ro.cut c C) 0 := by
 have h1 : New16 c n (Ro.cut c C) := fun i hi => by rw [Ro.cut_low _ hi]; exact h i hi
 exact ⟨h1, Few16.new h1 fun i hi => if_neg hi⟩
end Go.Proofs.YtdgkhjgnjfgnlaaGreat
