/- Columns added, and added times powers of two, in plain functions of a column's place. Nothing of the program stands here. -/
import Derived.Test.YtjephdeolifbpaaGfPow
import Derived.Test.YtjephdeolifbpaaGfTimes
namespace Go.Proofs.Ytjephdeolifbpaa.Gfm
/-- the factor of column i -/
def pE (i : Nat) : Nat := powI 2 (i : Int)
theorem pE_lt (i : Nat) : pE i < 256 := powI_lt _ _
theorem pE_pw (i : Nat) : pE i = pw 2 i := by
  unfold pE
  rw [powI_ne _ (by decide), pw_mod (by decide) (by decide) i]
  congr 1
theorem pE_zero : pE 0 = 1 := by rw [pE_pw]; rfl
theorem pE_succ (i : Nat) : pE (i + 1) = mul (pE i) 2 := by rw [pE_pw, pE_pw]; rfl
/-- byte j, as far as there is one -/
def byt (s : ByteArray) (j : Nat) : UInt8 := s.data.toList.getD j 0
theorem byt_past {s : ByteArray} {j : Nat} (h : s.size ≤ j) : byt s j = 0 := by
  unfold byt
  rw [List.getD_eq_getElem?_getD, List.getElem?_eq_none (by have : s.data.toList.length = s.size := by simp
                                                            omega)]; rfl
theorem byt_ext {a b : ByteArray} (h : a.size = b.size) (hj : ∀ j, byt a j = byt b j) : a = b := by
  have ha : a.data.toList.length = a.size := by simp
  have hb : b.data.toList.length = b.size := by simp
  have e : a.data.toList = b.data.toList := list_ext (by omega) fun j _ => hj j
  cases a; cases b
  simp only [ByteArray.mk.injEq]
  exact Array.toList_inj.1 e
theorem byt_xor (a b : ByteArray) (j : Nat) : byt (xorB a b) j = byt a j ^^^ byt b j := by
  show (xorL _ _).toArray.toList.getD j 0 = _
  rw [List.toList_toArray, xorL_getD]; rfl
theorem mulU_zero (n : Nat) : mulU 0 n = 0 := by
  unfold mulU; rw [show (0 : UInt8).toNat = 0 from rfl, zero_mul]; rfl
theorem byt_times (a : ByteArray) (n j : Nat) : byt (timesB a n) j = mulU (byt a j) n := by
  show (timesL _ _).toArray.toList.getD j 0 = _
  rw [List.toList_toArray]
  unfold timesL byt
  simp only [List.getD_eq_getElem?_getD, List.getElem?_map]
  cases a.data.toList[j]? with
  | none => exact (mulU_zero n).symm
  | some x => rfl
theorem byt_empty (j : Nat) : byt ByteArray.empty j = 0 := byt_past (Nat.zero_le _)
theorem mulU_xor (x y : UInt8) (n : Nat) : mulU (x ^^^ y) n = mulU x n ^^^ mulU y n := by
  apply UInt8.toNat_inj.1
  rw [mulU_toNat, UInt8.toNat_xor, UInt8.toNat_xor, mulU_toNat, mulU_toNat, mul_xor_left n x.toNat_lt y.toNat_lt]
theorem mulU_one (x : UInt8) : mulU x 1 = x := by
  apply UInt8.toNat_inj.1
  rw [mulU_toNat, mul_one x.toNat_lt]
theorem mulU_pE_succ (x : UInt8) (i : Nat) : mulU (mulU x (pE i)) 2 = mulU x (pE (i + 1)) := by
  apply UInt8.toNat_inj.1
  rw [mulU_toNat, mulU_toNat, mulU_toNat, pE_succ, mul_assoc x.toNat_lt (pE_lt i) (by decide)]
/-- columns 0 to n - 1, added -/
def addF : Nat → (Nat → ByteArray) → ByteArray
  | 0, _ => ByteArray.empty
  | n + 1, f => xorB (addF n f) (f n)
/-- the terms of Q -/
def qT (f : Nat → ByteArray) (i : Nat) : ByteArray := timesB (f i) (pE i)
theorem addF_zero (f : Nat → ByteArray) : addF 0 f = ByteArray.empty := rfl
theorem addF_succ (n : Nat) (f : Nat → ByteArray) : addF (n + 1) f = xorB (addF n f) (f n) := rfl
theorem addF_congr {n : Nat} {f g : Nat → ByteArray} (h : ∀ i, i < n → f i = g i) : addF n f = addF n g := by
  induction n with
  | zero => rfl
  | succ n ih => rw [addF_succ, addF_succ, ih fun i hi => h i (by omega), h n (by omega)]
theorem addF_le {n B : Nat} {f : Nat → ByteArray} (h : ∀ i, i < n → (f i).size ≤ B) : (addF n f).size ≤ B := by
  induction n with
  | zero => exact Nat.zero_le _
  | succ n ih =>
    have h1 := ih fun i hi => h i (by omega)
    have h2 := h n (by omega)
    rw [addF_succ, xorB_size]; omega
theorem qT_size (f : Nat → ByteArray) (i : Nat) : (qT f i).size = (f i).size := timesB_size _ _
/-- the greatest of n numbers -/
def maxN : Nat → (Nat → Nat) → Nat
  | 0, _ => 0
  | n + 1, f => max (maxN n f) (f n)
theorem addF_size (n : Nat) (f : Nat → ByteArray) : (addF n f).size = maxN n fun i => (f i).size := by
  induction n with
  | zero => rfl
  | succ n ih => rw [addF_succ, xorB_size, ih]; rfl
theorem le_maxN {n k : Nat} (f : Nat → Nat) (h : k < n) : f k ≤ maxN n f := by
  induction n with
  | zero => omega
  | succ n ih =>
    show _ ≤ max (maxN n f) (f n)
    by_cases e : k = n
    · subst e; omega
    · have := ih (by omega); omega
theorem maxN_le {n B : Nat} {f : Nat → Nat} (h : ∀ i, i < n → f i ≤ B) : maxN n f ≤ B := by
  induction n with
  | zero => exact Nat.zero_le _
  | succ n ih =>
    have h1 := ih fun i hi => h i (by omega)
    have h2 := h n (by omega)
    show max (maxN n f) (f n) ≤ B; omega
theorem maxN_congr {n : Nat} {f g : Nat → Nat} (h : ∀ i, i < n → f i = g i) : maxN n f = maxN n g := by
  induction n with
  | zero => rfl
  | succ n ih => show max _ _ = max _ _; rw [ih fun i hi => h i (by omega), h n (by omega)]
/-- the same numbers in another order -/
theorem maxN_turn {n : Nat} {f g : Nat → Nat} (h : ∀ i, i < n → ∃ k, k < n ∧ f i = g k) (h' : ∀ i, i < n → ∃ k, k < n ∧ g i = f k) : maxN n f = maxN n g :=
  Nat.le_antisymm (maxN_le fun i hi => by obtain ⟨k, hk, e⟩ := h i hi; rw [e]; exact le_maxN g hk)
    (maxN_le fun i hi => by obtain ⟨k, hk, e⟩ := h' i hi; rw [e]; exact le_maxN f hk)
/-- n bytes, added -/
def xorN : Nat → (Nat → UInt8) → UInt8
  | 0, _ => 0
  | n + 1, f => xorN n f ^^^ f n
theorem xorN_succ (n : Nat) (f : Nat → UInt8) : xorN (n + 1) f = xorN n f ^^^ f n := rfl
theorem byt_addF (n : Nat) (f : Nat → ByteArray) (j : Nat) : byt (addF n f) j = xorN n fun i => byt (f i) j := by
  induction n with
  | zero => exact byt_empty j
  | succ n ih => rw [addF_succ, byt_xor, ih]; rfl
theorem byt_qT (f : Nat → ByteArray) (i j : Nat) : byt (qT f i) j = mulU (byt (f i) j) (pE i) := byt_times _ _ _
theorem byt_addQ (n : Nat) (f : Nat → ByteArray) (j : Nat) : byt (addF n (qT f)) j = xorN n fun i => mulU (byt (f i) j) (pE i) := by
  rw [byt_addF]; simp only [byt_qT]
theorem xorN_congr {n : Nat} {f g : Nat → UInt8} (h : ∀ i, i < n → f i = g i) : xorN n f = xorN n g := by
  induction n with
  | zero => rfl
  | succ n ih => rw [xorN_succ, xorN_succ, ih fun i hi => h i (by omega), h n (by omega)]
theorem ux4 (a b c d : UInt8) : (a ^^^ b) ^^^ (c ^^^ d) = (a ^^^ c) ^^^ (b ^^^ d) := by ac_rfl
theorem xorN_xor (n : Nat) (f g : Nat → UInt8) : xorN n (fun i => f i ^^^ g i) = xorN n f ^^^ xorN n g := by
  induction n with
  | zero => show (0 : UInt8) = 0 ^^^ 0; rw [UInt8.xor_zero]
  | succ n ih => rw [xorN_succ, xorN_succ, xorN_succ, ih, ux4]
theorem xorN_zero (n : Nat) : xorN n (fun _ => 0) = 0 := by
  induction n with
  | zero => rfl
  | succ n ih => rw [xorN_succ, ih, UInt8.xor_zero]
theorem xorN_mulU (n : Nat) (f : Nat → UInt8) (b : Nat) : xorN n (fun i => mulU (f i) b) = mulU (xorN n f) b := by
  induction n with
  | zero => exact (mulU_zero b).symm
  | succ n ih => rw [xorN_succ, xorN_succ, ih, mulU_xor]
/-- the first one told apart -/
theorem xorN_head (n : Nat) (f : Nat → UInt8) : xorN (n + 1) f = f 0 ^^^ xorN n fun i => f (i + 1) := by
  induction n with
  | zero => show 0 ^^^ f 0 = f 0 ^^^ 0; rw [UInt8.zero_xor, UInt8.xor_zero]
  | succ n ih => rw [xorN_succ, ih, xorN_succ n (fun i => f (i + 1)), UInt8.xor_assoc]
theorem xorN_back (n : Nat) (f : Nat → UInt8) : xorN n (fun i => f (n - 1 - i)) = xorN n f := by
  induction n generalizing f with
  | zero => rfl
  | succ n ih =>
    rw [xorN_head n f, xorN_succ, ← ih fun i => f (i + 1), UInt8.xor_comm]
    congr 1
    · show f (n + 1 - 1 - n) = f 0; congr 1; omega
    · refine xorN_congr fun i hi => ?_
      show f (n + 1 - 1 - i) = f (n - 1 - i + 1); congr 1; omega
/-- f, but v at place k -/
def upd {α : Type} (f : Nat → α) (k : Nat) (v : α) (i : Nat) : α := if i = k then v else f i
theorem upd_same {α : Type} (f : Nat → α) (k : Nat) (v : α) : upd f k v k = v := if_pos rfl
theorem upd_other {α : Type} (f : Nat → α) {k i : Nat} (v : α) (h : i ≠ k) : upd f k v i = f i := if_neg h
theorem xorN_one {n k : Nat} (hk : k < n) (v : UInt8) : xorN n (fun i => if i = k then v else 0) = v := by
  induction n with
  | zero => omega
  | succ n ih =>
    rw [xorN_succ]
    by_cases e : k = n
    · subst e
      rw [if_pos rfl, xorN_congr (g := fun _ => 0) fun i hi => if_neg (by omega), xorN_zero, UInt8.zero_xor]
    · rw [ih (by omega), if_neg (Ne.symm e), UInt8.xor_zero]
/-- another one at place k -/
theorem xorN_set {n k : Nat} (hk : k < n) (f g : Nat → UInt8) (h : ∀ i, i < n → i ≠ k → g i = f i) : xorN n g = xorN n f ^^^ (f k ^^^ g k) := by
  rw [← xorN_one hk (f k ^^^ g k), ← xorN_xor]
  refine xorN_congr fun i hi => ?_
  by_cases e : i = k
  · subst e; rw [if_pos rfl, ← UInt8.xor_assoc, UInt8.xor_self, UInt8.zero_xor]
  · rw [if_neg e, UInt8.xor_zero]; exact h i hi e
/-- bytes 0 alone -/
def zeroS (s : ByteArray) : Bool := s.data.toList.all fun x => x == 0
theorem zeroS_iff (s : ByteArray) : zeroS s = true ↔ ∀ j, byt s j = 0 := by
  unfold zeroS byt
  rw [List.all_eq_true]
  constructor
  · intro h j
    rw [List.getD_eq_getElem?_getD]
    cases e : s.data.toList[j]? with
    | none => rfl
    | some x => simpa using h x (List.mem_of_getElem? e)
  · intro h x hx
    obtain ⟨j, hj, e⟩ := List.mem_iff_getElem.1 hx
    have := h j
    rw [List.getD_eq_getElem?_getD, List.getElem?_eq_getElem hj, e] at this
    simpa using this
theorem zeroS_of {s : ByteArray} (h : ∀ j, byt s j = 0) : zeroS s = true := (zeroS_iff s).2 h
theorem zeroS_no {s : ByteArray} (j : Nat) (h : byt s j ≠ 0) : zeroS s = false := by
  cases e : zeroS s with
  | false => rfl
  | true => exact absurd ((zeroS_iff s).1 e j) h
theorem zeroS_at {s : ByteArray} {k : Nat} (hk : k < s.size) (h : s[k] ≠ 0) : zeroS s = false := by
  refine zeroS_no k ?_
  have hk' : k < s.data.toList.length := by simpa using hk
  unfold byt
  rw [List.getD_eq_getElem?_getD, List.getElem?_eq_getElem hk']; exact h
theorem zeroS_up {s : ByteArray} (h : ∀ k (hk : k < s.size), s[k] = 0) : zeroS s = true := by
  refine zeroS_of fun j => ?_
  by_cases hj : j < s.size
  · have hk' : j < s.data.toList.length := by simpa using hj
    unfold byt
    rw [List.getD_eq_getElem?_getD, List.getElem?_eq_getElem hk']; exact h j hj
  · exact byt_past (by omega)
theorem xor_self_zero (a : ByteArray) : zeroS (xorB a a) = true := zeroS_of fun j => by rw [byt_xor, UInt8.xor_self]
end Go.Proofs.Ytjephdeolifbpaa.Gfm
