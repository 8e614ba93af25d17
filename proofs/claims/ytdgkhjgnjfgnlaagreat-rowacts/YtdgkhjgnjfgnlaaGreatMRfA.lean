import Derived.Test.YtdgkhjgnjfgnlaaGreatMGfA
namespace Go.Proofs.YtdgkhjgnjfgnlaaGreat.Rf
open Gfm
def synP (m : Nat) (b : Nat → UInt8) : UInt8 := b m ^^^ xorN m b
def synQ (m : Nat) (b : Nat → UInt8) : UInt8 := b (m + 1) ^^^ xorN m fun i => mulU (b i) (pE i)
def solve1 (d : Nat) (q : UInt8) : UInt8 := mulU q (inv (pE d))
def solve2 (d e : Nat) (p q : UInt8) : UInt8 := mulU (q ^^^ mulU p (pE e)) (inv (pE d ^^^ pE e))
theorem pE_ne (d : Nat) : pE d ≠ 0 := by
 intro h
 have h1 := mul_inv (pE_lt d)
 rw [pE_pw] at h
 have e : pw 2 (d + (255 * d + 255 - d)) = 1 := by
  rw [show d + (255 * d + 255 - d) = 255 * (d + 1) from by omega, ← pw_mul (by decide), pw_255 (by decide) (by decide), one_pw]
 rw [← pw_add (by decide), h, zero_mul] at e
 exact absurd e (by decide)
theorem ux_toNat {a b : UInt8} (h : a.toNat = b.toNat) : a = b := UInt8.toNat_inj.1 h
theorem mulU_back (x : UInt8) {n : Nat} (hn : n < 256) (h : n ≠ 0) : mulU (mulU x n) (inv n) = x := by
 apply ux_toNat
 rw [mulU_toNat, mulU_toNat, ← mul_assoc x.toNat_lt hn (inv_lt n), mul_inv hn h, mul_one x.toNat_lt]
theorem mulU_forth (x : UInt8) {n : Nat} (hn : n < 256) (h : n ≠ 0) : mulU (mulU x (inv n)) n = x := by
 apply ux_toNat
 rw [mulU_toNat, mulU_toNat, ← mul_assoc x.toNat_lt (inv_lt n) hn, mul_comm (inv_lt n) hn, mul_inv hn h, mul_one x.toNat_lt]
theorem solve1_iff (d : Nat) (x q : UInt8) : mulU x (pE d) = q ↔ x = solve1 d q := by
 unfold solve1
 constructor
 ·rintro rfl; exact (mulU_back x (pE_lt d) (pE_ne d)).symm
 ·rintro rfl; exact mulU_forth q (pE_lt d) (pE_ne d)
theorem mulU_xor_right (x : UInt8) (a b : Nat) : mulU x (a ^^^ b) = mulU x a ^^^ mulU x b := by
 apply ux_toNat
 rw [UInt8.toNat_xor, mulU_toNat, mulU_toNat, mulU_toNat, mul_xor_right]
theorem ux_cancel {a b c : UInt8} : a ^^^ b = c ↔ a = c ^^^ b := by
 constructor
 ·rintro rfl; rw [UInt8.xor_assoc, UInt8.xor_self, UInt8.xor_zero]
 ·rintro rfl; rw [UInt8.xor_assoc, UInt8.xor_self, UInt8.xor_zero]
theorem pE_small_all : ((List.range 16).all fun x => (List.range 16).all fun y => x == y || pw 2 x != pw 2 y) = true := by decide +kernel
theorem pE_small {x y : Nat} (h : x ≠ y) (hx : x < 16) (hy : y < 16) : pE x ≠ pE y := by
 have := pE_small_all
 rw [List.all_eq_true] at this
 have := this x (List.mem_range.2 hx)
 rw [List.all_eq_true] at this
 have := this y (List.mem_range.2 hy)
 rw [pE_pw, pE_pw]
 simpa [h] using this
theorem nat_xor_ne {a b : Nat} (h : a ≠ b) : a ^^^ b ≠ 0 := fun e => h (by
 have e' : (a ^^^ b) ^^^ b = 0 ^^^ b := by rw [e]
 rw [Nat.xor_assoc, Nat.xor_self, Nat.xor_zero, Nat.zero_xor] at e'
 exact e')
theorem solve2_iff {d e : Nat} (h : d ≠ e) (hd : d < 16) (he : e < 16) (x p q : UInt8) : mulU x (pE d) ^^^ mulU (x ^^^ p) (pE e) = q ↔ x = solve2 d e p q := by
 have hlt : pE d ^^^ pE e < 256 := xlt (pE_lt d) (pE_lt e)
 have hne : pE d ^^^ pE e ≠ 0 := nat_xor_ne (pE_small h hd he)
 have e1 : mulU x (pE d) ^^^ mulU (x ^^^ p) (pE e) = mulU x (pE d ^^^ pE e) ^^^ mulU p (pE e) := by
  rw [mulU_xor, mulU_xor_right, UInt8.xor_assoc]
 rw [e1, ux_cancel]
 unfold solve2
 constructor
 ·intro h2; rw [← h2]; exact (mulU_back x hlt hne).symm
 ·rintro rfl; exact mulU_forth _ hlt hne
def fixD (m : Nat) (b : Nat → UInt8) (D : List Nat) (hp : Bool) : Nat → UInt8 :=
 match D with
 | [d] => upd b d (if hp then solve1 d (synQ m b) else synP m b)
 | [d, e] => upd (upd b d (solve2 d e (synP m b) (synQ m b))) e (solve2 d e (synP m b) (synQ m b) ^^^ synP m b)
 | _ => b
def fixPQ (m : Nat) (b : Nat → UInt8) (hp hq : Bool) : Nat → UInt8 :=
 upd (upd b m (if hp then b m ^^^ synP m b else b m)) (m + 1) (if hq then b (m + 1) ^^^ synQ m b else b (m + 1))
def fillB (m : Nat) (b : Nat → UInt8) (D : List Nat) (hp hq : Bool) : Nat → UInt8 := fixPQ m (fixD m b D hp) hp hq
def lostD (m : Nat) : Nat → (Nat → Int) → List Nat
 | 0, _ => []
 | n + 1, L => if L n < (m : Int) then lostD m n L ++ [(L n).toNat] else lostD m n L
theorem lostD_yes {m n : Nat} {L : Nat → Int} (h : L n < (m : Int)) : lostD m (n + 1) L = lostD m n L ++ [(L n).toNat] := if_pos h
theorem lostD_no {m n : Nat} {L : Nat → Int} (h : ¬ L n < (m : Int)) : lostD m (n + 1) L = lostD m n L := if_neg h
theorem lostD_length (m n : Nat) (L : Nat → Int) : (lostD m n L).length ≤ n := by
 induction n with
 | zero => exact Nat.le_refl _
 | succ n ih =>
  unfold lostD; split
  ·rw [List.length_append]; simp; omega
  ·omega
theorem lostD_mem {m n : Nat} {L : Nat → Int} (hok : ∀ i, i < n → 0 ≤ L i) {d : Nat} (h : d ∈ lostD m n L) : d < m ∧ ∃ i, i < n ∧ L i = (d : Int) := by
 induction n with
 | zero => cases h
 | succ n ih =>
  by_cases hl : L n < (m : Int)
  ·rw [lostD_yes hl, List.mem_append] at h
   rcases h with h | h
   ·obtain ⟨h1, i, hi, e⟩ := ih (fun i hi => hok i (by omega)) h
    exact ⟨h1, i, by omega, e⟩
   ·have := hok n (by omega)
    have e : d = (L n).toNat := by simpa using h
    exact ⟨by omega, n, by omega, by omega⟩
  ·rw [lostD_no hl] at h
   obtain ⟨h1, i, hi, e⟩ := ih (fun i hi => hok i (by omega)) h
   exact ⟨h1, i, by omega, e⟩
theorem upd_own {α : Type} (b : Nat → α) (k : Nat) : upd b k (b k) = b := by
 funext i; unfold upd; split
 ·rename_i h; rw [h]
 ·rfl
theorem fixPQ_ff (m : Nat) (b : Nat → UInt8) : fixPQ m b false false = b := by
 show upd (upd b m (b m)) (m + 1) (b (m + 1)) = b
 rw [upd_own, upd_own]
theorem fixPQ_tf (m : Nat) (b : Nat → UInt8) : fixPQ m b true false = upd b m (b m ^^^ synP m b) := by
 show upd (upd b m (b m ^^^ synP m b)) (m + 1) (b (m + 1)) = _
 funext i
 by_cases h : i = m + 1
 ·subst h; rw [upd_same, upd_other _ _ (by omega)]
 ·rw [upd_other _ _ h]
theorem fixPQ_ft (m : Nat) (b : Nat → UInt8) : fixPQ m b false true = upd b (m + 1) (b (m + 1) ^^^ synQ m b) := by
 show upd (upd b m (b m)) (m + 1) (b (m + 1) ^^^ synQ m b) = _
 rw [upd_own]
theorem fixPQ_tt (m : Nat) (b : Nat → UInt8) : fixPQ m b true true = upd (upd b m (b m ^^^ synP m b)) (m + 1) (b (m + 1) ^^^ synQ m b) := rfl
def tried (s : UInt8) (b c : Nat → UInt8) (k : Nat) : Nat → UInt8 := if s.toNat < k then c else b
theorem tried_zero (s : UInt8) (b c : Nat → UInt8) : tried s b c 0 = b := if_neg (by omega)
theorem tried_all (s : UInt8) (b c : Nat → UInt8) : tried s b c 256 = c := if_pos s.toNat_lt
theorem tried_hit (s : UInt8) (b c : Nat → UInt8) {k : Nat} (h : k = s.toNat) : tried s b c k = b ∧ tried s b c (k + 1) = c := by
 subst h; exact ⟨if_neg (by omega), if_pos (by omega)⟩
theorem tried_miss (s : UInt8) (b c : Nat → UInt8) {k : Nat} (h : k ≠ s.toNat) : tried s b c (k + 1) = tried s b c k := by
 unfold tried
 by_cases h1 : s.toNat < k
 ·rw [if_pos h1, if_pos (by omega)]
 ·rw [if_neg h1, if_neg (by omega)]
theorem of_toNat {k : Nat} {s : UInt8} (h : k = s.toNat) : (UInt8.ofNat k) = s := by subst h; exact UInt8.ofNat_toNat
theorem ofNat_lt {k : Nat} (h : k < 256) : (UInt8.ofNat k).toNat = k := by rw [UInt8.toNat_ofNat']; omega
theorem lostD_two {m n ln : Nat} {L : Nat → Int} {d e : Nat} (hln : ln ≤ 2) (hok : ∀ i, i < ln → 0 ≤ L i ∧ L i < (n : Int) ∧ hasF i L (L i) = false) (h : lostD m ln L = [d, e]) : d ≠ e := by
  have h2 : 2 ≤ ln := by have := lostD_length m ln L; rw [h] at this; simpa using this
  obtain rfl : ln = 2 := by omega
  have a := hok 0 (by omega)
  have b := hok 1 (by omega)
  have hne : L 0 ≠ L 1 := fun e0 => by
    have := hasF_yes (n := 1) (i := 0) (by omega) e0
    rw [b.2.2] at this; cases this
  by_cases h0 : L 0 < (m : Int)
  · by_cases h1 : L 1 < (m : Int)
    · have e1 : lostD m 2 L = [(L 0).toNat, (L 1).toNat] := by
        rw [lostD_yes h1, lostD_yes h0]; rfl
      rw [h] at e1
      simp only [List.cons.injEq, and_true] at e1
      omega
    · rw [lostD_no h1] at h
      have := lostD_length m 1 L
      rw [h] at this; simp at this
  · by_cases h1 : L 1 < (m : Int)
    · rw [lostD_yes h1, lostD_no h0] at h
      simp [lostD] at h
    · rw [lostD_no h1, lostD_no h0] at h
      cases h
end Go.Proofs.YtdgkhjgnjfgnlaaGreat.Rf
namespace Go.Proofs.YtdgkhjgnjfgnlaaGreat.Rf
open Gfm
theorem mem_lostD {m n : Nat} {L : Nat → Int} {d : Nat} (hd : d < m) (h : hasF n L (d : Int) = true) : d ∈ lostD m n L := by
 induction n with
 | zero => cases h
 | succ n ih =>
  rw [hasF_succ, Bool.or_eq_true] at h
  by_cases hl : L n < (m : Int)
  ·rw [lostD_yes hl, List.mem_append]
   rcases h with h | h
   ·exact .inl (ih h)
   ·have : L n = (d : Int) := by simpa using h
    exact .inr (by simp [this])
  ·rw [lostD_no hl]
   rcases h with h | h
   ·exact ih h
   ·have : L n = (d : Int) := by simpa using h
    omega
structure Lost (m ln : Nat) (L : Nat → Int) : Prop where
 two : ln ≤ 2
 small : m < 16
 ok : ∀ i, i < ln → 0 ≤ L i ∧ L i < ((m + 2 : Nat) : Int) ∧ hasF i L (L i) = false
variable {m ln : Nat} {L : Nat → Int}
theorem Lost.mem (h : Lost m ln L) {d : Nat} (hd : d ∈ lostD m ln L) : d < m ∧ hasF ln L (d : Int) = true := by
 obtain ⟨h1, i, hi, e⟩ := lostD_mem (fun i hi => (h.ok i hi).1) hd
 exact ⟨h1, hasF_yes hi e⟩
theorem Lost.three (h : Lost m ln L) {a b c : Int} (ha : hasF ln L a = true) (hb : hasF ln L b = true) (hc : hasF ln L c = true) (h1 : a ≠ b) (h2 : a ≠ c) (h3 : b ≠ c) : False := by
 obtain ⟨i, hi, ei⟩ := hasF_iff.1 ha
 obtain ⟨j, hj, ej⟩ := hasF_iff.1 hb
 obtain ⟨k, hk, ek⟩ := hasF_iff.1 hc
 have := h.two
 have n1 : i ≠ j := fun e => h1 (by rw [← ei, ← ej, e])
 have n2 : i ≠ k := fun e => h2 (by rw [← ei, ← ek, e])
 have n3 : j ≠ k := fun e => h3 (by rw [← ej, ← ek, e])
 omega
theorem Lost.kinds (h : Lost m ln L) :
  (lostD m ln L = [] ∧ ∀ i, i < m → hasF ln L (i : Int) = false) ∨
  (∃ d, d < m ∧ lostD m ln L = [d] ∧ hasF ln L (d : Int) = true ∧ (∀ i, i < m → i ≠ d → hasF ln L (i : Int) = false) ∧ ¬ (hasF ln L (m : Int) = true ∧ hasF ln L ((m : Int) + 1) = true)) ∨
  (∃ d e, d < m ∧ e < m ∧ d ≠ e ∧ lostD m ln L = [d, e] ∧ hasF ln L (d : Int) = true ∧ hasF ln L (e : Int) = true ∧ (∀ i, i < m → i ≠ d → i ≠ e → hasF ln L (i : Int) = false) ∧ hasF ln L (m : Int) = false ∧ hasF ln L ((m : Int) + 1) = false) := by
 have no : ∀ x, (hasF ln L x = true → False) → hasF ln L x = false := fun x hx => by
  cases e : hasF ln L x with
  | false => rfl
  | true => exact absurd e hx
 rcases hD : lostD m ln L with _ | ⟨d, _ | ⟨e, _ | ⟨x, r⟩⟩⟩
 ·refine .inl ⟨rfl, fun i hi => no _ fun hh => ?_⟩
  have := mem_lostD hi hh
  rw [hD] at this; cases this
 ·have hd := h.mem (d := d) (by rw [hD]; simp)
  refine .inr (.inl ⟨d, hd.1, rfl, hd.2, fun i hi hne => no _ fun hh => ?_, fun hh => ?_⟩)
  ·have := mem_lostD hi hh
   rw [hD] at this; exact hne (by simpa using this)
  ·exact h.three hd.2 hh.1 hh.2 (by have := hd.1; omega) (by have := hd.1; omega) (by omega)
 ·have hd := h.mem (d := d) (by rw [hD]; simp)
  have he := h.mem (d := e) (by rw [hD]; simp)
  have hne : d ≠ e := lostD_two h.two h.ok hD
  refine .inr (.inr ⟨d, e, hd.1, he.1, hne, rfl, hd.2, he.2, fun i hi h1 h2 => no _ fun hh => ?_, no _ fun hh => ?_, no _ fun hh => ?_⟩)
  ·have := mem_lostD hi hh
   rw [hD] at this; simp at this; omega
  ·exact h.three hd.2 he.2 hh (by omega) (by have := hd.1; omega) (by have := he.1; omega)
  ·exact h.three hd.2 he.2 hh (by omega) (by have := hd.1; omega) (by have := he.1; omega)
 ·exfalso
  have := lostD_length m ln L
  rw [hD] at this
  have := h.two
  simp at *; omega
theorem synP_set {b g : Nat → UInt8} {d : Nat} (hd : d < m) (h : ∀ i, i < m → i ≠ d → g i = b i) (hm : g m = b m) : synP m g = synP m b ^^^ (b d ^^^ g d) := by
 unfold synP; rw [xorN_set hd b g h, hm, UInt8.xor_assoc]
theorem fixPQ_data (b : Nat → UInt8) (hp hq : Bool) {i : Nat} (h : i < m) : fixPQ m b hp hq i = b i := by
 unfold fixPQ; rw [upd_other _ _ (by omega), upd_other _ _ (by omega)]
theorem fixPQ_p (b : Nat → UInt8) (hp hq : Bool) : fixPQ m b hp hq m = if hp then b m ^^^ synP m b else b m := by
 unfold fixPQ; rw [upd_other _ _ (by omega), upd_same]
theorem fixPQ_q (b : Nat → UInt8) (hp hq : Bool) : fixPQ m b hp hq (m + 1) = if hq then b (m + 1) ^^^ synQ m b else b (m + 1) := by
 unfold fixPQ; rw [upd_same]
theorem ux_p (a b : UInt8) : (a ^^^ (a ^^^ b)) = b := by rw [← UInt8.xor_assoc, UInt8.xor_self, UInt8.zero_xor]
theorem ux_zero {a b : UInt8} (h : a ^^^ b = 0) : b = a := by have := ux_p a b; rw [h, UInt8.xor_zero] at this; exact this.symm
theorem fixPQ_good {b g : Nat → UInt8} {hp hq : Bool} (gp : synP m g = 0) (gq : synQ m g = 0) (hd : ∀ i, i < m → b i = g i) (h1 : hp = false → b m = g m) (h2 : hq = false → b (m + 1) = g (m + 1)) : ∀ i, i < m + 2 → fixPQ m b hp hq i = g i := by
 have xp : xorN m b = xorN m g := xorN_congr hd
 have xq : (xorN m fun i => mulU (b i) (pE i)) = xorN m fun i => mulU (g i) (pE i) := xorN_congr fun i hi => by rw [hd i hi]
 intro i hi
 by_cases a : i < m
 ·rw [fixPQ_data b hp hq a]; exact hd i a
 ·by_cases c : i = m
  ·subst c
   rw [fixPQ_p]
   cases hp with
   | false => exact h1 rfl
   | true =>
    show b i ^^^ synP i b = g i
    unfold synP; rw [ux_p, xp]; exact ux_zero gp
  ·obtain rfl : i = m + 1 := by omega
   rw [fixPQ_q]
   cases hq with
   | false => exact h2 rfl
   | true =>
    show b (m + 1) ^^^ synQ m b = g (m + 1)
    unfold synQ; rw [ux_p, xq]; exact ux_zero gq
theorem fill_keeps (hL : Lost m ln L) {b : Nat → UInt8} {i : Nat} (hi : i < m + 2) (h : hasF ln L (i : Int) = false) : fillB m b (lostD m ln L) (hasF ln L (m : Int)) (hasF ln L ((m : Int) + 1)) i = b i := by
 have hq' : hasF ln L ((m + 1 : Nat) : Int) = hasF ln L ((m : Int) + 1) := by rw [show ((m + 1 : Nat) : Int) = (m : Int) + 1 from by omega]
 have hD : ∀ j : Nat, hasF ln L (j : Int) = false → fixD m b (lostD m ln L) (hasF ln L (m : Int)) j = b j := fun j hj => by
  rcases hL.kinds with ⟨e, _⟩ | ⟨d, hd, e, hh, _, _⟩ | ⟨d, e', hd, he, hne, e, hh1, hh2, _⟩
  ·rw [e]; rfl
  ·rw [e]; exact upd_other _ _ (fun c => by rw [c, hh] at hj; cases hj)
  ·rw [e]
   show upd (upd b d _) e' _ j = b j
   rw [upd_other _ _ (fun c => by rw [c, hh2] at hj; cases hj), upd_other _ _ (fun c => by rw [c, hh1] at hj; cases hj)]
 unfold fillB
 by_cases a : i < m
 ·rw [fixPQ_data _ _ _ a]; exact hD i h
 ·by_cases c : i = m
  ·subst c; rw [fixPQ_p, if_neg (by rw [h]; decide)]; exact hD i h
  ·obtain rfl : i = m + 1 := by omega
   rw [fixPQ_q, if_neg (by rw [← hq', h]; decide)]; exact hD (m + 1) h
end Go.Proofs.YtdgkhjgnjfgnlaaGreat.Rf
