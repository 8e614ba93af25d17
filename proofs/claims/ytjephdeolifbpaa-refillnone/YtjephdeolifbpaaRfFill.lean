/- One byte of each column: what P and Q are off, and what the lost ones are. Nothing of the program stands here. -/
import Derived.Test.YtjephdeolifbpaaRfMath
namespace Go.Proofs.Ytjephdeolifbpaa.Rf
open Gfm
/-- what P, and Q, of m data columns are off -/
def synP (m : Nat) (b : Nat → UInt8) : UInt8 := b m ^^^ xorN m b
def synQ (m : Nat) (b : Nat → UInt8) : UInt8 := b (m + 1) ^^^ xorN m fun i => mulU (b i) (pE i)
/-- the byte that times the power of column d is q -/
def solve1 (d : Nat) (q : UInt8) : UInt8 := mulU q (inv (pE d))
/-- the byte of column d that, with the one that makes P right in column e, makes Q right -/
def solve2 (d e : Nat) (p q : UInt8) : UInt8 := mulU (q ^^^ mulU p (pE e)) (inv (pE d ^^^ pE e))
theorem pE_ne (d : Nat) : pE d ≠ 0 := by
  intro h
  have h1 := mul_inv (pE_lt d)
  rw [pE_pw] at h
  have e : pw 2 (d + (255 * d + 255 - d)) = 1 := by
    rw [show d + (255 * d + 255 - d) = 255 * (d + 1) from by omega, ← pw_mul (by decide), pw_255 (by decide) (by decide), one_pw]
  rw [← pw_add (by decide), h, zero_mul] at e
  exact absurd e (by decide)
theorem ux_toNat {a b : UInt8} (h : a.toNat = b.toNat) : a = b := UInt8.toNat_inj.1 h
theorem mulU_back (x : UInt8) {n : Nat} (hn : n < 256) (h : n ≠ 0) : mulU (mulU x n) (inv n) = x := by
  apply ux_toNat
  rw [mulU_toNat, mulU_toNat, ← mul_assoc x.toNat_lt hn (inv_lt n), mul_inv hn h, mul_one x.toNat_lt]
theorem mulU_forth (x : UInt8) {n : Nat} (hn : n < 256) (h : n ≠ 0) : mulU (mulU x (inv n)) n = x := by
  apply ux_toNat
  rw [mulU_toNat, mulU_toNat, ← mul_assoc x.toNat_lt (inv_lt n) hn, mul_comm (inv_lt n) hn, mul_inv hn h, mul_one x.toNat_lt]
theorem solve1_iff (d : Nat) (x q : UInt8) : mulU x (pE d) = q ↔ x = solve1 d q := by
  unfold solve1
  constructor
  · rintro rfl; exact (mulU_back x (pE_lt d) (pE_ne d)).symm
  · rintro rfl; exact mulU_forth q (pE_lt d) (pE_ne d)
theorem mulU_xor_right (x : UInt8) (a b : Nat) : mulU x (a ^^^ b) = mulU x a ^^^ mulU x b := by
  apply ux_toNat
  rw [UInt8.toNat_xor, mulU_toNat, mulU_toNat, mulU_toNat, mul_xor_right]
theorem ux_cancel {a b c : UInt8} : a ^^^ b = c ↔ a = c ^^^ b := by
  constructor
  · rintro rfl; rw [UInt8.xor_assoc, UInt8.xor_self, UInt8.xor_zero]
  · rintro rfl; rw [UInt8.xor_assoc, UInt8.xor_self, UInt8.xor_zero]
theorem pE_small_all : ((List.range 16).all fun x => (List.range 16).all fun y => x == y || pw 2 x != pw 2 y) = true := by decide +kernel
theorem pE_small {x y : Nat} (h : x ≠ y) (hx : x < 16) (hy : y < 16) : pE x ≠ pE y := by
  have := pE_small_all
  rw [List.all_eq_true] at this
  have := this x (List.mem_range.2 hx)
  rw [List.all_eq_true] at this
  have := this y (List.mem_range.2 hy)
  rw [pE_pw, pE_pw]
  simpa [h] using this
theorem nat_xor_ne {a b : Nat} (h : a ≠ b) : a ^^^ b ≠ 0 := fun e => h (by
  have e' : (a ^^^ b) ^^^ b = 0 ^^^ b := by rw [e]
  rw [Nat.xor_assoc, Nat.xor_self, Nat.xor_zero, Nat.zero_xor] at e'
  exact e')
theorem solve2_iff {d e : Nat} (h : d ≠ e) (hd : d < 16) (he : e < 16) (x p q : UInt8) : mulU x (pE d) ^^^ mulU (x ^^^ p) (pE e) = q ↔ x = solve2 d e p q := by
  have hlt : pE d ^^^ pE e < 256 := xlt (pE_lt d) (pE_lt e)
  have hne : pE d ^^^ pE e ≠ 0 := nat_xor_ne (pE_small h hd he)
  have e1 : mulU x (pE d) ^^^ mulU (x ^^^ p) (pE e) = mulU x (pE d ^^^ pE e) ^^^ mulU p (pE e) := by
    rw [mulU_xor, mulU_xor_right, UInt8.xor_assoc]
  rw [e1, ux_cancel]
  unfold solve2
  constructor
  · intro h2; rw [← h2]; exact (mulU_back x hlt hne).symm
  · rintro rfl; exact mulU_forth _ hlt hne
/-- the lost data columns filled: those at D, of which at most two are there; hp: P is lost too -/
def fixD (m : Nat) (b : Nat → UInt8) (D : List Nat) (hp : Bool) : Nat → UInt8 :=
  match D with
  | [d] => upd b d (if hp then solve1 d (synQ m b) else synP m b)
  | [d, e] => upd (upd b d (solve2 d e (synP m b) (synQ m b))) e (solve2 d e (synP m b) (synQ m b) ^^^ synP m b)
  | _ => b
/-- .. then P and Q, where they are lost -/
def fixPQ (m : Nat) (b : Nat → UInt8) (hp hq : Bool) : Nat → UInt8 :=
  upd (upd b m (if hp then b m ^^^ synP m b else b m)) (m + 1) (if hq then b (m + 1) ^^^ synQ m b else b (m + 1))
def fillB (m : Nat) (b : Nat → UInt8) (D : List Nat) (hp hq : Bool) : Nat → UInt8 := fixPQ m (fixD m b D hp) hp hq
/-- those of the lost places that are data columns -/
def lostD (m : Nat) : Nat → (Nat → Int) → List Nat
  | 0, _ => []
  | n + 1, L => if L n < (m : Int) then lostD m n L ++ [(L n).toNat] else lostD m n L
theorem lostD_yes {m n : Nat} {L : Nat → Int} (h : L n < (m : Int)) : lostD m (n + 1) L = lostD m n L ++ [(L n).toNat] := if_pos h
theorem lostD_no {m n : Nat} {L : Nat → Int} (h : ¬ L n < (m : Int)) : lostD m (n + 1) L = lostD m n L := if_neg h
theorem lostD_length (m n : Nat) (L : Nat → Int) : (lostD m n L).length ≤ n := by
  induction n with
  | zero => exact Nat.le_refl _
  | succ n ih =>
    unfold lostD; split
    · rw [List.length_append]; simp; omega
    · omega
theorem lostD_mem {m n : Nat} {L : Nat → Int} (hok : ∀ i, i < n → 0 ≤ L i) {d : Nat} (h : d ∈ lostD m n L) : d < m ∧ ∃ i, i < n ∧ L i = (d : Int) := by
  induction n with
  | zero => cases h
  | succ n ih =>
    by_cases hl : L n < (m : Int)
    · rw [lostD_yes hl, List.mem_append] at h
      rcases h with h | h
      · obtain ⟨h1, i, hi, e⟩ := ih (fun i hi => hok i (by omega)) h
        exact ⟨h1, i, by omega, e⟩
      · have := hok n (by omega)
        have e : d = (L n).toNat := by simpa using h
        exact ⟨by omega, n, by omega, by omega⟩
    · rw [lostD_no hl] at h
      obtain ⟨h1, i, hi, e⟩ := ih (fun i hi => hok i (by omega)) h
      exact ⟨h1, i, by omega, e⟩
theorem upd_own {α : Type} (b : Nat → α) (k : Nat) : upd b k (b k) = b := by
  funext i; unfold upd; split
  · rename_i h; rw [h]
  · rfl
theorem fixPQ_ff (m : Nat) (b : Nat → UInt8) : fixPQ m b false false = b := by
  show upd (upd b m (b m)) (m + 1) (b (m + 1)) = b
  rw [upd_own, upd_own]
theorem fixPQ_tf (m : Nat) (b : Nat → UInt8) : fixPQ m b true false = upd b m (b m ^^^ synP m b) := by
  show upd (upd b m (b m ^^^ synP m b)) (m + 1) (b (m + 1)) = _
  funext i
  by_cases h : i = m + 1
  · subst h; rw [upd_same, upd_other _ _ (by omega)]
  · rw [upd_other _ _ h]
theorem fixPQ_ft (m : Nat) (b : Nat → UInt8) : fixPQ m b false true = upd b (m + 1) (b (m + 1) ^^^ synQ m b) := by
  show upd (upd b m (b m)) (m + 1) (b (m + 1) ^^^ synQ m b) = _
  rw [upd_own]
theorem fixPQ_tt (m : Nat) (b : Nat → UInt8) : fixPQ m b true true = upd (upd b m (b m ^^^ synP m b)) (m + 1) (b (m + 1) ^^^ synQ m b) := rfl
/-- while x is sought from 0 on: the one that is found stands there -/
def tried (s : UInt8) (b c : Nat → UInt8) (k : Nat) : Nat → UInt8 := if s.toNat < k then c else b
theorem tried_zero (s : UInt8) (b c : Nat → UInt8) : tried s b c 0 = b := if_neg (by omega)
theorem tried_all (s : UInt8) (b c : Nat → UInt8) : tried s b c 256 = c := if_pos s.toNat_lt
theorem tried_hit (s : UInt8) (b c : Nat → UInt8) {k : Nat} (h : k = s.toNat) : tried s b c k = b ∧ tried s b c (k + 1) = c := by
  subst h; exact ⟨if_neg (by omega), if_pos (by omega)⟩
theorem tried_miss (s : UInt8) (b c : Nat → UInt8) {k : Nat} (h : k ≠ s.toNat) : tried s b c (k + 1) = tried s b c k := by
  unfold tried
  by_cases h1 : s.toNat < k
  · rw [if_pos h1, if_pos (by omega)]
  · rw [if_neg h1, if_neg (by omega)]
theorem of_toNat {k : Nat} {s : UInt8} (h : k = s.toNat) : (UInt8.ofNat k) = s := by subst h; exact UInt8.ofNat_toNat
theorem ofNat_lt {k : Nat} (h : k < 256) : (UInt8.ofNat k).toNat = k := by rw [UInt8.toNat_ofNat']; omega
theorem lostD_two {m n ln : Nat} {L : Nat → Int} {d e : Nat} (hln : ln ≤ 2) (hok : ∀ i, i < ln → 0 ≤ L i ∧ L i < (n : Int) ∧ hasF i L (L i) = false) (h : lostD m ln L = [d, e]) : d ≠ e := by
  have h2 : 2 ≤ ln := by have := lostD_length m ln L; rw [h] at this; simpa using this
  obtain rfl : ln = 2 := by omega
  have a := hok 0 (by omega)
  have b := hok 1 (by omega)
  have hne : L 0 ≠ L 1 := fun e0 => by
    have := hasF_yes (n := 1) (i := 0) (by omega) e0
    rw [b.2.2] at this; cases this
  by_cases h0 : L 0 < (m : Int)
  · by_cases h1 : L 1 < (m : Int)
    · have e1 : lostD m 2 L = [(L 0).toNat, (L 1).toNat] := by
        rw [lostD_yes h1, lostD_yes h0]; rfl
      rw [h] at e1
      simp only [List.cons.injEq, and_true] at e1
      omega
    · rw [lostD_no h1] at h
      have := lostD_length m 1 L
      rw [h] at this; simp at this
  · by_cases h1 : L 1 < (m : Int)
    · rw [lostD_yes h1, lostD_no h0] at h
      simp [lostD] at h
    · rw [lostD_no h1, lostD_no h0] at h
      cases h
end Go.Proofs.Ytjephdeolifbpaa.Rf
