import Derived.Test.YtdgkhjgnjfgnlaaGreatMRfA
import Derived.Test.YtdgkhjgnjfgnlaaGreatMKitF
import Derived.Test.YtdgkhjgnjfgnlaaGreatMSynB
namespace Go.Proofs.YtdgkhjgnjfgnlaaGreat
open Go.RowKit
def Rf.atB (f : Nat → ByteArray) (ln : Nat) (L : Nat → Int) (k i : Nat) : UInt8 := if Rf.hasF ln L (i : Int) then 0 else Gfm.byt (f i) k
theorem Rf.atB_lost {f : Nat → ByteArray} {ln : Nat} {L : Nat → Int} {k i : Nat} (h : Rf.hasF ln L (i : Int) = true) : Rf.atB f ln L k i = 0 := if_pos h
theorem Rf.atB_kept {f : Nat → ByteArray} {ln : Nat} {L : Nat → Int} {k i : Nat} (h : Rf.hasF ln L (i : Int) = false) : Rf.atB f ln L k i = Gfm.byt (f i) k := by unfold Rf.atB; rw [h]; rfl
def Rf.rowsR (n : Nat) (f : Nat → ByteArray) (ln : Nat) (L : Nat → Int) (t : Nat) : Nat → UInt8 :=
 Rf.fillB (n - 2) (Rf.atB f ln L t) (Rf.lostD (n - 2) ln L) (Rf.hasF ln L ((n - 2 : Nat) : Int)) (Rf.hasF ln L (((n - 2 : Nat) : Int) + 1))
def Rf.fillF (n : Nat) (f : Nat → ByteArray) (ln : Nat) (L : Nat → Int) (i : Nat) : ByteArray := ⟨(bl (Rf.szF f ln L n).toNat fun t => Rf.rowsR n f ln L t i).toArray⟩
def Rf.kF (n : Nat) (e : Int) : Nat := if e = 0 then n else 0
theorem Rf.kF_ok (n : Nat) : Rf.kF n 0 = n := if_pos rfl
theorem Rf.kF_no {n : Nat} {e : Int} (h : e ≠ 0) : Rf.kF n e = 0 := if_neg h
def FillSays (n : Nat) (f : Nat → ByteArray) (ln : Nat) (L : Nat → Int) (e : Ending) (w' : World) : Prop :=
 ∃ g c, e = .returned (.tuple #[.slice g (Rf.kF n (Rf.mayF n f ln L)) c, .int .i64 (Rf.mayF n f ln L)]) ∧ RowS w' g (Rf.kF n (Rf.mayF n f ln L)) (Rf.fillF n f ln L) ∧ Rf.kF n (Rf.mayF n f ln L) ≤ c
def MakeSays (n : Nat) (f : Nat → ByteArray) (e : Ending) (w' : World) : Prop :=
 ∃ g c, e = .returned (.tuple #[.slice g (Rf.kF (n + 2) (Rf.mayF (n + 2) (ownRow n f) 0 fun _ => 0)) c, .int .i64 (Rf.mayF (n + 2) (ownRow n f) 0 fun _ => 0)]) ∧ RowS w' g (Rf.kF (n + 2) (Rf.mayF (n + 2) (ownRow n f) 0 fun _ => 0)) (ownRow n f) ∧ Rf.kF (n + 2) (Rf.mayF (n + 2) (ownRow n f) 0 fun _ => 0) ≤ c
theorem Rf.fillF_size {n : Nat} {f : Nat → ByteArray} {ln : Nat} {L : Nat → Int} {s : Nat} (h : Rf.szF f ln L n = (s : Int)) (i : Nat) : (Rf.fillF n f ln L i).size = s := by
 unfold Rf.fillF
 show (bl _ _).toArray.size = s
 rw [List.size_toArray, bl_length, h]; rfl
theorem Rf.fillF_byt {n : Nat} {f : Nat → ByteArray} {ln : Nat} {L : Nat → Int} {s : Nat} (h : Rf.szF f ln L n = (s : Int)) {i t : Nat} (ht : t < s) : Gfm.byt (Rf.fillF n f ln L i) t = Rf.rowsR n f ln L t i := by
 unfold Rf.fillF Gfm.byt
 rw [List.toList_toArray, h, show ((s : Nat) : Int).toNat = s from rfl, List.getD_eq_getElem?_getD]
 simp [bl, ht]
end Go.Proofs.YtdgkhjgnjfgnlaaGreat
namespace Go.Proofs.YtdgkhjgnjfgnlaaGreat
open Go.RowKit
namespace Rf
open Gfm
theorem szO_same {f : Nat → ByteArray} {ln n s : Nat} {L : Nat → Int} (h : ∀ i, i < n → hasF ln L (i : Int) = false → (f i).size = s) :
  (szO f ln L n = some (-1) ∧ ∀ i, i < n → hasF ln L (i : Int) = true) ∨ szO f ln L n = some (s : Int) := by
 induction n with
 | zero => exact .inl ⟨rfl, fun i hi => absurd hi (Nat.not_lt_zero _)⟩
 | succ n ih =>
  have ih := ih fun i hi => h i (by omega)
  cases hl : hasF ln L (n : Int) with
  | true =>
   rcases ih with ⟨e, ha⟩ | e
   ·refine .inl ⟨szO_lost e hl, fun i hi => ?_⟩
    by_cases c : i = n
    ·subst c; exact hl
    ·exact ha i (by omega)
   ·exact .inr (szO_lost e hl)
  | false =>
   have hs := h n (by omega) hl
   rcases ih with ⟨e, _⟩ | e
   ·right; rw [← hs]; exact szO_next e hl (by omega)
   ·right; rw [← hs]; exact szO_next e hl (by omega)
theorem kept_one {m ln : Nat} {L : Nat → Int} (h : Lost m ln L) (hm : 1 ≤ m) : ∃ i, i < m + 2 ∧ hasF ln L (i : Int) = false := by
 cases h0 : hasF ln L ((0 : Nat) : Int) with
 | false => exact ⟨0, by omega, h0⟩
 | true =>
  cases h1 : hasF ln L ((1 : Nat) : Int) with
  | false => exact ⟨1, by omega, h1⟩
  | true =>
   cases h2 : hasF ln L ((2 : Nat) : Int) with
   | false => exact ⟨2, by omega, h2⟩
   | true => exact absurd (h.three h0 h1 h2 (by omega) (by omega) (by omega)) id
theorem szF_same {m : Nat} {f : Nat → ByteArray} {ln s : Nat} {L : Nat → Int} (h : Lost m ln L) (hm : 1 ≤ m) (hs : ∀ i, i < m + 2 → hasF ln L (i : Int) = false → (f i).size = s) : szF f ln L (m + 2) = (s : Int) := by
 obtain ⟨i, hi, hk⟩ := kept_one h hm
 unfold szF
 rcases szO_same hs with ⟨_, ha⟩ | e
 ·rw [ha i hi] at hk; cases hk
 ·rw [e]; rfl
theorem rowsR_eq {m : Nat} {f : Nat → ByteArray} {ln : Nat} {L : Nat → Int} (t : Nat) : rowsR (m + 2) f ln L t = fillB m (atB f ln L t) (lostD m ln L) (hasF ln L (m : Int)) (hasF ln L ((m : Int) + 1)) := rfl
theorem fillF_keeps {m : Nat} {f : Nat → ByteArray} {ln s : Nat} {L : Nat → Int} (h : Lost m ln L) (hm : 1 ≤ m) (hs : ∀ i, i < m + 2 → hasF ln L (i : Int) = false → (f i).size = s) {i : Nat} (hi : i < m + 2) (hk : hasF ln L (i : Int) = false) : fillF (m + 2) f ln L i = f i := by
 have e := szF_same h hm hs
 refine byt_ext (by rw [fillF_size e, hs i hi hk]) fun t => ?_
 by_cases ht : t < s
 ·rw [fillF_byt e ht, rowsR_eq, fill_keeps h hi hk, atB_kept hk]
 ·rw [byt_past (by rw [fillF_size e]; omega), byt_past (by rw [hs i hi hk]; omega)]
def col (g : Nat → ByteArray) (t i : Nat) : UInt8 := byt (g i) t
theorem Lost.zero {m : Nat} (hm : m < 16) (L : Nat → Int) : Lost m 0 L := ⟨by omega, hm, fun i hi => absurd hi (Nat.not_lt_zero _)⟩
theorem Lost.one {m a : Nat} (hm : m < 16) (ha : a < m + 2) (L : Nat → Int) (h0 : L 0 = (a : Int)) : Lost m 1 L := ⟨by omega, hm, fun i hi => by
 obtain rfl : i = 0 := by omega
 rw [h0]; exact ⟨by omega, by omega, rfl⟩⟩
end Rf
end Go.Proofs.YtdgkhjgnjfgnlaaGreat
namespace Go.Proofs.YtdgkhjgnjfgnlaaGreat.Rf
def kc : Nat → (Int → Bool) → Nat
 | 0, _ => 0
 | n + 1, p => kc n p + (if p (n : Int) then 0 else 1)
theorem kc_congr {n : Nat} {p q : Int → Bool} (h : ∀ j : Nat, j < n → q (j : Int) = p (j : Int)) : kc n q = kc n p := by
 induction n with
 | zero => rfl
 | succ n ih => show kc n q + _ = kc n p + _; rw [ih fun j hj => h j (by omega), h n (by omega)]
theorem kc_upd {n i : Nat} {p q : Int → Bool} (hi : i < n) (hp : p (i : Int) = false) (hq : q (i : Int) = true) (h : ∀ j : Nat, j < n → j ≠ i → q (j : Int) = p (j : Int)) : kc n q + 1 = kc n p := by
 induction n with
 | zero => omega
 | succ n ih =>
  show kc n q + _ + 1 = kc n p + _
  by_cases e : i = n
  ·subst e
   rw [hp, hq, kc_congr (p := p) (q := q) fun j hj => h j (by omega) (by omega)]; simp
  ·have := ih (by omega) fun j hj hne => h j (by omega) hne
   rw [h n (by omega) (by omega)]; omega
theorem kc_none (n : Nat) (p : Int → Bool) (h : ∀ x, p x = false) : kc n p = n := by
 induction n with
 | zero => rfl
 | succ n ih => show kc n p + _ = _; rw [ih, h]; simp
theorem kc_lost {n ln : Nat} {L : Nat → Int} (h : ∀ i, i < ln → 0 ≤ L i ∧ L i < (n : Int) ∧ hasF i L (L i) = false) : kc n (hasF ln L) + ln = n := by
 induction ln with
 | zero => rw [kc_none n (hasF 0 L) fun x => rfl]; omega
 | succ ln ih =>
  have h1 := ih fun i hi => h i (by omega)
  obtain ⟨a, b, c⟩ := h ln (by omega)
  obtain ⟨y, hy⟩ := Int.eq_ofNat_of_zero_le a
  rw [hy] at b c
  have h2 := kc_upd (n := n) (i := y) (p := hasF ln L) (q := hasF (ln + 1) L) (by omega) c (by rw [hasF_succ, hy]; simp) fun j _ hne => by
   rw [hasF_succ, hy]
   have : ((y : Int) == (j : Int)) = false := by rw [beq_eq_false_iff_ne]; omega
   rw [this, Bool.or_false]
  omega
def keptF (f : Nat → ByteArray) (ln : Nat) (L : Nat → Int) : Nat → List ByteArray
 | 0 => []
 | n + 1 => if hasF ln L (n : Int) then keptF f ln L n else keptF f ln L n ++ [f n]
def keptG (f : Nat → ByteArray) (ln : Nat) (L : Nat → Int) (n j : Nat) : ByteArray := (keptF f ln L n).getD j ByteArray.empty
theorem keptF_lost {f : Nat → ByteArray} {ln n : Nat} {L : Nat → Int} (h : hasF ln L (n : Int) = true) : keptF f ln L (n + 1) = keptF f ln L n := if_pos h
theorem keptF_kept {f : Nat → ByteArray} {ln n : Nat} {L : Nat → Int} (h : hasF ln L (n : Int) = false) : keptF f ln L (n + 1) = keptF f ln L n ++ [f n] := if_neg (by rw [h]; decide)
theorem keptF_length (f : Nat → ByteArray) (ln : Nat) (L : Nat → Int) (n : Nat) : (keptF f ln L n).length = kc n (hasF ln L) := by
 induction n with
 | zero => rfl
 | succ n ih =>
  show _ = kc n _ + _
  cases h : hasF ln L (n : Int) with
  | true => rw [keptF_lost h, ih]; simp
  | false => rw [keptF_kept h, List.length_append, ih]; simp
theorem keptF_le (f : Nat → ByteArray) (ln : Nat) (L : Nat → Int) (n : Nat) : (keptF f ln L n).length ≤ n := by
 induction n with
 | zero => exact Nat.le_refl _
 | succ n ih =>
  cases h : hasF ln L (n : Int) with
  | true => rw [keptF_lost h]; omega
  | false => rw [keptF_kept h, List.length_append]; simp; omega
theorem mem_keptF {f : Nat → ByteArray} {ln n : Nat} {L : Nat → Int} {c : ByteArray} : c ∈ keptF f ln L n ↔ ∃ i, i < n ∧ hasF ln L (i : Int) = false ∧ f i = c := by
 induction n with
 | zero => exact ⟨fun h => (by cases h), fun ⟨i, hi, _⟩ => absurd hi (Nat.not_lt_zero _)⟩
 | succ n ih =>
  cases h : hasF ln L (n : Int) with
  | true =>
   rw [keptF_lost h, ih]
   constructor
   ·rintro ⟨i, hi, e⟩; exact ⟨i, by omega, e⟩
   ·rintro ⟨i, hi, e, e2⟩
    by_cases c : i = n
    ·subst c; rw [h] at e; cases e
    ·exact ⟨i, by omega, e, e2⟩
  | false =>
   rw [keptF_kept h, List.mem_append, ih]
   constructor
   ·rintro (⟨i, hi, e⟩ | e)
    ·exact ⟨i, by omega, e⟩
    ·exact ⟨n, by omega, h, (List.mem_singleton.1 e).symm⟩
   ·rintro ⟨i, hi, e, e2⟩
    by_cases c : i = n
    ·subst c; exact .inr (by simp [e2])
    ·exact .inl ⟨i, by omega, e, e2⟩
theorem keptG_fits {B n : Nat} {f : Nat → ByteArray} (h : ∀ i, i < n → (f i).size ≤ B) (ln : Nat) (L : Nat → Int) (j : Nat) (hj : j < (keptF f ln L n).length) : (keptG f ln L n j).size ≤ B := by
 unfold keptG
 rw [List.getD_eq_getElem?_getD, List.getElem?_eq_getElem hj]
 obtain ⟨i, hi, _, e⟩ := mem_keptF.1 (List.getElem_mem hj)
 show (keptF f ln L n)[j].size ≤ B
 rw [← e]; exact h i hi
def oddF (s : Nat) (c : ByteArray) : Bool := decide (4096 < (c.size : Int)) || decide (c.size ≠ s)
def anyOdd (s : Nat) : Nat → (Nat → ByteArray) → Bool
 | 0, _ => false
 | n + 1, g => anyOdd s n g || oddF s (g n)
theorem anyOdd_yes {s n j : Nat} {g : Nat → ByteArray} (hj : j < n) (h : oddF s (g j) = true) : anyOdd s n g = true := by
 induction n with
 | zero => omega
 | succ n ih =>
  show (anyOdd s n g || oddF s (g n)) = true
  by_cases e : j = n
  ·subst e; rw [h, Bool.or_true]
  ·rw [ih (by omega), Bool.true_or]
theorem anyOdd_no {s n : Nat} {g : Nat → ByteArray} (h : ∀ j, j < n → oddF s (g j) = false) : anyOdd s n g = false := by
 induction n with
 | zero => rfl
 | succ n ih => show (anyOdd s n g || oddF s (g n)) = false; rw [ih fun j hj => h j (by omega), h n (by omega)]; rfl
theorem oddF_no {s : Nat} {c : ByteArray} (h : c.size = s) (h2 : s ≤ 4096) : oddF s c = false := by
 unfold oddF; rw [Bool.or_eq_false_iff]; exact ⟨by rw [decide_eq_false_iff_not]; omega, by rw [decide_eq_false_iff_not]; omega⟩
theorem oddF_is {s : Nat} {c : ByteArray} (h : oddF s c = false) : c.size = s ∧ s ≤ 4096 := by
 unfold oddF at h; rw [Bool.or_eq_false_iff, decide_eq_false_iff_not, decide_eq_false_iff_not] at h; omega
def evenF (f : Nat → ByteArray) (ln : Nat) (L : Nat → Int) (n : Nat) : Bool := !anyOdd (keptG f ln L n 0).size (keptF f ln L n).length (keptG f ln L n)
theorem even_size {n ln : Nat} {f : Nat → ByteArray} {L : Nat → Int} (hok : okL n ln L = true) : evenF f ln L n = true ↔ ¬ (ln < n ∧ (szF f ln L n < 0 ∨ 4096 < szF f ln L n)) := by
 have hk : kc n (hasF ln L) + ln = n := kc_lost fun i hi => okL_at hok hi
 have hlen := keptF_length f ln L n
 unfold evenF
 rw [Bool.not_eq_true']
 constructor
 ·intro h hh
  have h0 : 0 < (keptF f ln L n).length := by omega
  have hall : ∀ j, j < (keptF f ln L n).length → (keptG f ln L n j).size = (keptG f ln L n 0).size ∧ (keptG f ln L n 0).size ≤ 4096 := fun j hj => oddF_is (by
   cases e : oddF (keptG f ln L n 0).size (keptG f ln L n j) with
   | false => rfl
   | true => rw [anyOdd_yes hj e] at h; cases h)
  have hs : ∀ i, i < n → hasF ln L (i : Int) = false → (f i).size = (keptG f ln L n 0).size := fun i hi hl => by
   obtain ⟨j, hj, e⟩ := List.getElem_of_mem (mem_keptF.2 ⟨i, hi, hl, rfl⟩)
   have := (hall j hj).1
   unfold keptG at this
   rw [List.getD_eq_getElem?_getD, List.getElem?_eq_getElem hj, Option.getD_some, e] at this
   exact this
  obtain ⟨i, hi, hl, _⟩ := mem_keptF.1 (List.getElem_mem h0)
  have h4 := (hall 0 h0).2
  unfold szF at hh
  rcases szO_same hs with ⟨_, ha⟩ | e
  ·rw [ha i hi] at hl; cases hl
  ·rw [e] at hh; simp only [Option.getD_some] at hh; omega
 ·intro h
  refine anyOdd_no fun j hj => ?_
  have hln : ln < n := by omega
  cases e : szO f ln L n with
  | none => exact absurd ⟨hln, .inl (by unfold szF; rw [e]; show (-1 : Int) < 0; omega)⟩ h
  | some s =>
   have hz : szF f ln L n = s := by unfold szF; rw [e]; rfl
   have hs := szO_all e
   have at_ : ∀ j, j < (keptF f ln L n).length → ((keptG f ln L n j).size : Int) = s := fun j hj => by
    unfold keptG
    rw [List.getD_eq_getElem?_getD, List.getElem?_eq_getElem hj]
    obtain ⟨i, hi, hl, e⟩ := mem_keptF.1 (List.getElem_mem hj)
    show ((keptF f ln L n)[j].size : Int) = s
    rw [← e]; exact hs.1 i hi hl
   have a := at_ j hj
   have b := at_ 0 (by omega)
   exact oddF_no (by omega) (by rw [hz] at h; omega)
theorem even_yes {n ln : Nat} {f : Nat → ByteArray} {L : Nat → Int} (hok : okL n ln L = true) (h : evenF f ln L n = true) : ¬ (ln < n ∧ (szF f ln L n < 0 ∨ 4096 < szF f ln L n)) := (even_size hok).1 h
theorem even_no {n ln : Nat} {f : Nat → ByteArray} {L : Nat → Int} (hok : okL n ln L = true) (h : evenF f ln L n = false) : ln < n ∧ (szF f ln L n < 0 ∨ 4096 < szF f ln L n) := by
 by_cases c : ln < n ∧ (szF f ln L n < 0 ∨ 4096 < szF f ln L n)
 ·exact c
 ·rw [(even_size hok).2 c] at h; cases h
end Go.Proofs.YtdgkhjgnjfgnlaaGreat.Rf
