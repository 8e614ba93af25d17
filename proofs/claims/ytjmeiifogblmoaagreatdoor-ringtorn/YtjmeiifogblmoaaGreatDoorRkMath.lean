/- What the program's own ways of telling a record come to: plain. -/
import Derived.Test.YtjmeiifogblmoaaGreatDoorMRefG
import Derived.Test.YtjmeiifogblmoaaGreatDoorPgTrim
namespace Go.Proofs.YtjmeiifogblmoaaGreatDoor

namespace Rc
/-- no two of the first n stand at one place -/
def apartTo (f : Nat → Prt) : Nat → Bool
  | 0 => true
  | i + 1 => apartTo f i && freshTo f i i
/-- the first n have places that may be -/
def inTo (f : Nat → Prt) : Nat → Bool
  | 0 => true
  | i + 1 => inTo f i && inB (f i)
theorem okTo_split (f : Nat → Prt) : ∀ n, okTo f n = (inTo f n && apartTo f n)
  | 0 => rfl
  | n + 1 => by
    unfold okTo inTo apartTo
    rw [okTo_split f n]
    cases inTo f n <;> cases apartTo f n <;> cases inB (f n) <;> cases freshTo f n n <;> rfl
theorem inTo_iff (f : Nat → Prt) : ∀ n, inTo f n = true ↔ ∀ i, i < n → inB (f i) = true
  | 0 => ⟨fun _ _ h => absurd h (Nat.not_lt_zero _), fun _ => rfl⟩
  | n + 1 => by
    unfold inTo
    rw [Bool.and_eq_true, inTo_iff f n]
    constructor
    · rintro ⟨h1, h2⟩ i hi
      by_cases e : i = n
      · subst e; exact h2
      · exact h1 i (by omega)
    · intro h; exact ⟨fun i hi => h i (by omega), h n (by omega)⟩
theorem inTo_not {f : Nat → Prt} {n i : Nat} (hi : i < n) (h : inB (f i) = false) : inTo f n = false := by
  cases e : inTo f n with
  | false => rfl
  | true => have := (inTo_iff f n).1 e i hi; rw [h] at this; cases this
theorem places_few {row : Int} {n : Nat} {f : Nat → Prt} (h : fewB row n = false) : placesB row n f = false := by unfold placesB; rw [h]; rfl
theorem places_out {row : Int} {n : Nat} {f : Nat → Prt} (h : inTo f n = false) : placesB row n f = false := by unfold placesB; rw [okTo_split, h]; cases fewB row n <;> rfl
theorem places_apart {row : Int} {n : Nat} {f : Nat → Prt} (h : fewB row n = true) (h2 : inTo f n = true) : placesB row n f = apartTo f n := by unfold placesB; rw [okTo_split, h, h2]; cases apartTo f n <;> rfl
/-- all texts behind one another, as bytes -/
theorem catTo_flat (f : Nat → Prt) : ∀ n, (catTo f n).data.toList = (((List.range n).map fun j => (f j).data).map (·.data.toList)).flatten
  | 0 => rfl
  | n + 1 => by
    unfold catTo
    rw [ByteArray.data_append, Array.toList_append, catTo_flat f n, List.range_succ]
    simp
/-- the last bytes of a head, from k on, are bytes 0 -/
def zeroFrom (t : ByteArray) (k : Nat) : Bool := (t.data.toList.drop k).all (· == 0)
theorem zeroFrom_iff (t : ByteArray) (k : Nat) : zeroFrom t k = true ↔ t.data.toList.drop k = List.replicate (t.size - k) 0 := by
  unfold zeroFrom
  rw [List.eq_replicate_iff, List.length_drop, Pg.list_size]
  simp
theorem plB_part (t : ByteArray) (j : Nat) : plB (partT t j) = Pg.byt11 t (19 + j) := by
  unfold plB partT
  dsimp only
  generalize Pg.byt11 t (19 + j) = c
  have hc := c.toNat_lt
  apply UInt8.toNat_inj.1
  rw [UInt8.toNat_ofNat']
  omega
theorem nums_back {t : ByteArray} (ts : t.size = 60) : (numsB (numT t 0) (numT t 1 : Nat) (numT t 2) (numT t 3)).data.toList = (t.extract 4 19).data.toList := by
  have hl : (t.extract 4 19).data.toList.length = Pk.offs ws ws.length := by rw [Pg.list_size, num_size ts]; rfl
  have h2 : (Pk.dec (t.extract 4 19).data.toList ws).length = 4 := Pk.dec_length ws_ok hl
  have e : [numT t 0, numT t 1, numT t 2, numT t 3] = Pk.dec (t.extract 4 19).data.toList ws := by
    unfold numT
    generalize Pk.dec (t.extract 4 19).data.toList ws = l at h2
    match l, h2 with
    | [a, b, c, d], _ => rfl
  unfold numsB
  rw [show ((numT t 1 : Nat) : Int).toNat = numT t 1 by omega, e]
  show (Pk.encS _ ws).data.toList = _
  unfold Pk.encS
  rw [Pk.enc_dec ws_ok hl]
theorem codes_back {t : ByteArray} (ts : t.size = 60) {n : Nat} (hn : n ≤ 40) : (plTo (partT t) n).data.toList = (t.data.toList.drop 19).take n := by
  rw [plTo_list]
  apply List.ext_getElem?
  intro j
  have hl : t.data.toList.length = 60 := by rw [Pg.list_size, ts]
  by_cases h : j < n
  · rw [List.getElem?_take_of_lt h, List.getElem?_drop, List.getElem?_map, List.getElem?_range h, Option.map_some, plB_part]
    unfold Pg.byt11
    rw [List.getD_eq_getElem?_getD, List.getElem?_eq_getElem (by omega)]
    rfl
  · rw [List.getElem?_eq_none (by simp; omega), List.getElem?_eq_none (by simp; omega)]
theorem body_back {t : ByteArray} (ts : t.size = 60) (hf : t.extract 0 4 = magicB) {n : Nat} (hn : n = numT t 2) (h40 : n ≤ 40) : (bodyB (numT t 0) (numT t 1 : Nat) n (partT t) (numT t 3)).data.toList = t.data.toList.take (19 + n) := by
  unfold bodyB
  rw [ByteArray.data_append, ByteArray.data_append, Array.toList_append, Array.toList_append, hn, nums_back ts, ← hn, codes_back ts h40, ← hf, Pg.extract_list, Pg.extract_list]
  rw [show 19 + n = 4 + (15 + n) by omega, List.take_add, List.take_add, List.drop_drop]
  simp [List.append_assoc]
/-- a head that opens is the one of what it tells just if bytes 0 stand behind -/
theorem head_again {b t : ByteArray} (h : b.size = 64) (ho : Crc.opens b.data.toList = true) (ht : Crc.headB b = t) (hf : t.extract 0 4 = magicB) (h40 : numT t 2 ≤ 40) :
    decide (headS (numT t 0) (numT t 1 : Nat) (numT t 2) (partT t) (numT t 3) = b) = zeroFrom t (19 + numT t 2) := by
  have ts : t.size = 60 := by rw [← ht]; exact Pg.head_size h
  have hbl : b.data.toList.length = 64 := by rw [Pg.list_size, h]
  have htl : t.data.toList = b.data.toList.take 60 := by rw [← ht]; unfold Crc.headB; rw [Pg.extract_list, h]; rfl
  have hb : b.data.toList = t.data.toList ++ Crc.fourL (Crc.more 0 t.data.toList) := by
    unfold Crc.opens at ho
    rw [Bool.and_eq_true, hbl] at ho
    have e := eq_of_beq ho.2
    rw [htl, ← e]
    exact (List.take_append_drop 60 _).symm
  obtain ⟨n, hn⟩ : ∃ n, n = numT t 2 := ⟨_, rfl⟩
  rw [← hn] at h40 ⊢
  have hbody := body_back ts hf hn h40
  have htl60 : t.data.toList.length = 60 := by rw [Pg.list_size, ts]
  have hbs : (t.data.toList.take (19 + n)).length = 19 + n := by rw [List.length_take, htl60]; omega
  have hhead : (headS (numT t 0) (numT t 1 : Nat) n (partT t) (numT t 3)).data.toList = (t.data.toList.take (19 + n) ++ List.replicate (41 - n) 0) ++ Crc.fourL (Crc.more 0 (t.data.toList.take (19 + n) ++ List.replicate (41 - n) 0)) := by
    unfold headS Crc.sealB
    show Crc.sealL _ 64 = _
    unfold Crc.sealL Crc.padL
    rw [hbody, hbs, show 64 - 4 - (19 + n) = 41 - n by omega]
  have hdl : (t.data.toList.drop (19 + n)).length = 41 - n := by rw [List.length_drop, htl60]; omega
  rw [Bool.eq_iff_iff, decide_eq_true_iff, zeroFrom_iff, ts, show 60 - (19 + n) = 41 - n by omega]
  constructor
  · intro e
    have e1 : (headS (numT t 0) (numT t 1 : Nat) n (partT t) (numT t 3)).data.toList = b.data.toList := by rw [e]
    rw [hhead, hb] at e1
    have e2 := List.append_inj_left e1 (by rw [List.length_append, hbs, List.length_replicate, htl60]; omega)
    have e3 : t.data.toList.take (19 + n) ++ List.replicate (41 - n) 0 = t.data.toList.take (19 + n) ++ t.data.toList.drop (19 + n) := by rw [e2, List.take_append_drop]
    exact (List.append_cancel_left e3).symm
  · intro e
    apply Pg.eq_of_list
    rw [hhead, hb, ← e, List.take_append_drop]
/-- what Head answers of a head whose magic is right -/
theorem headE_taken {b t : ByteArray} (h : b.size = 64) (ho : Crc.opens b.data.toList = true) (ht : Crc.headB b = t) (hf : t.extract 0 4 = magicB) :
    headE b = if (decide (numT t 2 ≤ 41) && zeroFrom t (19 + numT t 2) && placesB (numT t 1 : Nat) (numT t 2) (partT t)) = true then 0 else 1 := by
  have hf' : (Crc.headB b).extract 0 4 = magicB := by rw [ht]; exact hf
  by_cases hm : 40 < numT t 2
  · rw [headE_many h ho hf' (by rw [ht]; exact hm)]
    have hfew : fewB (numT t 1 : Nat) (numT t 2) = false := by
      cases e : fewB (numT t 1 : Nat) (numT t 2) with
      | false => rfl
      | true => have := (few_iff _ _).1 e; omega
    rw [places_few hfew, Bool.and_false]
    rfl
  · have hr := headE_rest h ho hf' (by rw [ht]; exact hm)
    rw [ht] at hr
    rw [hr, head_again h ho ht hf (by omega), decide_eq_true (by omega : numT t 2 ≤ 41), Bool.true_and, Bool.and_comm]
    cases (zeroFrom t (19 + numT t 2) && placesB (numT t 1 : Nat) (numT t 2) (partT t)) <;> rfl
end Rc
end Go.Proofs.YtjmeiifogblmoaaGreatDoor
