/- What a page is, and what stands in its sector: plain. -/
import Derived.Test.YtmikllmpinciiaaDoorPackMath
import Derived.Test.YtmikllmpinciiaaDoorCrcMath
namespace Go.Proofs.YtmikllmpinciiaaDoor

/-- a page: when, and which regions -/
structure Pge where
  ev : Nat
  bits : ByteArray
  deriving DecidableEq

namespace Pg
def magicB : ByteArray := ⟨#[82, 86, 84, 66]⟩
def none : Pge := ⟨0, ⟨#[]⟩⟩
/-- what is sealed -/
def bodyB (p : Pge) : ByteArray := magicB ++ Pk.encS [p.ev] [8] ++ p.bits
/-- its sector -/
def secT (p : Pge) : ByteArray := Crc.sealB (bodyB p) 64
def encE (p : Pge) : Nat := if p.bits.size = 8 then 0 else 1
def encT (p : Pge) : ByteArray := if p.bits.size = 8 then secT p else ⟨#[]⟩
/-- all behind the bits is nought -/
def restB (t : ByteArray) : Bool := (t.data.toList.drop 20).all (fun x => x == 0)
/-- what the bytes of a sector tell -/
def told (b : ByteArray) : Pge := ⟨(Pk.dec ((Crc.headB b).extract 4 12).data.toList [8]).getD 0 0, (Crc.headB b).extract 12 20⟩
def decE (b : ByteArray) : Nat := if b.size ≠ 64 then 31 else bif Crc.opens b.data.toList then (if (Crc.headB b).extract 0 4 ≠ magicB then 81 else bif restB (Crc.headB b) then 0 else 1) else 80
def decS (b : ByteArray) : Pge := if decE b = 0 then told b else none

theorem w8_ok : Pk.okW [8] = true := by decide
theorem w8_offs : Pk.offs [8] 1 = 8 := by decide
theorem fit8 {n : Nat} (h : n < 18446744073709551616) : Pk.fitAll [n] [8] = true := by
  rw [Pk.fitAll_iff]
  intro j hj
  rw [Pk.fits_iff]
  have : j = 0 := by have : j < 1 := hj; omega
  subst this
  exact ⟨by decide, h⟩
theorem enc8_size {n : Nat} (h : n < 18446744073709551616) : (Pk.encS [n] [8]).size = 8 := (Pk.encS_size w8_ok rfl (fit8 h)).trans w8_offs
theorem enc8_E {n : Nat} (h : n < 18446744073709551616) : Pk.encE [n] [8] = 0 := Pk.encE_yes w8_ok rfl (fit8 h)
theorem enc8_list (n : Nat) : (Pk.encS [n] [8]).data.toList = Pk.enc [n] [8] := by simp [Pk.encS]
theorem enc8_length {n : Nat} (h : n < 18446744073709551616) : (Pk.enc [n] [8]).length = 8 := by
  have := enc8_size h
  rw [← enc8_list]; simpa using this
theorem body_size {p : Pge} (h : p.ev < 18446744073709551616) (hb : p.bits.size = 8) : (bodyB p).size = 20 := by
  unfold bodyB
  rw [ByteArray.size_append, ByteArray.size_append, enc8_size h, hb]; rfl
theorem body_list (p : Pge) : (bodyB p).data.toList = [82, 86, 84, 66] ++ Pk.enc [p.ev] [8] ++ p.bits.data.toList := by
  unfold bodyB magicB
  rw [ByteArray.data_append, ByteArray.data_append, Array.toList_append, Array.toList_append, enc8_list]
theorem secT_list (p : Pge) : (secT p).data.toList = Crc.sealL (bodyB p).data.toList 64 := by simp [secT, Crc.sealB]
theorem list_size (b : ByteArray) : b.data.toList.length = b.size := by simp
theorem secT_size {p : Pge} (h : p.ev < 18446744073709551616) (hb : p.bits.size = 8) : (secT p).size = 64 := by
  rw [← list_size, secT_list]; exact Crc.sealL_length _ 64 (by decide) (by rw [list_size, body_size h hb]; decide)
theorem secT_opens {p : Pge} (h : p.ev < 18446744073709551616) (hb : p.bits.size = 8) : Crc.opens (secT p).data.toList = true := by
  rw [secT_list]; exact Crc.opens_seal _ 64 (by decide) (by rw [list_size, body_size h hb]; decide)
/-- a part of a text -/
theorem extract_list (b : ByteArray) (i j : Nat) : (b.extract i j).data.toList = (b.data.toList.drop i).take (j - i) := by
  rw [ByteArray.data_extract, Array.toList_extract, List.extract_eq_take_drop]
theorem eq_of_list {a b : ByteArray} (h : a.data.toList = b.data.toList) : a = b := by
  apply ByteArray.ext
  exact Array.toList_inj.1 h
theorem secT_head {p : Pge} (h : p.ev < 18446744073709551616) (hb : p.bits.size = 8) : (Crc.headB (secT p)).data.toList = [82, 86, 84, 66] ++ Pk.enc [p.ev] [8] ++ p.bits.data.toList ++ List.replicate 40 0 := by
  have hs := body_size h hb
  unfold secT
  rw [Crc.headB_seal _ 64 (by decide) (by rw [hs]; decide)]
  show Crc.padL (bodyB p).data.toList 60 = _
  unfold Crc.padL
  rw [list_size, hs, body_list]
theorem told_secT {p : Pge} (h : p.ev < 18446744073709551616) (hb : p.bits.size = 8) : told (secT p) = p := by
  have hl := enc8_length h
  have hp : p.bits.data.toList.length = 8 := by rw [list_size]; exact hb
  have e1 : ((Crc.headB (secT p)).extract 4 12).data.toList = Pk.enc [p.ev] [8] := by
    rw [extract_list, secT_head h hb, List.append_assoc, List.append_assoc, List.drop_append_of_le_length (by decide)]
    show (([] : List UInt8) ++ _).take 8 = _
    rw [List.nil_append, List.take_append_of_le_length (by omega), List.take_of_length_le (by omega)]
  have e2 : (Crc.headB (secT p)).extract 12 20 = p.bits := by
    apply eq_of_list
    have h12 : ([82, 86, 84, 66] ++ Pk.enc [p.ev] [8] : List UInt8).length = 12 := by rw [List.length_append, hl]; rfl
    rw [extract_list, secT_head h hb, List.append_assoc ([82, 86, 84, 66] ++ Pk.enc [p.ev] [8]), List.drop_append_of_le_length (by omega), List.drop_of_length_le (by omega), List.nil_append, List.take_append_of_le_length (by omega), List.take_of_length_le (by omega)]
  unfold told
  rw [e1, e2, Pk.dec_enc w8_ok rfl (fit8 h)]
  rfl
theorem decE_secT {p : Pge} (h : p.ev < 18446744073709551616) (hb : p.bits.size = 8) : decE (secT p) = 0 := by
  have hl := enc8_length h
  have hp : p.bits.data.toList.length = 8 := by rw [list_size]; exact hb
  unfold decE
  rw [if_neg (by rw [secT_size h hb]; decide), secT_opens h hb, cond_true, if_neg, show restB (Crc.headB (secT p)) = true from ?_]
  · rfl
  · unfold restB
    have h20 : ([82, 86, 84, 66] ++ Pk.enc [p.ev] [8] ++ p.bits.data.toList : List UInt8).length = 20 := by rw [List.length_append, List.length_append, hl, hp]; rfl
    rw [secT_head h hb, List.drop_append_of_le_length (by omega), List.drop_of_length_le (by omega), List.nil_append]
    decide
  · intro hne
    apply hne
    apply eq_of_list
    rw [extract_list, secT_head h hb]
    rfl
theorem decS_secT {p : Pge} (h : p.ev < 18446744073709551616) (hb : p.bits.size = 8) : decS (secT p) = p := by unfold decS; rw [if_pos (decE_secT h hb), told_secT h hb]
theorem secT_inj {p q : Pge} (h : p.ev < 18446744073709551616) (hb : p.bits.size = 8) (h' : q.ev < 18446744073709551616) (hb' : q.bits.size = 8) (e : secT p = secT q) : p = q := by
  rw [← told_secT h hb, e, told_secT h' hb']
theorem dec8_lt (s : List UInt8) : (Pk.dec s [8]).getD 0 0 < 18446744073709551616 := Pk.dec_lt s [8] 0
theorem told_ev (b : ByteArray) : (told b).ev = (Pk.dec ((Crc.headB b).extract 4 12).data.toList [8]).getD 0 0 := by simp only [told]
theorem told_lt (b : ByteArray) : (told b).ev < 18446744073709551616 := by rw [told_ev]; exact dec8_lt _
theorem decS_lt (b : ByteArray) : (decS b).ev < 18446744073709551616 := by
  unfold decS; split
  · exact told_lt b
  · show 0 < 18446744073709551616
    omega
theorem head_size {b : ByteArray} (h : b.size = 64) : (Crc.headB b).size = 60 := by unfold Crc.headB; rw [h]; simp; omega
theorem decS_size {b : ByteArray} (h : decE b = 0) : (decS b).bits.size = 8 := by
  have hs : b.size = 64 := by
    refine Decidable.byContradiction fun hn => ?_
    unfold decE at h; rw [if_pos hn] at h; cases h
  unfold decS; rw [if_pos h]
  show ((Crc.headB b).extract 12 20).size = 8
  rw [ByteArray.size_extract, head_size hs]; rfl
theorem decE_short {b : ByteArray} (h : b.size ≠ 64) : decE b = 31 := if_pos h
theorem decE_sum {b : ByteArray} (h : b.size = 64) (ho : Crc.opens b.data.toList = false) : decE b = 80 := by unfold decE; rw [if_neg (fun x => x h), ho]; rfl
theorem decE_magic {b : ByteArray} (h : b.size = 64) (ho : Crc.opens b.data.toList = true) (hf : (Crc.headB b).extract 0 4 ≠ magicB) : decE b = 81 := by unfold decE; rw [if_neg (fun x => x h), ho, cond_true, if_pos hf]
theorem decE_arg {b : ByteArray} (h : b.size = 64) (ho : Crc.opens b.data.toList = true) (hf : (Crc.headB b).extract 0 4 = magicB) (hr : restB (Crc.headB b) = false) : decE b = 1 := by unfold decE; rw [if_neg (fun x => x h), ho, cond_true, if_neg (fun x => x hf), hr]; rfl
theorem decE_good {b : ByteArray} (h : b.size = 64) (ho : Crc.opens b.data.toList = true) (hf : (Crc.headB b).extract 0 4 = magicB) (hr : restB (Crc.headB b) = true) : decE b = 0 := by unfold decE; rw [if_neg (fun x => x h), ho, cond_true, if_neg (fun x => x hf), hr]; rfl
theorem decS_bad {b : ByteArray} {n : Nat} (h : decE b = n) (hn : n ≠ 0) : decS b = none := by unfold decS; rw [if_neg (by rw [h]; exact hn)]
theorem decS_good {b : ByteArray} (h : decE b = 0) : decS b = told b := by unfold decS; rw [if_pos h]
/-- two texts compared by their bytes -/
theorem tx_eq (a b : ByteArray) : (a.toList == b.toList) = decide (a = b) := by
  rw [Bool.eq_iff_iff, beq_iff_eq, decide_eq_true_iff, ByteArray.toList_eq, ByteArray.toList_eq]
  exact ⟨fun e => eq_of_list e, fun e => by rw [e]⟩
/-- a text's byte, nought past its end -/
def byt11 (s : ByteArray) (j : Nat) : UInt8 := s.data.toList.getD j 0
theorem byt11_at (s : ByteArray) (j : Nat) (h : j < s.size) : s[j]'h = byt11 s j := by
  have hl : j < s.data.toList.length := by rw [list_size]; exact h
  unfold byt11
  rw [List.getD_eq_getElem?_getD, List.getElem?_eq_getElem hl]
  rfl
theorem rest_iff {t : ByteArray} (h : t.size = 60) : restB t = true ↔ ∀ j, j < 40 → byt11 t (20 + j) = 0 := by
  have hl : t.data.toList.length = 60 := by rw [list_size]; exact h
  unfold restB byt11
  rw [List.all_eq_true]
  constructor
  · intro ha j hj
    have hx : t.data.toList[20 + j]'(by omega) ∈ t.data.toList.drop 20 := by
      rw [List.mem_iff_getElem?]
      exact ⟨j, by rw [List.getElem?_drop, List.getElem?_eq_getElem (by omega)]⟩
    have := ha _ hx
    rw [List.getD_eq_getElem?_getD, List.getElem?_eq_getElem (by omega)]
    simpa using this
  · intro ha x hx
    obtain ⟨j, hj⟩ := List.mem_iff_getElem?.1 hx
    rw [List.getElem?_drop] at hj
    have hlt : 20 + j < t.data.toList.length := (List.getElem?_eq_some_iff.1 hj).1
    have := ha j (by omega)
    rw [List.getD_eq_getElem?_getD, hj] at this
    simpa using this
theorem magic_list : magicB.toList = [82, 86, 84, 66] := by rw [ByteArray.toList_eq]; rfl
end Pg
end Go.Proofs.YtmikllmpinciiaaDoor
