/- A text of which one byte is another one: a head of a record so is none; a load so has another sum. -/
import Derived.Test.YtmikllmpinciiaaDoorRecKnown
namespace Go.Proofs.YtmikllmpinciiaaDoor
open Go.RowKit

namespace Rc
theorem four_inj {a b : Nat} (ha : a < 4294967296) (hb : b < 4294967296) (h : Crc.fourL a = Crc.fourL b) : a = b := by
  have q : ∀ x y : Nat, x < 256 → y < 256 → UInt8.ofNat x = UInt8.ofNat y → x = y := fun x y hx hy e => by
    have := congrArg UInt8.toNat e
    rw [UInt8.toNat_ofNat', UInt8.toNat_ofNat'] at this
    omega
  simp only [Crc.fourL, List.cons.injEq, and_true] at h
  obtain ⟨h0, h1, h2, h3⟩ := h
  have e0 := q _ _ (by omega) (by omega) h0
  have e1 := q _ _ (by omega) (by omega) h1
  have e2 := q _ _ (by omega) (by omega) h2
  have e3 := q _ _ (by omega) (by omega) h3
  omega
/-- a sector of which one byte is another one does not open -/
theorem flip_shut (a b : List UInt8) {c d : UInt8} (h : c ≠ d) (hl : (a ++ c :: b).length = 64) (ho : Crc.opens (a ++ c :: b) = true) : Crc.opens (a ++ d :: b) = false := by
  have hd : (a ++ d :: b).length = 64 := by rw [← hl]; simp
  cases ho2 : Crc.opens (a ++ d :: b) with
  | false => rfl
  | true =>
    exfalso
    unfold Crc.opens at ho ho2
    rw [hl, Bool.and_eq_true, beq_iff_eq] at ho
    rw [hd, Bool.and_eq_true, beq_iff_eq] at ho2
    have e1 := ho.2
    have e2 := ho2.2
    rw [show 64 - 4 = 60 from rfl] at e1 e2
    by_cases hk : a.length < 60
    · obtain ⟨n, hn⟩ : ∃ n, 60 - a.length = n + 1 := ⟨59 - a.length, by omega⟩
      have t1 : ∀ z : UInt8, (a ++ z :: b).take 60 = a ++ z :: b.take n := fun z => by rw [List.take_append, List.take_of_length_le (by omega), hn, List.take_succ_cons]
      have t2 : ∀ z : UInt8, (a ++ z :: b).drop 60 = b.drop n := fun z => by rw [List.drop_append, List.drop_eq_nil_of_le (by omega), hn, List.drop_succ_cons, List.nil_append]
      rw [t1, t2] at e1 e2
      exact Crc.more_one (n := 0) a (b.take n) h (four_inj (Crc.more_lt _ _) (Crc.more_lt _ _) (e1.symm.trans e2))
    · have t1 : ∀ z : UInt8, (a ++ z :: b).take 60 = a.take 60 := fun z => by rw [List.take_append_of_le_length (by omega)]
      have t2 : ∀ z : UInt8, (a ++ z :: b).drop 60 = a.drop 60 ++ z :: b := fun z => by rw [List.drop_append_of_le_length (by omega)]
      rw [t1, t2] at e1 e2
      have := e1.trans e2.symm
      exact h (List.cons.inj (List.append_cancel_left this)).1
/-- s with another byte at i -/
structure Flip (s t : ByteArray) (i : Nat) : Prop where
  size : t.size = 64
  bytes : ∃ (a b : List UInt8) (c d : UInt8), c ≠ d ∧ s.data.toList = a ++ c :: b ∧ t.data.toList = a ++ d :: b
theorem Flip.shut {s t : ByteArray} {i : Nat} (h : Flip s t i) (hs : s.size = 64) (ho : Crc.opens s.data.toList = true) : headE t = 80 := by
  obtain ⟨a, b, c, d, hne, h1, h2⟩ := h.bytes
  refine headE_sum h.size ?_
  rw [h2]
  exact flip_shut a b hne (by rw [← h1, Pg.list_size, hs]) (by rw [← h1]; exact ho)
/-- all behind one another, with a piece of its own -/
theorem cat_split {f g : Nat → Prt} : ∀ {n k : Nat}, k < n → (∀ j, j < n → j ≠ k → (f j).data = (g j).data) → ∃ X Y : List UInt8, (catTo f n).data.toList = X ++ ((f k).data.data.toList ++ Y) ∧ (catTo g n).data.toList = X ++ ((g k).data.data.toList ++ Y)
  | 0, _, h, _ => absurd h (Nat.not_lt_zero _)
  | n + 1, k, hk, h => by
    by_cases e : k = n
    · subst e
      refine ⟨(catTo f k).data.toList, [], ?_, ?_⟩
      · rw [show catTo f (k + 1) = catTo f k ++ (f k).data from rfl, ByteArray.data_append, Array.toList_append, List.append_nil]
      · rw [show catTo g (k + 1) = catTo g k ++ (g k).data from rfl, ByteArray.data_append, Array.toList_append, List.append_nil, catTo_congr (fun j hj => h j (by omega) (by omega))]
    · obtain ⟨X, Y, h1, h2⟩ := cat_split (show k < n by omega) (fun j hj hne => h j (by omega) hne)
      refine ⟨X, Y ++ (f n).data.data.toList, ?_, ?_⟩
      · rw [show catTo f (n + 1) = catTo f n ++ (f n).data from rfl, ByteArray.data_append, Array.toList_append, h1]; simp [List.append_assoc]
      · rw [show catTo g (n + 1) = catTo g n ++ (g n).data from rfl, ByteArray.data_append, Array.toList_append, h2, h n (by omega) (fun x => e x.symm)]; simp [List.append_assoc]
theorem sum_flip {f g : Nat → Prt} {n k i : Nat} (hk : k < n) (h : ∀ j, j < n → j ≠ k → (f j).data = (g j).data) (hf : Flip (f k).data (g k).data i) : sumF n f ≠ sumF n g := by
  obtain ⟨X, Y, h1, h2⟩ := cat_split hk h
  obtain ⟨a, b, c, d, hne, e1, e2⟩ := hf.bytes
  unfold sumF
  rw [h1, h2, e1, e2]
  have := Crc.more_one (n := 0) (X ++ a) (b ++ Y) hne
  simpa [List.append_assoc] using this
/-- a load of which one text is another one -/
theorem dec_flip {seq : Nat} {row : Int} {n k i : Nat} {f : Nat → Prt} {t : ByteArray} (h0 : seq < 18446744073709551616) (h : mayB row n f = true) (hk : k < n) (hf : Flip (f k).data t i) :
    decE (headS seq row n f (sumF n f)) n (fun j => if j = k then t else (f j).data) = 80 := by
  obtain ⟨e0, _, _, e3, e4, hp⟩ := back_head h0 h
  have hfu := (fullTo_iff _ _).1 ((may_iff _ _ _).1 h).1
  refine decE_sum e0 e3.symm ((fullTo_iff _ _).2 fun j hj => ?_) ?_
  · show (if j = k then t else (f j).data).size = 64
    split
    · exact hf.size
    · exact hfu j hj
  · rw [e4]
    refine fun e => sum_flip (i := i) (f := f) (g := dPart (headS seq row n f (sumF n f)) (fun j => if j = k then t else (f j).data)) hk (fun j _ hne => ?_) ?_ e.symm
    · show _ = if j = k then t else (f j).data
      rw [if_neg hne]
    · show Flip (f k).data (if k = k then t else (f k).data) i
      rw [if_pos rfl]; exact hf
end Rc

/-- s[:i] + string([]byte{s[i] ^ by}) + s[i+1:] -/
theorem flip12 (s : ByteArray) (hs : s.size = 64) (i by_ : Nat) (hi : i < 64) (hb : by_ < 256) (h0 : by_ ≠ 0) (hil : i < s.size) :
    ∃ (c : UInt8) (t : ByteArray), c.toNat = s[i].toNat ^^^ by_ ∧ s.extract 0 i ++ ⟨#[c]⟩ ++ s.extract (i + 1) 64 = t ∧ Rc.Flip s t i ∧ s[i].toNat ^^^ by_ < 256 := by
  have hxl := Nat.xor_lt_two_pow (n := 8) s[i].toNat_lt hb
  obtain ⟨c, hc⟩ : ∃ c : UInt8, c.toNat = s[i].toNat ^^^ by_ := ⟨UInt8.ofNat (s[i].toNat ^^^ by_), by rw [UInt8.toNat_ofNat']; omega⟩
  have hcne : s[i] ≠ c := by
    intro e'
    rw [← e'] at hc
    refine h0 ?_
    have : s[i].toNat ^^^ (s[i].toNat ^^^ by_) = 0 := by rw [← hc, Nat.xor_self]
    rwa [← Nat.xor_assoc, Nat.xor_self, Nat.zero_xor] at this
  have hil' : i < s.data.toList.length := by simpa using hil
  have ls : s.data.toList = s.data.toList.take i ++ s[i] :: s.data.toList.drop (i + 1) := by
    conv => lhs; rw [← List.take_append_drop i s.data.toList, List.drop_eq_getElem_cons hil']
    rfl
  refine ⟨c, _, hc, rfl, ?_, by omega⟩
  have hzl : s.data.toList.length = 64 := by simpa using hs
  have lt : (s.extract 0 i ++ ⟨#[c]⟩ ++ s.extract (i + 1) 64).data.toList = s.data.toList.take i ++ c :: s.data.toList.drop (i + 1) := by
    rw [← hs]
    simp [List.extract_eq_take_drop]
    exact List.take_of_length_le (by simp)
  refine ⟨?_, s.data.toList.take i, s.data.toList.drop (i + 1), s[i], c, hcne, ls, lt⟩
  rw [← Pg.list_size, lt]
  simp only [List.length_append, List.length_take, List.length_cons, List.length_drop, hzl]
  omega
end Go.Proofs.YtmikllmpinciiaaDoor
