/- Several texts in one. What a journal holds, and what its calls make of its drive: plain. The journal of the statements: records 1 to i, of which t are trimmed: plain. -/
import Derived.Test.YtjmeiifogblmoaaGreatDoorMDrvE
import Derived.Test.YtjmeiifogblmoaaGreatDoorMRecA
namespace Go.Proofs.YtjmeiifogblmoaaGreatDoor

namespace Ri
open Dr
def magicB : ByteArray := ⟨#[82, 86, 84, 77]⟩
/-- the mark of a number -/
def markB (m : Nat) : ByteArray := Crc.sealB (magicB ++ Pk.encS [m] [8]) 64
/-- slots of so many sectors -/
def slots (n : Nat) : Nat := (n - 4) / 41
/-- where the record m stands -/
def first (n m : Nat) : Nat := 4 + 41 * (m % slots n)
def top : Nat := 18446744073709551616
/-- the number k behind t -/
def nth (t k : Nat) : Nat := (t + k) % top
def headAt (D : Dr) (m : Nat) : ByteArray := txt (D.readS (first D.safe.length m : Nat))
def dataAt (D : Dr) (m j : Nat) : ByteArray := txt (D.readS ((first D.safe.length m + 1 + j : Nat) : Int))
/-- the first k data of the record can be read -/
def gotTo (D : Dr) (m : Nat) : Nat → Bool
  | 0 => true
  | k + 1 => gotTo D m k && decide (D.readE ((first D.safe.length m + 1 + k : Nat) : Int) = 0)
/-- there is a record of the number -/
def isRec (D : Dr) (m : Nat) : Bool :=
  decide (D.readE (first D.safe.length m : Nat) = 0) && (decide (Rc.headE (headAt D m) = 0) && (decide (Rc.hSeq (headAt D m) = m) && (gotTo D m (Rc.hN (headAt D m)) && decide (Rc.decE (headAt D m) (Rc.hN (headAt D m)) (dataAt D m) = 0))))
/-- how many there are behind t, of q -/
def cnt (D : Dr) (t : Nat) : Nat → Nat
  | 0 => 0
  | q + 1 => if cnt D t q = q ∧ isRec D (nth t (q + 1)) = true then q + 1 else cnt D t q
def markAt (D : Dr) : ByteArray := txt (D.readS (3 : Nat))
def told (b : ByteArray) : Nat := (Pk.dec ((Crc.headB b).extract 4 12).data.toList [8]).getD 0 0
def isMark (b : ByteArray) : Bool := Crc.opens b.data.toList && decide (b = markB (told b))
/-- what Open answers -/
def openE (D : Dr) : Nat := if D.readE (3 : Nat) = 0 then (if isMark (markAt D) = true ∧ 0 < slots D.safe.length then 0 else 200) else D.readE (3 : Nat)
def openT (D : Dr) : Nat := told (markAt D)
def openC (D : Dr) : Nat := cnt D (openT D) (slots D.safe.length)
/-- what Format does -/
def formatS (D : Dr) : Nat × Dr := if slots D.safe.length = 0 then (1, D) else fl1 (wr1 (wrTo (0, D) (fun i => 4 + 41 * i) (fun _ => List.replicate 64 0) (slots D.safe.length)) 3 (markB 0).data.toList)
/-- what is put of a record -/
def putS (D : Dr) (m : Nat) (row : Int) (n : Nat) (f : Nat → Prt) : Nat × Dr :=
  fl1 (wr1 (fl1 (wrTo (0, D) (fun j => first D.safe.length m + 1 + j) (fun j => (f j).data.data.toList) n)) (first D.safe.length m) (Rc.headS m row n f (Rc.sumF n f)).data.toList)
/-- what Append does, with c records behind t -/
def appS (D : Dr) (t c : Nat) (row : Int) (n : Nat) (f : Nat → Prt) : Nat × Dr :=
  if slots D.safe.length ≤ c then (130, D) else if Rc.mayB row n f = true then putS D (nth t (c + 1)) row n f else (1, D)
/-- how far behind t a number is -/
def ahead (t q : Nat) : Nat := (q + top - t) % top
/-- what Trim does -/
def trimS (D : Dr) (t c q : Nat) : Nat × Dr := if ahead t q ≤ c then fl1 (wr1 (0, D) 3 (markB q).data.toList) else (1, D)

theorem nth_lt (t k : Nat) : nth t k < top := Nat.mod_lt _ (by decide)
theorem cnt_le (D : Dr) (t : Nat) : ∀ q, cnt D t q ≤ q
  | 0 => Nat.le_refl _
  | q + 1 => by
    unfold cnt
    split
    · exact Nat.le_refl _
    · have := cnt_le D t q; omega
theorem cnt_mono (D : Dr) (t : Nat) : ∀ {q r}, cnt D t q < q → q ≤ r → cnt D t r = cnt D t q
  | q, 0, _, h => by have : q = 0 := by omega
                     rw [this]
  | q, r + 1, h1, h => by
    by_cases e : q = r + 1
    · rw [e]
    · have ih := cnt_mono D t h1 (r := r) (by omega)
      have : cnt D t (r + 1) = if cnt D t r = r ∧ isRec D (nth t (r + 1)) = true then r + 1 else cnt D t r := rfl
      rw [this, if_neg (fun hh => by have := hh.1; omega), ih]
/-- the first k are records -/
theorem cnt_all {D : Dr} {t : Nat} : ∀ {k}, (∀ j, j < k → isRec D (nth t (j + 1)) = true) → cnt D t k = k
  | 0, _ => rfl
  | k + 1, h => by
    unfold cnt
    rw [if_pos ⟨cnt_all (fun j hj => h j (by omega)), h k (by omega)⟩]
/-- the first k are, the next one is not, or there is no room for more -/
theorem cnt_is {D : Dr} {t k q : Nat} (h : ∀ j, j < k → isRec D (nth t (j + 1)) = true) (hk : k ≤ q) (hn : k < q → isRec D (nth t (k + 1)) = false) : cnt D t q = k := by
  have h1 := cnt_all h
  by_cases e : k = q
  · rw [← e]; exact h1
  · have h2 : cnt D t (k + 1) = k := by
      show (if cnt D t k = k ∧ isRec D (nth t (k + 1)) = true then k + 1 else cnt D t k) = k
      rw [if_neg (fun hh => by rw [hn (by omega)] at hh; cases hh.2)]
      exact h1
    rw [cnt_mono D t (by omega) (show k + 1 ≤ q by omega), h2]
theorem gotTo_iff (D : Dr) (m : Nat) : ∀ k, gotTo D m k = true ↔ ∀ j, j < k → D.readE ((first D.safe.length m + 1 + j : Nat) : Int) = 0
  | 0 => ⟨fun _ _ h => absurd h (Nat.not_lt_zero _), fun _ => rfl⟩
  | k + 1 => by
    unfold gotTo
    rw [Bool.and_eq_true, gotTo_iff D m k, decide_eq_true_iff]
    constructor
    · rintro ⟨h1, h2⟩ i hi
      by_cases e : i = k
      · subst e; exact h2
      · exact h1 i (by omega)
    · intro h; exact ⟨fun i hi => h i (by omega), h k (by omega)⟩
theorem isRec_iff (D : Dr) (m : Nat) : isRec D m = true ↔ D.readE (first D.safe.length m : Nat) = 0 ∧ Rc.headE (headAt D m) = 0 ∧ Rc.hSeq (headAt D m) = m ∧ gotTo D m (Rc.hN (headAt D m)) = true ∧ Rc.decE (headAt D m) (Rc.hN (headAt D m)) (dataAt D m) = 0 := by
  unfold isRec
  simp only [Bool.and_eq_true, decide_eq_true_eq]
theorem isRec_not {D : Dr} {m : Nat} (h : ¬ (D.readE (first D.safe.length m : Nat) = 0 ∧ Rc.headE (headAt D m) = 0 ∧ Rc.hSeq (headAt D m) = m)) : isRec D m = false := by
  cases e : isRec D m with
  | false => rfl
  | true => exact absurd ((isRec_iff D m).1 e) (fun x => h ⟨x.1, x.2.1, x.2.2.1⟩)
end Ri
end Go.Proofs.YtjmeiifogblmoaaGreatDoor

namespace Go.Proofs.YtjmeiifogblmoaaGreatDoor

namespace Ri
open Dr
theorem slots_of (N : Nat) : slots (4 + 41 * N) = N := by unfold slots; omega
theorem first_of (N m : Nat) : first (4 + 41 * N) m = 4 + 41 * (m % N) := by unfold first; rw [slots_of]
theorem first_lt {N : Nat} (h : 1 ≤ N) (m : Nat) {j : Nat} (hj : j < 41) : first (4 + 41 * N) m + j < 4 + 41 * N := by
  rw [first_of]
  have := Nat.mod_lt m (show 0 < N by omega)
  omega
/-- slots are apart from one another -/
theorem first_apart {N m q j k : Nat} (h : m % N ≠ q % N) (hj : j < 41) (hk : k < 41) : first (4 + 41 * N) m + j ≠ first (4 + 41 * N) q + k := by
  rw [first_of, first_of]
  omega
theorem first_three {N : Nat} (m j : Nat) : first (4 + 41 * N) m + j ≠ 3 := by rw [first_of]; omega
/-- numbers less than N apart stand in slots of their own -/
theorem mod_apart {N m q : Nat} (h1 : m < q) (h2 : q < m + N) : m % N ≠ q % N := fun e => by
  have := Nat.sub_mod_eq_zero_of_mod_eq e.symm
  have h3 : (q - m) % N = q - m := Nat.mod_eq_of_lt (by omega)
  omega
theorem mark_size {m : Nat} (h : m < 18446744073709551616) : (magicB ++ Pk.encS [m] [8]).size = 12 := by
  rw [ByteArray.size_append, Pg.enc8_size h]; rfl
theorem markB_list (m : Nat) : (markB m).data.toList = Crc.sealL (magicB ++ Pk.encS [m] [8]).data.toList 64 := by simp [markB, Crc.sealB]
theorem markB_length {m : Nat} (h : m < 18446744073709551616) : (markB m).data.toList.length = 64 := by
  rw [markB_list]
  exact Crc.sealL_length _ 64 (by decide) (by rw [Pg.list_size, mark_size h]; decide)
theorem markB_size {m : Nat} (h : m < 18446744073709551616) : (markB m).size = 64 := by rw [← Pg.list_size]; exact markB_length h
theorem markB_opens {m : Nat} (h : m < 18446744073709551616) : Crc.opens (markB m).data.toList = true := by
  rw [markB_list]
  exact Crc.opens_seal _ 64 (by decide) (by rw [Pg.list_size, mark_size h]; decide)
theorem told_mark {m : Nat} (h : m < 18446744073709551616) : told (markB m) = m := by
  have hh : (Crc.headB (markB m)).extract 4 12 = Pk.encS [m] [8] := by
    apply Pg.eq_of_list
    rw [Pg.extract_list]
    unfold markB
    rw [Crc.headB_seal _ 64 (by decide) (by rw [mark_size h]; decide)]
    show ((Crc.padL (magicB ++ Pk.encS [m] [8]).data.toList 60).drop 4).take 8 = _
    unfold Crc.padL
    rw [ByteArray.data_append, Array.toList_append, Pg.enc8_list, List.append_assoc]
    show (Pk.enc [m] [8] ++ _).take 8 = _
    rw [List.take_append_of_le_length (by rw [Pg.enc8_length h]; decide), List.take_of_length_le (by rw [Pg.enc8_length h]; decide)]
  unfold told
  rw [hh, Pg.enc8_list, Pk.dec_enc Pg.w8_ok rfl (Pg.fit8 h)]
  rfl
theorem isMark_yes {m : Nat} (h : m < 18446744073709551616) : isMark (markB m) = true := by
  unfold isMark
  rw [markB_opens h, told_mark h, decide_eq_true rfl]; rfl
theorem blank_head : Rc.headE (txt (List.replicate 64 0)) ≠ 0 := by
  rw [Rc.headE_sum (b := txt (List.replicate 64 0)) (by simp [txt_size]) (by decide +kernel)]
  decide

/-- a record of the statements -/
structure Rcd where
  row : Int
  n : Nat
  f : Nat → Prt
def Rcd.may (r : Rcd) : Prop := Rc.mayB r.row r.n r.f = true
def Rcd.head (r : Rcd) (m : Nat) : ByteArray := Rc.headS m r.row r.n r.f (Rc.sumF r.n r.f)
theorem Rcd.may_n {r : Rcd} (h : r.may) : 1 ≤ r.n ∧ r.n ≤ 40 := by
  obtain ⟨_, _, a, b⟩ := (Rc.few_iff _ _).1 ((Rc.places_iff _ _ _).1 ((Rc.may_iff _ _ _).1 h).2).1
  exact ⟨a, b⟩
theorem Rcd.may_data {r : Rcd} (h : r.may) {j : Nat} (hj : j < r.n) : (r.f j).data.size = 64 := (Rc.fullTo_iff _ _).1 ((Rc.may_iff _ _ _).1 h).1 j hj
/-- the drive behind a record was put -/
def wrote (D : Dr) (m : Nat) (r : Rcd) : Dr := ((D.puts (fun j => first D.safe.length m + 1 + j) (fun j => (r.f j).data.data.toList) r.n).calmed.put (first D.safe.length m) (r.head m).data.toList).calmed
section
variable {D : Dr} {N : Nat}
theorem loaded_all (hc : D.Calm (4 + 41 * N)) (hN : 1 ≤ N) (m : Nat) {r : Rcd} (hr : r.may) :
    wrTo (0, D) (fun j => first D.safe.length m + 1 + j) (fun j => (r.f j).data.data.toList) r.n = (0, D.puts (fun j => first D.safe.length m + 1 + j) (fun j => (r.f j).data.data.toList) r.n) ∧
    (D.puts (fun j => first D.safe.length m + 1 + j) (fun j => (r.f j).data.data.toList) r.n).calmed.Calm (4 + 41 * N) ∧
    (∀ j, j < r.n → (D.puts (fun j => first D.safe.length m + 1 + j) (fun j => (r.f j).data.data.toList) r.n).calmed.last (first (4 + 41 * N) m + 1 + j) = (r.f j).data.data.toList) ∧
    ∀ x, x < 4 + 41 * N → (∀ j, j < r.n → x ≠ first (4 + 41 * N) m + 1 + j) → (D.puts (fun j => first D.safe.length m + 1 + j) (fun j => (r.f j).data.data.toList) r.n).calmed.last x = D.last x := by
  have hn := (Rcd.may_n hr).2
  have hl := hc.live.len
  have hp : ∀ j, j < r.n → (fun j => first D.safe.length m + 1 + j) j < 4 + 41 * N := fun j hj => by
    show first D.safe.length m + 1 + j < _
    rw [hl]
    have := first_lt hN m (j := 1 + j) (by omega)
    omega
  have hlv := hc.live.puts (fun j => first D.safe.length m + 1 + j) (fun j => (r.f j).data.data.toList) r.n
  have hsp := puts_spoilt hc.spoilt (fun j => first D.safe.length m + 1 + j) (fun j => (r.f j).data.data.toList) r.n
  refine ⟨wrTo_live hc.live _ hp, hlv.calmed hsp, fun j hj => ?_, fun x hx hne => ?_⟩
  · have h1 := hp j hj
    have := puts_last D (p := fun j => first D.safe.length m + 1 + j) (fun j => (r.f j).data.data.toList) (fun a b e => by
      have : first D.safe.length m + 1 + a = first D.safe.length m + 1 + b := e
      omega) hj
    rw [← hl, show first D.safe.length m + 1 + j = (fun j => first D.safe.length m + 1 + j) j from rfl, calmed_last hlv hsp h1]
    exact this
  · rw [calmed_last hlv hsp hx]
    exact puts_other D _ (fun j hj => by
      show first D.safe.length m + 1 + j ≠ x
      rw [hl]
      exact (hne j hj).symm)
theorem wrote_all (hc : D.Calm (4 + 41 * N)) (hN : 1 ≤ N) (m : Nat) {r : Rcd} (hr : r.may) :
    putS D m r.row r.n r.f = (0, wrote D m r) ∧ (wrote D m r).Calm (4 + 41 * N) ∧ (wrote D m r).last (first (4 + 41 * N) m) = (r.head m).data.toList ∧
    (∀ j, j < r.n → (wrote D m r).last (first (4 + 41 * N) m + 1 + j) = (r.f j).data.data.toList) ∧
    ∀ x, x < 4 + 41 * N → (∀ j, j < 41 → x ≠ first (4 + 41 * N) m + j) → (wrote D m r).last x = D.last x := by
  obtain ⟨h1, h2, h3, h4⟩ := loaded_all hc hN m hr
  have hn := (Rcd.may_n hr).2
  have hl := hc.live.len
  have hf : first D.safe.length m < 4 + 41 * N := by rw [hl]; exact first_lt hN m (j := 0) (by decide)
  have hlv := h2.live.put (first D.safe.length m) (r.head m).data.toList
  have hsp : ∀ i, ((D.puts (fun j => first D.safe.length m + 1 + j) (fun j => (r.f j).data.data.toList) r.n).calmed.put (first D.safe.length m) (r.head m).data.toList).spoilt.getD i false = false := fun i => put_spoilt _ _ _ (h2.spoilt i)
  have h2l := (hc.live.puts (fun j => first D.safe.length m + 1 + j) (fun j => (r.f j).data.data.toList) r.n)
  refine ⟨?_, hlv.calmed hsp, ?_, fun j hj => ?_, fun x hx hne => ?_⟩
  · unfold putS
    rw [h1, fl1_live h2l, wr1_live h2.live hf, fl1_live (h2.live.put _ _)]
    rfl
  · unfold wrote
    rw [calmed_last hlv hsp (by rw [← hl]; rw [← hl] at hf; exact hf), ← hl]
    exact put_last _ _ _
  · unfold wrote
    have := first_lt hN m (j := 1 + j) (by omega)
    rw [calmed_last hlv hsp (by omega), put_else _ _ (by rw [hl]; omega)]
    exact h3 j hj
  · unfold wrote
    rw [calmed_last hlv hsp hx, put_else _ _ (by rw [hl]; have := hne 0 (by decide); omega)]
    exact h4 x hx (fun j hj => by have := hne (1 + j) (by omega); omega)
end
/-- a journal of N slots: i records were appended, t of them are trimmed -/
structure Jn (D : Dr) (N i t : Nat) (R : Nat → Rcd) : Prop where
  calm : D.Calm (4 + 41 * N)
  pos : 1 ≤ N
  few : i ≤ 1000000
  le : t ≤ i
  near : i ≤ t + N
  mark : D.last 3 = (markB t).data.toList
  may : ∀ m, 1 ≤ m → m ≤ i → (R m).may
  head : ∀ m, 1 ≤ m → m ≤ i → i < m + N → D.last (first (4 + 41 * N) m) = ((R m).head m).data.toList
  data : ∀ m, t < m → m ≤ i → ∀ j, j < (R m).n → D.last (first (4 + 41 * N) m + 1 + j) = ((R m).f j).data.data.toList
  blank : ∀ m, i < m → m ≤ N → D.last (first (4 + 41 * N) m) = List.replicate 64 0
section
variable {D : Dr} {N i t : Nat} {R : Nat → Rcd}
theorem Jn.headAt (h : Jn D N i t R) {m : Nat} (h1 : 1 ≤ m) (h2 : m ≤ i) (h3 : i < m + N) : Ri.headAt D m = (R m).head m := by
  unfold Ri.headAt
  rw [h.calm.live.len, (h.calm.read (i := first (4 + 41 * N) m) (first_lt h.pos m (j := 0) (by decide))).2, h.head m h1 h2 h3, txt_data]
theorem Jn.dataAt (h : Jn D N i t R) {m : Nat} (h1 : t < m) (h2 : m ≤ i) {j : Nat} (hj : j < (R m).n) : Ri.dataAt D m j = ((R m).f j).data := by
  have hn := (Rcd.may_n (h.may m (by omega) h2)).2
  have hb : first (4 + 41 * N) m + 1 + j < 4 + 41 * N := by have := first_lt h.pos m (j := 1 + j) (by omega); omega
  unfold Ri.dataAt
  rw [h.calm.live.len, (h.calm.read hb).2, h.data m h1 h2 j hj, txt_data]
theorem Jn.isRec (h : Jn D N i t R) {m : Nat} (h0 : t < m) (h2 : m ≤ i) : Ri.isRec D m = true := by
  have h1 : 1 ≤ m := by omega
  have h3 : i < m + N := by have := h.near; omega
  have hm := h.may m h1 h2
  have hf := h.few
  have h64 : m < 18446744073709551616 := by omega
  have hH := h.headAt h1 h2 h3
  obtain ⟨b0, b1, _, b3, _, _⟩ := Rc.back_head h64 hm
  have hn := (Rcd.may_n hm).2
  rw [isRec_iff, hH]
  refine ⟨?_, b0, b1, ?_, ?_⟩
  · rw [h.calm.live.len]; exact (h.calm.read (first_lt h.pos m (j := 0) (by decide))).1
  · rw [show Rc.hN ((R m).head m) = (R m).n from b3, gotTo_iff]
    intro j hj
    rw [h.calm.live.len]
    exact (h.calm.read (by have := first_lt h.pos m (j := 1 + j) (by omega); omega)).1
  · rw [show Rc.hN ((R m).head m) = (R m).n from b3]
    exact Rc.back_good h64 hm (fun j hj => h.dataAt h0 h2 hj)
theorem Jn.next_not (h : Jn D N i t R) : Ri.isRec D (i + 1) = false := by
  have hp := h.pos
  have hf := h.few
  apply isRec_not
  rintro ⟨_, e1, e2⟩
  by_cases hN : i + 1 ≤ N
  · have hb := h.blank (i + 1) (by omega) hN
    have : Ri.headAt D (i + 1) = txt (List.replicate 64 0) := by
      unfold Ri.headAt
      rw [h.calm.live.len, (h.calm.read (i := first (4 + 41 * N) (i + 1)) (first_lt hp (i + 1) (j := 0) (by decide))).2, hb]
    rw [this] at e1
    exact blank_head e1
  · have hle : 1 ≤ i + 1 - N := by omega
    have hH := h.headAt (m := i + 1 - N) hle (by omega) (by omega)
    have he : Ri.headAt D (i + 1) = Ri.headAt D (i + 1 - N) := by
      unfold Ri.headAt
      rw [h.calm.live.len]
      have : first (4 + 41 * N) (i + 1) = first (4 + 41 * N) (i + 1 - N) := by
        rw [first_of, first_of]
        have : (i + 1 - N + N) % N = (i + 1 - N) % N := Nat.add_mod_right _ _
        rw [show i + 1 - N + N = i + 1 by omega] at this
        rw [this]
      rw [this]
    have hm := h.may (i + 1 - N) hle (by omega)
    have b1 := (Rc.back_head (seq := i + 1 - N) (by omega) hm).2.1
    rw [he, hH] at e2
    have : i + 1 - N = i + 1 := b1.symm.trans e2
    omega
theorem nth_small {t k : Nat} (h : t + k < 18446744073709551616) : nth t k = t + k := Nat.mod_eq_of_lt h
theorem Jn.count (h : Jn D N i t R) : cnt D t N = i - t := by
  have hf := h.few
  have hle := h.le
  have hnear := h.near
  refine cnt_is (fun j hj => ?_) (by omega) (fun _ => ?_)
  · rw [nth_small (by omega)]
    exact h.isRec (by omega) (by omega)
  · rw [nth_small (by omega), show t + (i - t + 1) = i + 1 by omega]
    exact h.next_not
theorem Jn.opens (h : Jn D N i t R) : openE D = 0 ∧ openT D = t ∧ openC D = i - t := by
  have hp := h.pos
  have hf := h.few
  have hle := h.le
  have h3 := h.calm.read (i := 3) (by omega)
  have hm : markAt D = markB t := by unfold markAt; rw [h3.2, h.mark, txt_data]
  have ht : t < 18446744073709551616 := by omega
  refine ⟨?_, ?_, ?_⟩
  · unfold openE
    rw [h3.1, if_pos rfl, hm, h.calm.live.len, slots_of, if_pos ⟨isMark_yes ht, by omega⟩]
  · unfold openT
    rw [hm, told_mark ht]
  · unfold openC openT
    rw [hm, told_mark ht, h.calm.live.len, slots_of]
    exact h.count
theorem Jn.crash (h : Jn D N i t R) (keep : List Nat) : Jn (D.crash keep) N i t R := by
  obtain ⟨hc, hl⟩ := h.calm.crash keep
  have hp := h.pos
  exact ⟨hc, hp, h.few, h.le, h.near, (hl 3 (by omega)).trans h.mark, h.may, fun m h1 h2 h3 => (hl _ (first_lt hp m (j := 0) (by decide))).trans (h.head m h1 h2 h3),
    fun m h1 h2 j hj => by
      have hn := (Rcd.may_n (h.may m (by omega) h2)).2
      exact (hl _ (by have := first_lt hp m (j := 1 + j) (by omega); omega)).trans (h.data m h1 h2 j hj),
    fun m h1 h2 => (hl _ (first_lt hp m (j := 0) (by decide))).trans (h.blank m h1 h2)⟩
/-- one record more -/
def with1 (R : Nat → Rcd) (m : Nat) (r : Rcd) : Nat → Rcd := fun k => if k = m then r else R k
theorem with1_same (R : Nat → Rcd) (m : Nat) (r : Rcd) : with1 R m r m = r := if_pos rfl
theorem with1_other (R : Nat → Rcd) {m k : Nat} (r : Rcd) (h : k ≠ m) : with1 R m r k = R k := if_neg h
/-- a drive that has one record more, and else is as it was -/
theorem Jn.more (h : Jn D N i t R) {E : Dr} {r : Rcd} (hi : i < 1000000) (hr : r.may) (hroom : i < t + N) (hc : E.Calm (4 + 41 * N)) (hh : E.last (first (4 + 41 * N) (i + 1)) = (r.head (i + 1)).data.toList)
    (hd : ∀ j, j < r.n → E.last (first (4 + 41 * N) (i + 1) + 1 + j) = (r.f j).data.data.toList) (ho : ∀ x, x < 4 + 41 * N → (∀ j, j < 41 → x ≠ first (4 + 41 * N) (i + 1) + j) → E.last x = D.last x) :
    Jn E N (i + 1) t (with1 R (i + 1) r) := by
  have hp := h.pos
  have hle := h.le
  refine ⟨hc, hp, by omega, by omega, by omega, (ho 3 (by omega) (fun j hj => (first_three _ _).symm)).trans h.mark, fun m h1 h2 => ?_, fun m h1 h2 h3 => ?_, fun m h1 h2 j hj => ?_, fun m h1 h2 => ?_⟩
  · by_cases e : m = i + 1
    · rw [e, with1_same]; exact hr
    · rw [with1_other R r e]; exact h.may m h1 (by omega)
  · by_cases e : m = i + 1
    · rw [e, with1_same]; exact hh
    · rw [with1_other R r e]
      have ha := mod_apart (N := N) (m := m) (q := i + 1) (by omega) (by omega)
      exact (ho _ (first_lt hp m (j := 0) (by decide)) (fun j hj => first_apart (j := 0) ha (by decide) hj)).trans (h.head m h1 (by omega) (by omega))
  · by_cases e : m = i + 1
    · subst e
      rw [with1_same] at hj ⊢
      exact hd j hj
    · rw [with1_other R r e] at hj ⊢
      have hn := (Rcd.may_n (h.may m (by omega) (by omega))).2
      have ha := mod_apart (N := N) (m := m) (q := i + 1) (by omega) (by omega)
      refine (ho _ (by have := first_lt hp m (j := 1 + j) (by omega); omega) (fun q hq => ?_)).trans (h.data m h1 (by omega) j hj)
      rw [Nat.add_assoc]
      exact first_apart (j := 1 + j) ha (by omega) hq
  · have ha := mod_apart (N := N) (m := i + 1) (q := m) (by omega) (by omega)
    exact (ho _ (first_lt hp m (j := 0) (by decide)) (fun j hj => first_apart (j := 0) (Ne.symm ha) (by decide) hj)).trans (h.blank m (by omega) h2)
theorem Jn.append (h : Jn D N i t R) {r : Rcd} (hi : i < 1000000) (hr : r.may) (hroom : i < t + N) : appS D t (i - t) r.row r.n r.f = (0, wrote D (i + 1) r) ∧ Jn (wrote D (i + 1) r) N (i + 1) t (with1 R (i + 1) r) := by
  have hle := h.le
  obtain ⟨w1, w2, w3, w4, w5⟩ := wrote_all h.calm h.pos (i + 1) hr
  refine ⟨?_, h.more hi hr hroom w2 w3 w4 w5⟩
  unfold appS
  rw [h.calm.live.len, slots_of, if_neg (by omega), if_pos (show Rc.mayB r.row r.n r.f = true from hr), nth_small (by omega), show t + (i - t + 1) = i + 1 by omega, w1]
theorem Jn.full (h : Jn D N i t R) (hroom : i = t + N) (row : Int) (n : Nat) (f : Nat → Prt) : appS D t (i - t) row n f = (130, D) := by
  unfold appS
  rw [h.calm.live.len, slots_of, if_pos (by omega)]
theorem ahead_small {t q : Nat} (h1 : t ≤ q) (h2 : q < 18446744073709551616) : ahead t q = q - t := by
  unfold ahead top
  rw [show q + 18446744073709551616 - t = q - t + 18446744073709551616 by omega, Nat.add_mod_right, Nat.mod_eq_of_lt (by omega)]
/-- the drive behind a mark was put -/
def marked (D : Dr) (q : Nat) : Dr := (D.put 3 (markB q).data.toList).calmed
theorem marked_all (hc : D.Calm (4 + 41 * N)) (q : Nat) : fl1 (wr1 (0, D) 3 (markB q).data.toList) = (0, marked D q) ∧ (marked D q).Calm (4 + 41 * N) ∧ (marked D q).last 3 = (markB q).data.toList ∧ ∀ x, x < 4 + 41 * N → x ≠ 3 → (marked D q).last x = D.last x := by
  have hlv := hc.live.put 3 (markB q).data.toList
  have hsp : ∀ i, (D.put 3 (markB q).data.toList).spoilt.getD i false = false := fun i => put_spoilt _ _ _ (hc.spoilt i)
  refine ⟨?_, hlv.calmed hsp, ?_, fun x hx hne => ?_⟩
  · rw [wr1_live hc.live (by omega), fl1_live hlv]; rfl
  · unfold marked; rw [calmed_last hlv hsp (by omega)]; exact put_last _ _ _
  · unfold marked; rw [calmed_last hlv hsp hx]; exact put_else _ _ hne
theorem Jn.trim (h : Jn D N i t R) {q : Nat} (h1 : t ≤ q) (h2 : q ≤ i) : trimS D t (i - t) q = (0, marked D q) ∧ Jn (marked D q) N i q R := by
  have hf := h.few
  have hp := h.pos
  have hnear := h.near
  obtain ⟨m1, m2, m3, m4⟩ := marked_all h.calm q
  refine ⟨?_, m2, hp, hf, h2, by omega, m3, h.may, fun m a b c => (m4 _ (first_lt hp m (j := 0) (by decide)) (by have := first_three (N := N) m 0; omega)).trans (h.head m a b c), fun m a b j hj => ?_, fun m a b => (m4 _ (first_lt hp m (j := 0) (by decide)) (by have := first_three (N := N) m 0; omega)).trans (h.blank m a b)⟩
  · unfold trimS
    rw [ahead_small h1 (by omega), if_pos (by omega), m1]
  · have hn := (Rcd.may_n (h.may m (by omega) b)).2
    exact (m4 _ (by have := first_lt hp m (j := 1 + j) (by omega); omega) (by rw [Nat.add_assoc]; exact first_three m (1 + j))).trans (h.data m (by omega) b j hj)
theorem trim_far {c q : Nat} (h : c < ahead t q) : trimS D t c q = (1, D) := by
  unfold trimS
  rw [if_neg (by omega)]
theorem ahead_back {t q : Nat} (h1 : q < t) (_h2 : t < 18446744073709551616) : ahead t q = q + 18446744073709551616 - t := by
  unfold ahead top
  exact Nat.mod_eq_of_lt (by omega)
/-- a drive that was made a journal -/
def blanked (D : Dr) (N : Nat) : Dr := ((D.puts (fun i => 4 + 41 * i) (fun _ => List.replicate 64 0) N).put 3 (markB 0).data.toList).calmed
theorem format_all (hc : D.Calm (4 + 41 * N)) (hN : 1 ≤ N) (R : Nat → Rcd) : formatS D = (0, blanked D N) ∧ Jn (blanked D N) N 0 0 R := by
  have hl := hc.live.len
  have hp : ∀ j, j < N → (fun i => 4 + 41 * i) j < 4 + 41 * N := fun j hj => by show 4 + 41 * j < _; omega
  have hlv := hc.live.puts (fun i => 4 + 41 * i) (fun _ => List.replicate 64 0) N
  have hsp := puts_spoilt hc.spoilt (fun i => 4 + 41 * i) (fun _ => List.replicate 64 0) N
  have hlv2 := hlv.put 3 (markB 0).data.toList
  have hsp2 : ∀ i, ((D.puts (fun i => 4 + 41 * i) (fun _ => List.replicate 64 0) N).put 3 (markB 0).data.toList).spoilt.getD i false = false := fun i => put_spoilt _ _ _ (hsp i)
  refine ⟨?_, hlv2.calmed hsp2, hN, by omega, Nat.le_refl _, by omega, ?_, fun m h1 h2 => by omega, fun m h1 h2 => by omega, fun m h1 h2 => by omega, fun m h1 h2 => ?_⟩
  · unfold formatS
    rw [hl, slots_of, if_neg (by omega), wrTo_live hc.live _ hp, wr1_live hlv (by omega), fl1_live hlv2]
    rfl
  · unfold blanked
    rw [calmed_last hlv2 hsp2 (by omega)]
    exact put_last _ _ _
  · unfold blanked
    have hb : first (4 + 41 * N) m < 4 + 41 * N := first_lt hN m (j := 0) (by decide)
    rw [calmed_last hlv2 hsp2 hb, put_else _ _ (by have := first_three (N := N) m 0; omega)]
    have hm : m % N < N := Nat.mod_lt _ (by omega)
    have := puts_last D (p := fun i => 4 + 41 * i) (fun _ => List.replicate 64 0) (fun a b e => by
      have : 4 + 41 * a = 4 + 41 * b := e
      omega) hm
    rw [first_of]
    exact this
/-- a record whose head was written, not flushed, wherever it crashes -/
theorem Jn.torn (h : Jn D N i t R) {r : Rcd} (hi : i < 1000000) (hr : r.may) (hroom : i < t + N) (keep : List Nat) :
    Jn (((D.puts (fun j => first D.safe.length (i + 1) + 1 + j) (fun j => (r.f j).data.data.toList) r.n).calmed.put (first D.safe.length (i + 1)) (r.head (i + 1)).data.toList).crash keep) N i t R ∨
    Jn (((D.puts (fun j => first D.safe.length (i + 1) + 1 + j) (fun j => (r.f j).data.data.toList) r.n).calmed.put (first D.safe.length (i + 1)) (r.head (i + 1)).data.toList).crash keep) N (i + 1) t (with1 R (i + 1) r) := by
  obtain ⟨_, h2, h3, h4⟩ := loaded_all h.calm h.pos (i + 1) hr
  have hl := h.calm.live.len
  have hp := h.pos
  have hle := h.le
  have hn := (Rcd.may_n hr).2
  generalize hE : (D.puts (fun j => first D.safe.length (i + 1) + 1 + j) (fun j => (r.f j).data.data.toList) r.n).calmed = E at h2 h3 h4 ⊢
  have hf : first (4 + 41 * N) (i + 1) < 4 + 41 * N := first_lt hp (i + 1) (j := 0) (by decide)
  rw [hl]
  have hlv := h2.live.put (first (4 + 41 * N) (i + 1)) (r.head (i + 1)).data.toList
  have hc : ((E.put (first (4 + 41 * N) (i + 1)) (r.head (i + 1)).data.toList).crash keep).Calm (4 + 41 * N) :=
    ⟨⟨hlv.dead, rfl, (safeAt_length _ _ _).trans hlv.len⟩, fun x => put_spoilt E (first (4 + 41 * N) (i + 1)) (r.head (i + 1)).data.toList (h2.spoilt x), fun _ => rfl⟩
  have hother : ∀ x, x < 4 + 41 * N → x ≠ first (4 + 41 * N) (i + 1) → ((E.put (first (4 + 41 * N) (i + 1)) (r.head (i + 1)).data.toList).crash keep).last x = E.last x := fun x hx hne => by
    rw [hc.last, h2.last]
    exact settle_idle _ (by rw [hlv.len]; exact hx) ((put_other _ _ hne).trans (h2.none x))
  have hw : (E.put (first (4 + 41 * N) (i + 1)) (r.head (i + 1)).data.toList).writes (first (4 + 41 * N) (i + 1)) = [(r.head (i + 1)).data.toList] := by rw [put_same, h2.none]; rfl
  obtain ⟨j, _, _, hj⟩ := settle_busy (D := E.put (first (4 + 41 * N) (i + 1)) (r.head (i + 1)).data.toList) (keeps keep) (i := first (4 + 41 * N) (i + 1)) (by rw [hlv.len]; exact hf) (by rw [hw]; simp)
  rw [hw] at hj
  have hone := keeps_le keep j 1
  by_cases hk : 0 < keeps keep j 1
  · right
    have hk1 : keeps keep j 1 = 1 := by omega
    have hlast : ((E.put (first (4 + 41 * N) (i + 1)) (r.head (i + 1)).data.toList).crash keep).last (first (4 + 41 * N) (i + 1)) = (r.head (i + 1)).data.toList := by
      rw [hc.last]
      refine Eq.trans hj ?_
      rw [if_pos (by simpa using hk)]
      simp [hk1]
    refine h.more hi hr hroom hc hlast (fun q hq => ?_) (fun x hx hne => ?_)
    · rw [hother _ (by have := first_lt hp (i + 1) (j := 1 + q) (by omega); omega) (by omega)]
      exact h3 q hq
    · rw [hother x hx (by have := hne 0 (by decide); omega)]
      exact h4 x hx (fun q hq => by have := hne (1 + q) (by omega); omega)
  · left
    have hlast : ((E.put (first (4 + 41 * N) (i + 1)) (r.head (i + 1)).data.toList).crash keep).last (first (4 + 41 * N) (i + 1)) = D.last (first (4 + 41 * N) (i + 1)) := by
      rw [hc.last]
      refine Eq.trans hj ?_
      rw [if_neg (by simpa using hk)]
      show E.safe.getD _ [] = _
      rw [← h2.last]
      exact h4 _ hf (fun q hq => by omega)
    have hall : ∀ x, x < 4 + 41 * N → (∀ q, q < r.n → x ≠ first (4 + 41 * N) (i + 1) + 1 + q) → ((E.put (first (4 + 41 * N) (i + 1)) (r.head (i + 1)).data.toList).crash keep).last x = D.last x := fun x hx hne => by
      by_cases e : x = first (4 + 41 * N) (i + 1)
      · rw [e]; exact hlast
      · rw [hother x hx e]; exact h4 x hx hne
    refine ⟨hc, hp, h.few, hle, h.near, (hall 3 (by omega) (fun q hq => by rw [Nat.add_assoc]; exact (first_three _ _).symm)).trans h.mark, h.may, fun m a b c => ?_, fun m a b q hq => ?_, fun m a b => ?_⟩
    · refine (hall _ (first_lt hp m (j := 0) (by decide)) (fun q hq => ?_)).trans (h.head m a b c)
      by_cases e : m % N = (i + 1) % N
      · rw [first_of, first_of, e]; omega
      · rw [Nat.add_assoc]; exact first_apart (j := 0) e (by decide) (by omega)
    · have hm := (Rcd.may_n (h.may m (by omega) b)).2
      have ha := mod_apart (N := N) (m := m) (q := i + 1) (by omega) (by omega)
      refine (hall _ (by have := first_lt hp m (j := 1 + q) (by omega); omega) (fun x hx => ?_)).trans (h.data m a b q hq)
      rw [Nat.add_assoc, Nat.add_assoc]
      exact first_apart ha (by omega) (by omega)
    · refine (hall _ (first_lt hp m (j := 0) (by decide)) (fun q hq => ?_)).trans (h.blank m a b)
      by_cases e : m % N = (i + 1) % N
      · rw [first_of, first_of, e]; omega
      · rw [Nat.add_assoc]; exact first_apart (j := 0) e (by decide) (by omega)
end
end Ri
end Go.Proofs.YtjmeiifogblmoaaGreatDoor
