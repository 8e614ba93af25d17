/- What a record is, its head and its load, and what the bytes of a sector tell: plain. -/
import Derived.Test.YtmikllmpinciiaaDoorPgMath
namespace Go.Proofs.YtmikllmpinciiaaDoor

/-- a part: its column, its place, its data -/
structure Prt where
  col : Int
  off : Int
  data : ByteArray
  deriving DecidableEq

namespace Rc
def blankP : Prt := ⟨0, 0, ⟨#[]⟩⟩
def magicB : ByteArray := ⟨#[82, 86, 84, 74]⟩
def inB (x : Prt) : Bool := decide (0 ≤ x.col) && (decide (x.col < 10) && (decide (0 ≤ x.off) && decide (x.off < 4)))
def sameB (x y : Prt) : Bool := decide (x.col = y.col) && decide (x.off = y.off)
/-- no one of the first k stands where the part i does -/
def freshTo (f : Nat → Prt) (i : Nat) : Nat → Bool
  | 0 => true
  | k + 1 => freshTo f i k && !sameB (f k) (f i)
/-- the first i have places that may be, apart from one another -/
def okTo (f : Nat → Prt) : Nat → Bool
  | 0 => true
  | i + 1 => okTo f i && (inB (f i) && freshTo f i i)
def fewB (row : Int) (n : Nat) : Bool := decide (0 ≤ row) && (decide (row < 256) && (decide (1 ≤ n) && decide (n ≤ 40)))
def placesB (row : Int) (n : Nat) (f : Nat → Prt) : Bool := fewB row n && okTo f n
def fullTo (f : Nat → Prt) : Nat → Bool
  | 0 => true
  | i + 1 => fullTo f i && decide ((f i).data.size = 64)
def mayB (row : Int) (n : Nat) (f : Nat → Prt) : Bool := fullTo f n && placesB row n f
/-- all data behind one another -/
def catTo (f : Nat → Prt) : Nat → ByteArray
  | 0 => ⟨#[]⟩
  | n + 1 => catTo f n ++ (f n).data
def sumF (n : Nat) (f : Nat → Prt) : Nat := Crc.more 0 (catTo f n).data.toList
def plB (x : Prt) : UInt8 := UInt8.ofNat (4 * x.col + x.off).toNat
def plTo (f : Nat → Prt) : Nat → ByteArray
  | 0 => ⟨#[]⟩
  | n + 1 => plTo f n ++ ⟨#[plB (f n)]⟩
abbrev ws : List Int := [8, 2, 1, 4]
def numsB (seq : Nat) (row : Int) (n s : Nat) : ByteArray := Pk.encS [seq, row.toNat, n, s] ws
def bodyB (seq : Nat) (row : Int) (n : Nat) (f : Nat → Prt) (s : Nat) : ByteArray := magicB ++ numsB seq row n s ++ plTo f n
/-- the head of a record whose load has the sum s -/
def headS (seq : Nat) (row : Int) (n : Nat) (f : Nat → Prt) (s : Nat) : ByteArray := Crc.sealB (bodyB seq row n f s) 64
/-- what the bytes of a head tell -/
def numT (t : ByteArray) (i : Nat) : Nat := (Pk.dec (t.extract 4 19).data.toList ws).getD i 0
def partT (t : ByteArray) (j : Nat) : Prt := ⟨((Pg.byt11 t (19 + j)).toNat / 4 : Nat), ((Pg.byt11 t (19 + j)).toNat % 4 : Nat), ⟨#[]⟩⟩
def headE (b : ByteArray) : Nat := if b.size ≠ 64 then 31 else bif Crc.opens b.data.toList then (if (Crc.headB b).extract 0 4 ≠ magicB then 81 else if 40 < numT (Crc.headB b) 2 then 1 else bif placesB (numT (Crc.headB b) 1) (numT (Crc.headB b) 2) (partT (Crc.headB b)) && decide (headS (numT (Crc.headB b) 0) (numT (Crc.headB b) 1) (numT (Crc.headB b) 2) (partT (Crc.headB b)) (numT (Crc.headB b) 3) = b) then 0 else 1) else 80
def hSeq (b : ByteArray) : Nat := if headE b = 0 then numT (Crc.headB b) 0 else 0
def hRow (b : ByteArray) : Nat := if headE b = 0 then numT (Crc.headB b) 1 else 0
def hN (b : ByteArray) : Nat := if headE b = 0 then numT (Crc.headB b) 2 else 0
def hSum (b : ByteArray) : Nat := if headE b = 0 then numT (Crc.headB b) 3 else 0
def hPart (b : ByteArray) : Nat → Prt := partT (Crc.headB b)

/-! ### places -/
theorem freshTo_iff (f : Nat → Prt) (i : Nat) : ∀ k, freshTo f i k = true ↔ ∀ j, j < k → sameB (f j) (f i) = false
  | 0 => ⟨fun _ _ h => absurd h (Nat.not_lt_zero _), fun _ => rfl⟩
  | k + 1 => by
    unfold freshTo
    rw [Bool.and_eq_true, freshTo_iff f i k, Bool.not_eq_true']
    constructor
    · rintro ⟨h1, h2⟩ j hj
      by_cases e : j = k
      · subst e; exact h2
      · exact h1 j (by omega)
    · intro h; exact ⟨fun j hj => h j (by omega), h k (by omega)⟩
theorem okTo_iff (f : Nat → Prt) : ∀ n, okTo f n = true ↔ ∀ i, i < n → inB (f i) = true ∧ freshTo f i i = true
  | 0 => ⟨fun _ _ h => absurd h (Nat.not_lt_zero _), fun _ => rfl⟩
  | n + 1 => by
    unfold okTo
    rw [Bool.and_eq_true, Bool.and_eq_true, okTo_iff f n]
    constructor
    · rintro ⟨h1, h2⟩ i hi
      by_cases e : i = n
      · subst e; exact h2
      · exact h1 i (by omega)
    · intro h; exact ⟨fun i hi => h i (by omega), h n (by omega)⟩
theorem okTo_not {f : Nat → Prt} {n i : Nat} (hi : i < n) (h : inB (f i) = false ∨ freshTo f i i = false) : okTo f n = false := by
  cases e : okTo f n with
  | false => rfl
  | true =>
    obtain ⟨h1, h2⟩ := (okTo_iff f n).1 e i hi
    rcases h with h | h
    · rw [h1] at h; cases h
    · rw [h2] at h; cases h
theorem freshTo_not {f : Nat → Prt} {i k j : Nat} (hj : j < k) (h : sameB (f j) (f i) = true) : freshTo f i k = false := by
  cases e : freshTo f i k with
  | false => rfl
  | true => have := (freshTo_iff f i k).1 e j hj; rw [h] at this; cases this
theorem fullTo_iff (f : Nat → Prt) : ∀ n, fullTo f n = true ↔ ∀ i, i < n → (f i).data.size = 64
  | 0 => ⟨fun _ _ h => absurd h (Nat.not_lt_zero _), fun _ => rfl⟩
  | n + 1 => by
    unfold fullTo
    rw [Bool.and_eq_true, fullTo_iff f n, decide_eq_true_iff]
    constructor
    · rintro ⟨h1, h2⟩ i hi
      by_cases e : i = n
      · subst e; exact h2
      · exact h1 i (by omega)
    · intro h; exact ⟨fun i hi => h i (by omega), h n (by omega)⟩
theorem fullTo_not {f : Nat → Prt} {n i : Nat} (hi : i < n) (h : (f i).data.size ≠ 64) : fullTo f n = false := by
  cases e : fullTo f n with
  | false => rfl
  | true => exact absurd ((fullTo_iff f n).1 e i hi) h
theorem few_iff (row : Int) (n : Nat) : fewB row n = true ↔ 0 ≤ row ∧ row < 256 ∧ 1 ≤ n ∧ n ≤ 40 := by simp [fewB]
theorem in_iff (x : Prt) : inB x = true ↔ 0 ≤ x.col ∧ x.col < 10 ∧ 0 ≤ x.off ∧ x.off < 4 := by simp [inB]
theorem places_iff (row : Int) (n : Nat) (f : Nat → Prt) : placesB row n f = true ↔ fewB row n = true ∧ okTo f n = true := by unfold placesB; rw [Bool.and_eq_true]
/-- places hang on the places alone -/
theorem okTo_congr {f g : Nat → Prt} {n : Nat} (h : ∀ i, i < n → (f i).col = (g i).col ∧ (f i).off = (g i).off) : okTo f n = okTo g n := by
  rw [Bool.eq_iff_iff, okTo_iff, okTo_iff]
  have key : ∀ i, i < n → (inB (f i) = inB (g i)) ∧ (freshTo f i i = freshTo g i i) := by
    intro i hi
    refine ⟨by unfold inB; rw [(h i hi).1, (h i hi).2], ?_⟩
    rw [Bool.eq_iff_iff, freshTo_iff, freshTo_iff]
    have e : ∀ j, j < i → sameB (f j) (f i) = sameB (g j) (g i) := fun j hj => by
      unfold sameB; rw [(h j (by omega)).1, (h j (by omega)).2, (h i hi).1, (h i hi).2]
    exact ⟨fun x j hj => by rw [← e j hj]; exact x j hj, fun x j hj => by rw [e j hj]; exact x j hj⟩
  exact ⟨fun x i hi => by rw [← (key i hi).1, ← (key i hi).2]; exact x i hi, fun x i hi => by rw [(key i hi).1, (key i hi).2]; exact x i hi⟩

/-! ### bytes -/
theorem plTo_list (f : Nat → Prt) : ∀ n, (plTo f n).data.toList = (List.range n).map fun j => plB (f j)
  | 0 => rfl
  | n + 1 => by
    unfold plTo
    rw [ByteArray.data_append, Array.toList_append, plTo_list f n, List.range_succ, List.map_append]; rfl
theorem plTo_size (f : Nat → Prt) (n : Nat) : (plTo f n).size = n := by rw [← Pg.list_size, plTo_list]; simp
theorem plTo_congr {f g : Nat → Prt} : ∀ {n : Nat}, (∀ i, i < n → (f i).col = (g i).col ∧ (f i).off = (g i).off) → plTo f n = plTo g n
  | 0, _ => rfl
  | n + 1, h => by
    unfold plTo
    rw [plTo_congr (fun i hi => h i (by omega)), show plB (f n) = plB (g n) by unfold plB; rw [(h n (by omega)).1, (h n (by omega)).2]]
theorem ws_ok : Pk.okW ws = true := by decide
theorem ws_offs : Pk.offs ws 4 = 15 := by decide
theorem fit_nums {seq : Nat} {row : Int} {n s : Nat} (h0 : seq < 18446744073709551616) (h1 : row < 65536) (h2 : n < 256) (h3 : s < 4294967296) : Pk.fitAll [seq, row.toNat, n, s] ws = true := by
  rw [Pk.fitAll_iff]
  intro j hj
  rw [Pk.fits_iff]
  have : j < 4 := hj
  rcases (by omega : j = 0 ∨ j = 1 ∨ j = 2 ∨ j = 3) with rfl | rfl | rfl | rfl
  · exact ⟨by decide, h0⟩
  · exact ⟨by decide, by show row.toNat < 65536; omega⟩
  · exact ⟨by decide, h2⟩
  · exact ⟨by decide, h3⟩
section
variable {seq : Nat} {row : Int} {n s : Nat} (h0 : seq < 18446744073709551616) (h1 : row < 65536) (h2 : n < 256) (h3 : s < 4294967296)
include h0 h1 h2 h3
theorem nums_size : (numsB seq row n s).size = 15 := (Pk.encS_size ws_ok rfl (fit_nums h0 h1 h2 h3)).trans ws_offs
theorem nums_E : Pk.encE [seq, row.toNat, n, s] ws = 0 := Pk.encE_yes ws_ok rfl (fit_nums h0 h1 h2 h3)
theorem body_size (f : Nat → Prt) : (bodyB seq row n f s).size = 19 + n := by
  unfold bodyB
  rw [ByteArray.size_append, ByteArray.size_append, nums_size h0 h1 h2 h3, plTo_size]; rfl
theorem headS_size (h40 : n ≤ 40) (f : Nat → Prt) : (headS seq row n f s).size = 64 := by
  have hb := body_size h0 h1 h2 h3 f
  rw [← Pg.list_size]
  show (Crc.sealB _ 64).data.toList.length = 64
  rw [show (Crc.sealB (bodyB seq row n f s) 64).data.toList = Crc.sealL (bodyB seq row n f s).data.toList 64 by simp [Crc.sealB]]
  exact Crc.sealL_length _ 64 (by decide) (by rw [Pg.list_size, hb]; omega)
theorem headS_opens (h40 : n ≤ 40) (f : Nat → Prt) : Crc.opens (headS seq row n f s).data.toList = true := by
  have hb := body_size h0 h1 h2 h3 f
  show Crc.opens (Crc.sealB _ 64).data.toList = true
  rw [show (Crc.sealB (bodyB seq row n f s) 64).data.toList = Crc.sealL (bodyB seq row n f s).data.toList 64 by simp [Crc.sealB]]
  exact Crc.opens_seal _ 64 (by decide) (by rw [Pg.list_size, hb]; omega)
theorem head_list (h40 : n ≤ 40) (f : Nat → Prt) : (Crc.headB (headS seq row n f s)).data.toList = [82, 86, 84, 74] ++ (Pk.enc [seq, row.toNat, n, s] ws ++ ((List.range n).map (fun j => plB (f j)) ++ List.replicate (41 - n) 0)) := by
  have hs := body_size h0 h1 h2 h3 f
  unfold headS
  rw [Crc.headB_seal _ 64 (by decide) (by rw [hs]; omega)]
  show Crc.padL (bodyB seq row n f s).data.toList 60 = _
  unfold Crc.padL
  rw [Pg.list_size, hs]
  unfold bodyB magicB numsB Pk.encS
  rw [ByteArray.data_append, ByteArray.data_append, Array.toList_append, Array.toList_append, plTo_list, show 60 - (19 + n) = 41 - n by omega]
  simp [List.append_assoc]
theorem enc_len : (Pk.enc [seq, row.toNat, n, s] ws).length = 15 := by
  have := nums_size h0 h1 h2 h3
  unfold numsB Pk.encS at this
  rw [← Pg.list_size] at this
  simpa using this
theorem head_first (h40 : n ≤ 40) (f : Nat → Prt) : (Crc.headB (headS seq row n f s)).extract 0 4 = magicB := by
  apply Pg.eq_of_list
  rw [Pg.extract_list, head_list h0 h1 h2 h3 h40]
  rfl
theorem head_nums (h40 : n ≤ 40) (f : Nat → Prt) : ((Crc.headB (headS seq row n f s)).extract 4 19).data.toList = Pk.enc [seq, row.toNat, n, s] ws := by
  have hl := enc_len h0 h1 h2 h3
  rw [Pg.extract_list, head_list h0 h1 h2 h3 h40]
  show (Pk.enc _ ws ++ _).take 15 = _
  rw [List.take_append_of_le_length (by omega), List.take_of_length_le (by omega)]
theorem head_num (h40 : n ≤ 40) (f : Nat → Prt) (i : Nat) : numT (Crc.headB (headS seq row n f s)) i = [seq, row.toNat, n, s].getD i 0 := by
  unfold numT
  rw [head_nums h0 h1 h2 h3 h40, Pk.dec_enc ws_ok rfl (fit_nums h0 h1 h2 h3)]
theorem head_byte (h40 : n ≤ 40) (f : Nat → Prt) {j : Nat} (hj : j < n) : Pg.byt11 (Crc.headB (headS seq row n f s)) (19 + j) = plB (f j) := by
  have hl := enc_len h0 h1 h2 h3
  unfold Pg.byt11
  rw [head_list h0 h1 h2 h3 h40, List.getD_eq_getElem?_getD, List.getElem?_append_right (by simp; omega), List.getElem?_append_right (by simp; omega)]
  have ej : 19 + j - ([82, 86, 84, 74] : List UInt8).length - (Pk.enc [seq, row.toNat, n, s] ws).length = j := by rw [hl]; simp; omega
  rw [ej]
  rw [List.getElem?_append_left (by simpa using hj)]
  simp [hj]
end
theorem pl_back {x : Prt} (h : inB x = true) : ((plB x).toNat / 4 : Nat) = x.col ∧ ((plB x).toNat % 4 : Nat) = x.off := by
  obtain ⟨h1, h2, h3, h4⟩ := (in_iff x).1 h
  have e : (plB x).toNat = (4 * x.col + x.off).toNat := by
    unfold plB
    simp
    omega
  rw [e]
  omega
/-- what may be comes back from its head -/
theorem head_back {seq : Nat} {row : Int} {n s : Nat} {f : Nat → Prt} (h0 : seq < 18446744073709551616) (h3 : s < 4294967296) (hp : placesB row n f = true) :
    headE (headS seq row n f s) = 0 ∧ hSeq (headS seq row n f s) = seq ∧ (hRow (headS seq row n f s) : Int) = row ∧ hN (headS seq row n f s) = n ∧ hSum (headS seq row n f s) = s ∧ ∀ j, j < n → hPart (headS seq row n f s) j = ⟨(f j).col, (f j).off, ⟨#[]⟩⟩ := by
  obtain ⟨hf, ho⟩ := (places_iff _ _ _).1 hp
  obtain ⟨r0, r1, n1, n40⟩ := (few_iff _ _).1 hf
  have a1 : row < 65536 := by omega
  have a2 : n < 256 := by omega
  have e0 : numT (Crc.headB (headS seq row n f s)) 0 = seq := head_num h0 a1 a2 h3 n40 f 0
  have e1 : numT (Crc.headB (headS seq row n f s)) 1 = row.toNat := head_num h0 a1 a2 h3 n40 f 1
  have e2 : numT (Crc.headB (headS seq row n f s)) 2 = n := head_num h0 a1 a2 h3 n40 f 2
  have e3 : numT (Crc.headB (headS seq row n f s)) 3 = s := head_num h0 a1 a2 h3 n40 f 3
  have hpart : ∀ j, j < n → partT (Crc.headB (headS seq row n f s)) j = ⟨(f j).col, (f j).off, ⟨#[]⟩⟩ := fun j hj => by
    unfold partT
    rw [head_byte h0 a1 a2 h3 n40 f hj, (pl_back ((okTo_iff f n).1 ho j hj).1).1, (pl_back ((okTo_iff f n).1 ho j hj).1).2]
  have hc : ∀ i, i < n → ((partT (Crc.headB (headS seq row n f s)) i).col = (f i).col ∧ (partT (Crc.headB (headS seq row n f s)) i).off = (f i).off) := fun i hi => by rw [hpart i hi]; exact ⟨rfl, rfl⟩
  have hrow : ((row.toNat : Nat) : Int) = row := by omega
  have hE : headE (headS seq row n f s) = 0 := by
    unfold headE
    rw [if_neg (by rw [headS_size h0 a1 a2 h3 n40]; decide), headS_opens h0 a1 a2 h3 n40, cond_true, if_neg (fun x => x (head_first h0 a1 a2 h3 n40 f)), e0, e1, e2, e3, if_neg (by omega), hrow]
    have p1 : placesB row n (partT (Crc.headB (headS seq row n f s))) = true := by unfold placesB; rw [hf, okTo_congr hc, ho]; rfl
    have p2 : headS seq row n (partT (Crc.headB (headS seq row n f s))) s = headS seq row n f s := by
      show Crc.sealB (bodyB seq row n (partT _) s) 64 = Crc.sealB (bodyB seq row n f s) 64
      rw [show bodyB seq row n (partT (Crc.headB (headS seq row n f s))) s = bodyB seq row n f s by unfold bodyB; rw [plTo_congr hc]]
    rw [p1, p2, decide_eq_true rfl]; rfl
  refine ⟨hE, ?_, ?_, ?_, ?_, fun j hj => hpart j hj⟩
  · unfold hSeq; rw [if_pos hE, e0]
  · unfold hRow; rw [if_pos hE, e1]; exact hrow
  · unfold hN; rw [if_pos hE, e2]
  · unfold hSum; rw [if_pos hE, e3]
end Rc
end Go.Proofs.YtmikllmpinciiaaDoor
