/- What a superblock is, which may be, and the numbers that stand in its sector: plain. -/
import Derived.Test.YtgkhnfchohcjeaaMLayA
import Derived.Test.YtgkhnfchohcjeaaPackMath
import Derived.Test.YtgkhnfchohcjeaaCrcMath
namespace Go.Proofs.Ytgkhnfchohcjeaa
open Go.RowKit

/-- a superblock -/
structure Su where
  uu : Nat
  ev : Nat
  role : Int
  c : Int
  k : Int
  r : Int
  cl : Bool
  b : Int
  nw : Int
  g : Int
  deriving DecidableEq
/-- the same as a value -/
def supV (s : Su) : Value := .agg #[.int .u64 (s.uu : Int), .int .u64 (s.ev : Int), .int .i64 s.role, .int .i64 s.c, .int .i64 s.k, .int .i64 s.r, .bool s.cl, .int .i64 s.b, .int .i64 s.nw, .int .i64 s.g]
/-- a block: its first number, and what the drive knows -/
def blkV (f : Nat) (s : Su) : Value := .agg #[.int .u64 (f : Int), .int .u64 (s.uu : Int), .int .u64 (s.ev : Int), .int .i64 s.role, .int .i64 s.c, .int .i64 s.k, .int .i64 s.r, .bool s.cl, .int .i64 s.b, .int .i64 s.nw, .int .i64 s.g]

namespace Sup
instance (c k r : Int) : Decidable (Lay.ok c k r) := by unfold Lay.ok; infer_instance
/-- which may be -/
def may (s : Su) : Prop := (s.uu ≠ 0 ∧ Lay.ok s.c s.k s.r) ∧ (s.nw = 0 ∨ s.c < s.nw ∧ s.nw ≤ 10) ∧ (s.role = 254 ∨ s.role = 255 ∨ 0 ≤ s.role ∧ s.role < max s.c s.nw) ∧ (0 ≤ s.b ∧ s.b ≤ s.r) ∧ (0 ≤ s.g ∧ s.g ≤ s.r) ∧ (s.nw ≠ 0 ∨ s.g = 0)
instance (s : Su) : Decidable (may s) := by unfold may; infer_instance
def mayB (s : Su) : Bool := decide (may s)
/-- which are whole -/
def wholeB (s : Su) : Bool := mayB s && decide (s.role < s.c) && decide (s.b = s.r)
/-- what none is -/
def none : Su := ⟨0, 0, 0, 0, 0, 0, false, 0, 0, 0⟩
/-- a superblock's numbers, behind the first -/
def nums (f : Nat) (s : Su) : List Nat := [f, s.uu, s.ev, s.role.toNat, s.c.toNat, s.k.toNat, s.r.toNat, (bif s.cl then 1 else 0), s.b.toNat, s.nw.toNat, s.g.toNat]
def wL : List Int := [4, 8, 8, 1, 1, 1, 2, 1, 2, 1, 2]
def magic : Nat := 827610706
/-- its sector -/
def secT (s : Su) : ByteArray := Crc.sealB (Pk.encS (nums magic s) wL) 64
def encT (s : Su) : ByteArray := bif mayB s then secT s else ⟨#[]⟩
def encE (s : Su) : Int := bif mayB s then 0 else 1
/-- what the numbers of a sector tell -/
def first (b : ByteArray) : Nat := (Pk.dec (b.data.toList.take 31) wL).getD 0 0
def told (b : ByteArray) : Su :=
  let l := Pk.dec (b.data.toList.take 31) wL
  ⟨l.getD 1 0, l.getD 2 0, l.getD 3 0, l.getD 4 0, l.getD 5 0, l.getD 6 0, l.getD 7 0 == 1, l.getD 8 0, l.getD 9 0, l.getD 10 0⟩
def decE (b : ByteArray) : Int := if b.size ≠ 64 then 31 else bif Crc.opens b.data.toList then (if first b ≠ magic then 81 else bif mayB (told b) && decide (secT (told b) = b) then 0 else 1) else 80
def decS (b : ByteArray) : Su := if decE b = 0 then told b else none

theorem wL_ok : Pk.okW wL = true := by decide
theorem wL_offs : Pk.offs wL wL.length = 31 := by decide
theorem nums_length (f : Nat) (s : Su) : (nums f s).length = wL.length := rfl
/-- a superblock's numbers have room -/
structure Fit (f : Nat) (s : Su) : Prop where
  f : f < 4294967296
  uu : s.uu < 18446744073709551616
  ev : s.ev < 18446744073709551616
  role : 0 ≤ s.role ∧ s.role < 256
  c : 0 ≤ s.c ∧ s.c < 256
  k : 0 ≤ s.k ∧ s.k < 256
  r : 0 ≤ s.r ∧ s.r < 65536
  b : 0 ≤ s.b ∧ s.b < 65536
  nw : 0 ≤ s.nw ∧ s.nw < 256
  g : 0 ≤ s.g ∧ s.g < 65536
theorem Fit.of_may {s : Su} (h : may s) (hu : s.uu < 18446744073709551616) (he : s.ev < 18446744073709551616) : Fit magic s := by
  obtain ⟨⟨_, ⟨⟨c1, c2⟩, ⟨k1, k2⟩, r1, r2⟩⟩, hn, hr, hb, hg, _⟩ := h
  exact ⟨by decide, hu, he, by omega, by omega, by omega, by omega, by omega, by omega, by omega⟩
theorem Fit.fitAll {f : Nat} {s : Su} (h : Fit f s) : Pk.fitAll (nums f s) wL = true := by
  rw [Pk.fitAll_iff]
  intro j hj
  rw [Pk.fits_iff]
  obtain ⟨hf, hu, he, h3, h4, h5, h6, h8, h9, h10⟩ := h
  have e7 : (bif s.cl then 1 else 0 : Nat) ≤ 1 := by cases s.cl <;> decide
  have hj' : j < 11 := hj
  have : j = 0 ∨ j = 1 ∨ j = 2 ∨ j = 3 ∨ j = 4 ∨ j = 5 ∨ j = 6 ∨ j = 7 ∨ j = 8 ∨ j = 9 ∨ j = 10 := by omega
  rcases this with rfl | rfl | rfl | rfl | rfl | rfl | rfl | rfl | rfl | rfl | rfl <;> refine ⟨by decide, ?_⟩ <;> simp [nums, wL] <;> omega
theorem Fit.lt {f : Nat} {s : Su} (h : Fit f s) (j : Nat) : (nums f s).getD j 0 < 18446744073709551616 := by
  by_cases hj : j < 11
  · obtain ⟨hf, hu, he, h3, h4, h5, h6, h8, h9, h10⟩ := h
    have e7 : (bif s.cl then 1 else 0 : Nat) ≤ 1 := by cases s.cl <;> decide
    have : j = 0 ∨ j = 1 ∨ j = 2 ∨ j = 3 ∨ j = 4 ∨ j = 5 ∨ j = 6 ∨ j = 7 ∨ j = 8 ∨ j = 9 ∨ j = 10 := by omega
    rcases this with rfl | rfl | rfl | rfl | rfl | rfl | rfl | rfl | rfl | rfl | rfl <;> simp [nums] <;> omega
  · rw [List.getD_eq_getElem?_getD, List.getElem?_eq_none (by rw [nums_length]; exact Nat.le_of_not_lt hj)]
    decide
theorem encS_size {f : Nat} {s : Su} (h : Fit f s) : (Pk.encS (nums f s) wL).size = 31 := (Pk.encS_size wL_ok (nums_length f s) h.fitAll).trans wL_offs
theorem encE_fit {f : Nat} {s : Su} (h : Fit f s) : Pk.encE (nums f s) wL = 0 := Pk.encE_yes wL_ok (nums_length f s) h.fitAll
theorem encS_list {f : Nat} {s : Su} : (Pk.encS (nums f s) wL).data.toList = Pk.enc (nums f s) wL := by simp [Pk.encS]
theorem secT_list (s : Su) : (secT s).data.toList = Crc.sealL (Pk.enc (nums magic s) wL) 64 := by simp [secT, Crc.sealB, encS_list]
theorem enc_length {s : Su} (h : Fit magic s) : (Pk.enc (nums magic s) wL).length = 31 := by
  rw [← encS_size h]; simp [Pk.encS, ByteArray.size]
theorem secT_size {s : Su} (h : Fit magic s) : (secT s).size = 64 := by
  have : (secT s).data.toList.length = 64 := by rw [secT_list]; exact Crc.sealL_length _ 64 (by decide) (by rw [enc_length h]; decide)
  simpa using this
theorem secT_opens {s : Su} (h : Fit magic s) : Crc.opens (secT s).data.toList = true := by
  rw [secT_list]; exact Crc.opens_seal _ 64 (by decide) (by rw [enc_length h]; decide)
theorem secT_take {s : Su} (h : Fit magic s) : (secT s).data.toList.take 31 = Pk.enc (nums magic s) wL := by
  have h1 : (secT s).data.toList.take 60 = Crc.padL (Pk.enc (nums magic s) wL) 60 := by rw [secT_list]; exact Crc.sealL_take _ 64 (by rw [enc_length h]; decide)
  have h2 : (secT s).data.toList.take 31 = ((secT s).data.toList.take 60).take 31 := by rw [List.take_take]; rfl
  rw [h2, h1]
  unfold Crc.padL
  rw [List.take_append_of_le_length (by rw [enc_length h]; decide), List.take_of_length_le (by rw [enc_length h]; decide)]
theorem dec_secT {s : Su} (h : Fit magic s) : Pk.dec ((secT s).data.toList.take 31) wL = nums magic s := by
  rw [secT_take h]; exact Pk.dec_enc wL_ok (nums_length magic s) h.fitAll
theorem first_secT {s : Su} (h : Fit magic s) : first (secT s) = magic := by unfold first; rw [dec_secT h]; rfl
theorem told_secT {s : Su} (h : Fit magic s) : told (secT s) = s := by
  unfold told; rw [dec_secT h]
  obtain ⟨hf, hu, he, h3, h4, h5, h6, h8, h9, h10⟩ := h
  obtain ⟨uu, ev, role, c, k, r, cl, b, nw, g⟩ := s
  simp only [nums, List.getD_cons_succ, List.getD_cons_zero, Su.mk.injEq, true_and]
  simp only at h3 h4 h5 h6 h8 h9 h10
  refine ⟨by omega, by omega, by omega, by omega, ?_, by omega, by omega, by omega⟩
  cases cl <;> rfl
theorem decE_secT {s : Su} (h : may s) (f : Fit magic s) : decE (secT s) = 0 := by
  unfold decE
  rw [if_neg (by rw [secT_size f]; decide), secT_opens f, cond_true, if_neg (by rw [first_secT f]; decide), told_secT f]
  simp [mayB, h]
theorem decS_secT {s : Su} (h : may s) (f : Fit magic s) : decS (secT s) = s := by unfold decS; rw [if_pos (decE_secT h f), told_secT f]
theorem secT_inj {s t : Su} (hs : Fit magic s) (ht : Fit magic t) (h : secT s = secT t) : s = t := by rw [← told_secT hs, h, told_secT ht]
/-- the numbers told have room -/
theorem told_lt (b : ByteArray) (j : Nat) : (Pk.dec (b.data.toList.take 31) wL).getD j 0 < 18446744073709551616 := Pk.dec_lt _ _ _
theorem told_wd (b : ByteArray) (h : b.size = 64) (j : Nat) (hj : j < 11) : (Pk.dec (b.data.toList.take 31) wL).getD j 0 < 256 ^ Pk.wd wL j := by
  have hb : b.data.toList.length = 64 := by simpa using h
  have hl : (b.data.toList.take 31).length = Pk.offs wL wL.length := by
    rw [wL_offs, List.length_take]; omega
  exact Pk.fit_at (Pk.dec_fit wL_ok hl) hj
theorem told_fit (b : ByteArray) (h : b.size = 64) : Fit (first b) (told b) := by
  have q := told_wd b h
  have q0 := q 0 (by decide); have q1 := q 1 (by decide); have q2 := q 2 (by decide); have q3 := q 3 (by decide); have q4 := q 4 (by decide); have q5 := q 5 (by decide)
  have q6 := q 6 (by decide); have q8 := q 8 (by decide); have q9 := q 9 (by decide); have q10 := q 10 (by decide)
  simp only [show Pk.wd wL 0 = 4 from rfl, show Pk.wd wL 1 = 8 from rfl, show Pk.wd wL 2 = 8 from rfl, show Pk.wd wL 3 = 1 from rfl, show Pk.wd wL 4 = 1 from rfl, show Pk.wd wL 5 = 1 from rfl, show Pk.wd wL 6 = 2 from rfl, show Pk.wd wL 8 = 2 from rfl, show Pk.wd wL 9 = 1 from rfl, show Pk.wd wL 10 = 2 from rfl] at q0 q1 q2 q3 q4 q5 q6 q8 q9 q10
  unfold first told
  refine ⟨?_, ?_, ?_, ?_, ?_, ?_, ?_, ?_, ?_, ?_⟩ <;> (try dsimp only) <;> omega
end Sup
end Go.Proofs.Ytgkhnfchohcjeaa
