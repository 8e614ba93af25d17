/- Several texts in one. The walk of the program's own Encode of a page. The walk of the program's own Decode of a page. -/
import Derived.Test.YtlcoibfpebggoaaGreatDoorMPackA
import Derived.Test.YtlcoibfpebggoaaGreatDoorCrcSeal
import Derived.Test.YtlcoibfpebggoaaGreatDoorRef11Enc
import Derived.Test.YtlcoibfpebggoaaGreatDoorPgTrim
import Derived.Test.YtlcoibfpebggoaaGreatDoorPgSays
import Derived.Test.YtlcoibfpebggoaaGreatDoorRef11Dec
import Derived.BigQuiet
namespace Go.Proofs.YtlcoibfpebggoaaGreatDoor
open Go.RowKit

set_option maxRecDepth 100000 in
set_option maxHeartbeats 1000000 in
theorem Encode11_no (ev : Nat) (bits : ByteArray) (h : bits.size ≠ 8) (w : World) :
    Calls Tryz.prog 8 #[.agg #[.int .u64 (ev : Int), .string bits]] w fun e w' => e = .returned (.tuple #[.string ⟨#[]⟩, .int .i64 1]) ∧ Below w.heap.size w w' := by
  have hn : ((bits.size : Int) == 8) = false := by rw [beq_eq_false_iff_ne]; omega
  have hn2 : ((bits.size : Int) != 8) = true := by rw [bne_iff_ne]; omega
  go_enter Tryz.func8, Tryz.ntmps8
  go_wp2
  go_ret2
  exact ⟨rfl, (Below.refl _ w).alloc (Nat.le_refl _) _⟩

theorem penc8_any (ev : Nat) (hev : ev < 18446744073709551616) (a b : Option Addr) (ca cb : Nat) (w : World) (ha : RowI .u64 w a 1 (fun j => (([ev].getD j 0 : Nat) : Int))) (hb : RowI .i64 w b 1 (fun j => [8].getD j 0)) :
    Calls Tryz.prog 29 #[.slice a 1 ca, .slice b 1 cb] w fun e w' => e = .returned (.tuple #[.string (Pk.encS [ev] [8]), .int .i64 0]) ∧ Below w.heap.size w w' := by
  have h := Encode_any [ev] [8] (by show 1 ≤ maxLen; decide) (by show 1 ≤ maxLen; decide) (by intro j; match j with | 0 => exact hev | j + 1 => exact Nat.lt_of_le_of_lt (Nat.zero_le ev) hev) a b ca cb w ha hb
  rw [Pg.enc8_E hev] at h
  exact h
set_option maxRecDepth 100000 in
set_option maxHeartbeats 1000000 in
theorem Encode11_yes (ev : Nat) (hev : ev < 18446744073709551616) (bits : ByteArray) (h : bits.size = 8) (w : World) :
    Calls Tryz.prog 8 #[.agg #[.int .u64 (ev : Int), .string bits]] w fun e w' => e = .returned (.tuple #[.string (Pg.secT ⟨ev, bits⟩), .int .i64 0]) ∧ Below w.heap.size w w' := by
  have hn : ((bits.size : Int) == 8) = true := by rw [h]; rfl
  have hn2 : ((bits.size : Int) != 8) = false := by rw [h]; rfl
  have hq := Pg.enc8_size hev
  have hP := penc8_any ev hev
  obtain ⟨q, eq⟩ : ∃ q, q = Pk.encS [ev] [8] := ⟨_, rfl⟩
  rw [← eq] at hq hP
  have HS : Hid (Pg.secT ⟨ev, bits⟩ = Crc.sealB (Pg.magicB ++ q ++ bits) 64) := by show _ = _; unfold Pg.secT Pg.bodyB; rw [eq]
  have HZ : Hid ((Pg.magicB ++ q ++ bits).size ≤ 60) := by show _ ≤ _; rw [ByteArray.size_append, ByteArray.size_append, hq, h]; decide
  have HEQ : Hid (q = Pk.encS [ev] [8]) := eq
  have HV : Hid (ev < 18446744073709551616) := hev
  have HP : Hid _ := hP
  have hq8 : q.size ≤ 8 := by omega
  have hb8 : bits.size ≤ 8 := by omega
  clear eq h hev hq hP
  go_enter Tryz.func8, Tryz.ntmps8
  go_wp2_with fail
  refine (HP.out _ _ _ _ _ (rows8 w ev _ _ _).1 (rows8 w ev _ _ _).2).mono ?_
  rintro e w1 ⟨rfl, hb1⟩
  have hb : Below (w.alloc (.cells #[.int .u64 (ev : Int), .string bits] 24)).heap.size (w.alloc (.cells #[.int .u64 (ev : Int), .string bits] 24)) w1 :=
    ((((Below.refl _ _).alloc (Nat.le_refl _) _).alloc (by simp) _).trans (hb1.mono (by simp)))
  obtain ⟨_, c1⟩ := pg_cells hb
  have HB : Hid (Below w.heap.size w w1) := ((Below.refl _ w).alloc (Nat.le_refl _) _).trans (hb.mono (by simp))
  clear hb hb1
  go_wp2_with fail
  refine (Seal_yes _ 64 (by decide) (by decide) HZ.out _).mono ?_
  rw [show (({ data := #[82, 86, 84, 66] } : ByteArray) ++ q ++ bits) = Pg.magicB ++ q ++ bits from rfl, ← HS.out]
  rintro e w2 ⟨rfl, hb2⟩
  have HB2 : Hid (Below w.heap.size w w2) := HB.out.trans (hb2.mono HB.out.size)
  clear hb2
  go_wp2
  go_ret2
  exact ⟨rfl, HB2.out⟩
/-- the program's own Encode of any page -/
theorem Encode11_any (p : Pge) (hev : p.ev < 18446744073709551616) (w : World) :
    Calls Tryz.prog 8 #[pgV p] w fun e w' => e = .returned (.tuple #[.string (Pg.encT p), .int .i64 (Pg.encE p : Nat)]) ∧ Below w.heap.size w w' := by
  obtain ⟨ev, bits⟩ := p
  by_cases h : bits.size = 8
  · have e1 : Pg.encT ⟨ev, bits⟩ = Pg.secT ⟨ev, bits⟩ := if_pos h
    have e2 : Pg.encE ⟨ev, bits⟩ = 0 := if_pos h
    rw [e1, e2]
    exact Encode11_yes ev hev bits h w
  · have e1 : Pg.encT ⟨ev, bits⟩ = ⟨#[]⟩ := if_neg h
    have e2 : Pg.encE ⟨ev, bits⟩ = 1 := if_neg h
    rw [e1, e2]
    exact Encode11_no ev bits h w
end Go.Proofs.YtlcoibfpebggoaaGreatDoor

namespace Go.Proofs.YtlcoibfpebggoaaGreatDoor
open Go.RowKit

theorem pdec8_any (u : ByteArray) (h : u.size = 8) (b : Option Addr) (cb : Nat) (w : World) (hb : RowI .i64 w b 1 (fun j => [8].getD j 0)) :
    Calls Tryz.prog 36 #[.string u, .slice b 1 cb] w fun e w' => ∃ a cap, e = .returned (.tuple #[.slice a 1 cap, .int .i64 0]) ∧ RowI .u64 w' a 1 (fun _ => (((Pk.dec u.data.toList [8]).getD 0 0 : Nat) : Int)) ∧ Below w.heap.size w w' := by
  have hl : u.data.toList.length = Pk.offs [8] [8].length := by rw [Pg.list_size, h]; rfl
  have hx := Decode_any u [8] (by rw [h]; unfold maxLen; decide) (by show 1 ≤ maxLen; decide) b cb w hb
  have e1 := Pk.decE_yes Pg.w8_ok hl
  have e2 : (Pk.dec u.data.toList [8]).length = 1 := Pk.dec_length Pg.w8_ok hl
  refine hx.mono ?_
  rintro e w' ⟨a, cap, he, hr, hbb⟩
  rw [e1, e2] at he
  rw [e2] at hr
  refine ⟨a, cap, he, fun j hj => ?_, hbb⟩
  have : j = 0 := by omega
  subst this
  exact hr 0 hj
/-- the first four bytes are cut off, if they are those of a page -/
theorem cut_yes (t : ByteArray) (h : t.extract 0 4 = Pg.magicB) (w : World) :
    Calls Tryz.prog 34 #[.string t, .string ⟨#[82, 86, 84, 66]⟩] w fun e w' => e = .returned (.tuple #[.string (Pg.tail4 t), .bool true]) ∧ w' = w := by
  have hh : Lib.hasPrefix t.data.toList [82, 86, 84, 66] = true := by rw [Pg.has_magic]; exact decide_eq_true h
  have hc := Tryz.strings_CutPrefix t ⟨#[82, 86, 84, 66]⟩ w
  rw [show (⟨#[82, 86, 84, 66]⟩ : ByteArray).data.toList = [82, 86, 84, 66] from rfl, hh, Pg.cut_magic hh] at hc
  exact hc
theorem cut_no (t : ByteArray) (h : t.extract 0 4 ≠ Pg.magicB) (w : World) :
    Calls Tryz.prog 34 #[.string t, .string ⟨#[82, 86, 84, 66]⟩] w fun e w' => e = .returned (.tuple #[.string t, .bool false]) ∧ w' = w := by
  have hh : Lib.hasPrefix t.data.toList [82, 86, 84, 66] = false := by rw [Pg.has_magic]; exact decide_eq_false h
  have hc := Tryz.strings_CutPrefix t ⟨#[82, 86, 84, 66]⟩ w
  rw [show (⟨#[82, 86, 84, 66]⟩ : ByteArray).data.toList = [82, 86, 84, 66] from rfl, hh, show (⟨(Lib.trimPrefix t.data.toList [82, 86, 84, 66]).toArray⟩ : ByteArray) = t from by unfold Lib.trimPrefix; rw [hh]; exact Pg.eq_of_list (by simp)] at hc
  exact hc
theorem trim_zero (r : ByteArray) (hr : r.size ≤ 100) (w : World) :
    Calls Tryz.prog 35 #[.string r, .string ⟨#[0]⟩] w fun e w' => e = .returned (.string ⟨(Lib.trimB r.data.toList 0).toArray⟩) ∧ Below w.heap.size w w' := by
  refine (Tryz.strings_Trim_one r 0 (by decide) w (by omega)).mono ?_
  rintro e w' ⟨rfl, hw⟩
  refine ⟨rfl, ?_⟩
  rcases hw with rfl | rfl
  · exact Below.refl _ _
  · exact (Below.refl _ _).drew

set_option maxRecDepth 100000 in
set_option maxHeartbeats 1000000 in
theorem Decode11_short (b : ByteArray) (h : b.size ≠ 64) (w : World) :
    Calls Tryz.prog 10 #[.string b] w fun e w' => e = .returned (.tuple #[pgV Pg.none, .int .i64 31]) ∧ Below w.heap.size w w' := by
  have hn : ((b.size : Int) != 64) = true := by rw [bne_iff_ne]; omega
  go_enter Tryz.func10, Tryz.ntmps10
  go_wp2
  refine bodyPost_ret (ret_cell_tmp rfl _ _ ⟨w.heap.size, 0, none⟩ (pgV Pg.none) rfl (by go_simp; rfl)) rfl ?_
  exact ⟨rfl, (Below.refl _ w).alloc (Nat.le_refl _) _⟩

set_option maxRecDepth 100000 in
set_option maxHeartbeats 1000000 in
theorem Decode11_sum (b : ByteArray) (h : b.size = 64) (ho : Crc.opens b.data.toList = false) (w : World) :
    Calls Tryz.prog 10 #[.string b] w fun e w' => e = .returned (.tuple #[pgV Pg.none, .int .i64 80]) ∧ Below w.heap.size w w' := by
  have hn : ((b.size : Int) != 64) = false := by rw [bne_eq_false_iff_eq]; omega
  have HO := fun W => Open_no b (by omega) ho W
  clear h ho
  go_enter Tryz.func10, Tryz.ntmps10
  go_wp2_with fail
  refine (HO _).mono ?_
  rintro e w1 ⟨rfl, hb1⟩
  obtain ⟨c0, c1⟩ := pg_cells hb1
  have f0 := pg_free hb1 0
  have f1 := pg_free hb1 1
  have HB : Hid (Below w.heap.size w w1) := ((Below.refl _ w).alloc (Nat.le_refl _) _).trans (hb1.mono (by simp))
  clear hb1 HO
  go_wp2
  refine bodyPost_ret (ret_cell_tmp rfl _ _ ⟨w.heap.size, 0, none⟩ (pgV Pg.none) rfl (by go_simp; rfl)) rfl ?_
  exact ⟨rfl, pg_stored HB.out (Nat.le_refl _) HB.out.size _ _⟩

set_option maxRecDepth 100000 in
set_option maxHeartbeats 1000000 in
theorem Decode11_magic (b t : ByteArray) (h : b.size = 64) (ho : Crc.opens b.data.toList = true) (ht : Crc.headB b = t) (hf : t.extract 0 4 ≠ Pg.magicB) (w : World) :
    Calls Tryz.prog 10 #[.string b] w fun e w' => e = .returned (.tuple #[pgV Pg.none, .int .i64 81]) ∧ Below w.heap.size w w' := by
  have hn : ((b.size : Int) != 64) = false := by rw [bne_eq_false_iff_eq]; omega
  have HO := fun W => Open_yes b (by omega) ho W
  have HC := fun W => cut_no t hf W
  rw [ht] at HO
  clear h ho ht hf
  go_enter Tryz.func10, Tryz.ntmps10
  go_wp2_with fail
  refine (HO _).mono ?_
  rintro e w1 ⟨rfl, hb1⟩
  obtain ⟨c0, c1⟩ := pg_cells hb1
  have f0 := pg_free hb1 0
  have f1 := pg_free hb1 1
  have HB : Hid (Below w.heap.size w w1) := ((Below.refl _ w).alloc (Nat.le_refl _) _).trans (hb1.mono (by simp))
  clear hb1 HO
  go_wp2_with fail
  refine (HC _).mono ?_
  rintro e w2 ⟨rfl, rfl⟩
  clear HC
  go_wp2
  refine bodyPost_ret (ret_cell_tmp rfl _ _ ⟨w.heap.size, 0, none⟩ (pgV Pg.none) rfl (by go_simp; rfl)) rfl ?_
  exact ⟨rfl, pg_stored HB.out (Nat.le_refl _) HB.out.size _ _⟩

set_option maxRecDepth 100000 in
set_option maxHeartbeats 2000000 in
theorem Decode11_arg (b t : ByteArray) (h : b.size = 64) (ho : Crc.opens b.data.toList = true) (ht : Crc.headB b = t) (hf : t.extract 0 4 = Pg.magicB) (hr : Pg.restB t = false) (w : World) :
    Calls Tryz.prog 10 #[.string b] w fun e w' => e = .returned (.tuple #[pgV Pg.none, .int .i64 1]) ∧ Below w.heap.size w w' := by
  have hn : ((b.size : Int) != 64) = false := by rw [bne_eq_false_iff_eq]; omega
  have HO := fun W => Open_yes b (by omega) ho W
  have ts : t.size = 60 := by rw [← ht]; exact Pg.head_size h
  rw [ht] at HO
  have HC := fun W => cut_yes t hf W
  obtain ⟨q, hq⟩ : ∃ q, q = Pg.tail4 t := ⟨_, rfl⟩
  have q56 : (q.size : Int) = 56 := by rw [hq, Pg.tail4_size ts]; rfl
  have x1 : q.extract 0 8 = t.extract 4 12 := by rw [hq, Pg.tail4_at]
  have x2 : q.extract 8 q.size = t.extract 12 60 := by rw [hq, Pg.tail4_at, Pg.tail4_size ts]
  have x2b : q.extract 8 56 = t.extract 12 60 := by rw [hq, Pg.tail4_at]
  obtain ⟨r, hr1⟩ : ∃ r, r = t.extract 12 60 := ⟨_, rfl⟩
  have r48 : (r.size : Int) = 48 := by rw [hr1, ByteArray.size_extract, ts]; rfl
  have x3 : r.extract 0 8 = t.extract 12 20 := by rw [hr1, Pg.part_part t 12 60 0 8 (by decide)]
  have x4 : r.extract 8 48 = t.extract 20 60 := by rw [hr1, Pg.part_part t 12 60 8 48 (by decide)]
  have r48n : r.size = 48 := by omega
  have q56n : q.size = 56 := by omega
  rw [← hr1] at x2 x2b
  obtain ⟨s, hs1⟩ : ∃ s, s = t.extract 20 60 := ⟨_, rfl⟩
  rw [← hs1] at x4
  have s40 : s.size ≤ 100 := by rw [hs1, ByteArray.size_extract, ts]; decide
  have HT := fun W => trim_zero s s40 W
  obtain ⟨z, hz⟩ : ∃ z : ByteArray, z = ⟨(Lib.trimB s.data.toList 0).toArray⟩ := ⟨_, rfl⟩
  have hzr : z = ⟨#[]⟩ ↔ Pg.restB t = true := by rw [hz, hs1]; exact Pg.rest_trim ts
  rw [← hz] at HT
  rw [← hq] at HC
  obtain ⟨u, hu1⟩ : ∃ u, u = t.extract 4 12 := ⟨_, rfl⟩
  rw [← hu1] at x1
  obtain ⟨v8, hv8⟩ : ∃ v8, v8 = t.extract 12 20 := ⟨_, rfl⟩
  rw [← hv8] at x3
  have hzn : (z.toList == []) = false := by
    have e0 := Pg.tx_eq z ⟨#[]⟩
    rw [show (⟨#[]⟩ : ByteArray).toList = [] by rw [ByteArray.toList_eq]] at e0
    rw [e0]
    exact decide_eq_false fun e => by rw [hzr.1 e] at hr; cases hr
  clear h ho ht hf hr hq hr1 hs1 hz hzr hu1 hv8 ts s40
  go_enter Tryz.func10, Tryz.ntmps10
  go_wp2_with fail
  refine (HO _).mono ?_
  rintro e w1 ⟨rfl, hb1⟩
  obtain ⟨c0, c1⟩ := pg_cells hb1
  have f0 := pg_free hb1 0
  have f1 := pg_free hb1 1
  have HB : Hid (Below w.heap.size w w1) := ((Below.refl _ w).alloc (Nat.le_refl _) _).trans (hb1.mono (by simp))
  clear hb1 HO
  go_wp2_with fail
  refine (HC _).mono ?_
  rintro e w2 ⟨rfl, hw2⟩
  subst hw2
  clear HC
  go_wp2
  go_quiet (fail)
  go_wp2
  go_quiet (fail)
  go_wp2_with fail
  refine (HT _).mono ?_
  rintro e w3 ⟨rfl, b3⟩
  have b4 : Below w2.heap.size w2 w3 := (below_drewN (Below.refl _ _) _).trans (b3.mono (below_drewN (Below.refl w2.heap.size w2) _).size)
  have hlw : w.heap.size < w2.heap.size := World.block_lt_of_cell? w2 _ c0
  have d0 := (b4.cell (p := ⟨w.heap.size, 0, none⟩) hlw).trans c0
  have d1 := (b4.cell (p := ⟨w.heap.size, 1, none⟩) hlw).trans c1
  have g0 := (b4.frozen (p := ⟨w.heap.size, 0, none⟩) hlw).trans f0
  have g1 := (b4.frozen (p := ⟨w.heap.size, 1, none⟩) hlw).trans f1
  have HB2 : Hid (Below w.heap.size w w3) := HB.out.trans (b4.mono HB.out.size)
  clear b3 b4 hlw c0 c1 f0 f1 HT
  go_wp2
  refine bodyPost_ret (ret_cell_tmp rfl _ _ ⟨w.heap.size, 0, none⟩ (pgV Pg.none) rfl (by go_simp; rfl)) rfl ?_
  exact ⟨rfl, pg_stored HB2.out (Nat.le_refl _) HB2.out.size _ _⟩

set_option maxRecDepth 100000 in
set_option maxHeartbeats 2000000 in
theorem Decode11_good (b t : ByteArray) (v : Nat) (hv : (Pk.dec (t.extract 4 12).data.toList [8]).getD 0 0 = v) (h : b.size = 64) (ho : Crc.opens b.data.toList = true) (ht : Crc.headB b = t) (hf : t.extract 0 4 = Pg.magicB) (hr : Pg.restB t = true) (w : World) :
    Calls Tryz.prog 10 #[.string b] w fun e w' => e = .returned (.tuple #[pgV ⟨v, t.extract 12 20⟩, .int .i64 0]) ∧ Below w.heap.size w w' := by
  have hn : ((b.size : Int) != 64) = false := by rw [bne_eq_false_iff_eq]; omega
  have HO := fun W => Open_yes b (by omega) ho W
  have ts : t.size = 60 := by rw [← ht]; exact Pg.head_size h
  rw [ht] at HO
  have HC := fun W => cut_yes t hf W
  obtain ⟨q, hq⟩ : ∃ q, q = Pg.tail4 t := ⟨_, rfl⟩
  have q56 : (q.size : Int) = 56 := by rw [hq, Pg.tail4_size ts]; rfl
  have x1 : q.extract 0 8 = t.extract 4 12 := by rw [hq, Pg.tail4_at]
  have x2 : q.extract 8 q.size = t.extract 12 60 := by rw [hq, Pg.tail4_at, Pg.tail4_size ts]
  have x2b : q.extract 8 56 = t.extract 12 60 := by rw [hq, Pg.tail4_at]
  obtain ⟨r, hr1⟩ : ∃ r, r = t.extract 12 60 := ⟨_, rfl⟩
  have r48 : (r.size : Int) = 48 := by rw [hr1, ByteArray.size_extract, ts]; rfl
  have x3 : r.extract 0 8 = t.extract 12 20 := by rw [hr1, Pg.part_part t 12 60 0 8 (by decide)]
  have x4 : r.extract 8 48 = t.extract 20 60 := by rw [hr1, Pg.part_part t 12 60 8 48 (by decide)]
  have r48n : r.size = 48 := by omega
  have q56n : q.size = 56 := by omega
  rw [← hr1] at x2 x2b
  obtain ⟨s, hs1⟩ : ∃ s, s = t.extract 20 60 := ⟨_, rfl⟩
  rw [← hs1] at x4
  have s40 : s.size ≤ 100 := by rw [hs1, ByteArray.size_extract, ts]; decide
  have HT := fun W => trim_zero s s40 W
  obtain ⟨z, hz⟩ : ∃ z : ByteArray, z = ⟨(Lib.trimB s.data.toList 0).toArray⟩ := ⟨_, rfl⟩
  have hzr : z = ⟨#[]⟩ ↔ Pg.restB t = true := by rw [hz, hs1]; exact Pg.rest_trim ts
  rw [← hz] at HT
  rw [← hq] at HC
  obtain ⟨u, hu1⟩ : ∃ u, u = t.extract 4 12 := ⟨_, rfl⟩
  rw [← hu1] at x1
  obtain ⟨v8, hv8⟩ : ∃ v8, v8 = t.extract 12 20 := ⟨_, rfl⟩
  rw [← hv8] at x3
  have hu8 : u.size = 8 := by rw [hu1, ByteArray.size_extract, ts]; rfl
  rw [← hu1] at hv
  have hD := pdec8_any u hu8
  have hvl : v < 18446744073709551616 := by rw [← hv]; exact Pg.dec8_lt _
  rw [hv] at hD
  have HD : Hid _ := hD
  have hz0 := hzr.2 hr
  rw [← hv8]
  clear h ho ht hf hr hq hr1 hs1 hz hzr hu1 hv8 ts s40 hD hv hu8
  subst hz0
  go_enter Tryz.func10, Tryz.ntmps10
  go_wp2_with fail
  refine (HO _).mono ?_
  rintro e w1 ⟨rfl, hb1⟩
  obtain ⟨c0, c1⟩ := pg_cells hb1
  have f0 := pg_free hb1 0
  have f1 := pg_free hb1 1
  have HB : Hid (Below w.heap.size w w1) := ((Below.refl _ w).alloc (Nat.le_refl _) _).trans (hb1.mono (by simp))
  clear hb1 HO
  go_wp2_with fail
  refine (HC _).mono ?_
  rintro e w2 ⟨rfl, hw2⟩
  subst hw2
  clear HC
  go_wp2
  go_quiet (fail)
  go_wp2
  go_quiet (fail)
  go_wp2_with fail
  refine (HT _).mono ?_
  rintro e w3 ⟨rfl, b3⟩
  have b4 : Below w2.heap.size w2 w3 := (below_drewN (Below.refl _ _) _).trans (b3.mono (below_drewN (Below.refl w2.heap.size w2) _).size)
  have hlw : w.heap.size < w2.heap.size := World.block_lt_of_cell? w2 _ c0
  have d0 := (b4.cell (p := ⟨w.heap.size, 0, none⟩) hlw).trans c0
  have d1 := (b4.cell (p := ⟨w.heap.size, 1, none⟩) hlw).trans c1
  have g0 := (b4.frozen (p := ⟨w.heap.size, 0, none⟩) hlw).trans f0
  have g1 := (b4.frozen (p := ⟨w.heap.size, 1, none⟩) hlw).trans f1
  have HB2 : Hid (Below w.heap.size w w3) := HB.out.trans (b4.mono HB.out.size)
  clear b3 b4 hlw c0 c1 f0 f1 HT
  go_wp2_with fail
  refine (HD.out _ _ _ (row1I _ 8 _)).mono ?_
  rintro e w4 ⟨a, cap, rfl, hR, hb4⟩
  obtain ⟨b1, o1, rfl, hc⟩ := hR 0 (by decide)
  have hbb : Below w3.heap.size w3 w4 := ((Below.refl _ w3).alloc (Nat.le_refl _) _).trans (hb4.mono (by simp))
  have hlw : w.heap.size < w3.heap.size := World.block_lt_of_cell? w3 _ d0
  have c0 := (hbb.cell (p := ⟨w.heap.size, 0, none⟩) hlw).trans d0
  have c1 := (hbb.cell (p := ⟨w.heap.size, 1, none⟩) hlw).trans d1
  have f0 := (hbb.frozen (p := ⟨w.heap.size, 0, none⟩) hlw).trans g0
  have f1 := (hbb.frozen (p := ⟨w.heap.size, 1, none⟩) hlw).trans g1
  have HB4 : Hid (Below w.heap.size w w4) := HB2.out.trans (hbb.mono HB2.out.size)
  rw [Nat.add_zero] at hc
  clear hR hb4 hbb hlw d0 d1 g0 g1
  go_wp2
  refine bodyPost_ret (ret_cell_tmp rfl _ _ ⟨w.heap.size, 0, none⟩ (pgV ⟨v, v8⟩) rfl (by go_simp; rfl)) rfl ?_
  exact ⟨rfl, pg_stored HB4.out (Nat.le_refl _) HB4.out.size _ _⟩

/-- the program's own Decode of any text -/
theorem Decode11_any (b : ByteArray) (w : World) :
    Calls Tryz.prog 10 #[.string b] w fun e w' => e = .returned (.tuple #[pgV (Pg.decS b), .int .i64 (Pg.decE b : Nat)]) ∧ Below w.heap.size w w' := by
  by_cases h : b.size = 64
  · cases ho : Crc.opens b.data.toList with
    | false =>
      rw [Pg.decS_bad (Pg.decE_sum h ho) (by decide), Pg.decE_sum h ho]
      exact Decode11_sum b h ho w
    | true =>
      by_cases hf : (Crc.headB b).extract 0 4 = Pg.magicB
      · cases hr : Pg.restB (Crc.headB b) with
        | false =>
          rw [Pg.decS_bad (Pg.decE_arg h ho hf hr) (by decide), Pg.decE_arg h ho hf hr]
          exact Decode11_arg b _ h ho rfl hf hr w
        | true =>
          rw [Pg.decS_good (Pg.decE_good h ho hf hr), Pg.decE_good h ho hf hr]
          exact Decode11_good b _ _ rfl h ho rfl hf hr w
      · rw [Pg.decS_bad (Pg.decE_magic h ho hf) (by decide), Pg.decE_magic h ho hf]
        exact Decode11_magic b _ h ho rfl hf w
  · rw [Pg.decS_bad (Pg.decE_short h) (by decide), Pg.decE_short h]
    exact Decode11_short b h w
/-- what is asked of the program's Encode and Decode -/
theorem pg_says : PgSays := ⟨Encode11_any, Decode11_any⟩
end Go.Proofs.YtlcoibfpebggoaaGreatDoor
