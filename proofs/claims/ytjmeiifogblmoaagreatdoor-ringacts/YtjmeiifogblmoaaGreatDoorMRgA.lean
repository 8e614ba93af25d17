/- Several texts in one. When a sector is a journal's mark, as the program takes it: plain. The walks of the program's own numbers of a journal: how many sectors, how many slots, where one begins. -/
import Derived.Test.YtjmeiifogblmoaaGreatDoorMRiA
import Derived.Test.YtjmeiifogblmoaaGreatDoorMRkB
import Derived.Test.YtjmeiifogblmoaaGreatDoorDrvStep
import Derived.Test.YtjmeiifogblmoaaGreatDoorRef13
namespace Go.Proofs.YtjmeiifogblmoaaGreatDoor

namespace Ri
theorem mark_list {m : Nat} (hm : m < 18446744073709551616) : (markB m).data.toList = ((magicB ++ Pk.encS [m] [8]).data.toList ++ List.replicate 48 0) ++ Crc.fourL (Crc.more 0 ((magicB ++ Pk.encS [m] [8]).data.toList ++ List.replicate 48 0)) := by
  rw [markB_list]
  have hl : (magicB ++ Pk.encS [m] [8]).data.toList.length = 12 := by rw [Pg.list_size, mark_size hm]
  unfold Crc.sealL Crc.padL
  rw [hl]
/-- a mark, and what is in it -/
theorem mark_head {m : Nat} (hm : m < 18446744073709551616) : (Crc.headB (markB m)).data.toList = (magicB ++ Pk.encS [m] [8]).data.toList ++ List.replicate 48 0 := by
  unfold markB
  rw [Crc.headB_seal _ 64 (by decide) (by rw [mark_size hm]; decide)]
  have hl : (magicB ++ Pk.encS [m] [8]).data.toList.length = 12 := by rw [Pg.list_size, mark_size hm]
  show Crc.padL _ 60 = _
  unfold Crc.padL
  rw [hl]
theorem told_lt (b : ByteArray) : told b < 18446744073709551616 := Pg.dec8_lt _
/-- a sector that opens, begins by the magic, and ends by bytes 0, is the mark of the number it tells -/
theorem mark_again {b t : ByteArray} (h : b.size = 64) (ho : Crc.opens b.data.toList = true) (ht : Crc.headB b = t) (hf : t.extract 0 4 = magicB) : decide (b = markB (told b)) = Rc.zeroFrom t 12 := by
  have ts : t.size = 60 := by rw [← ht]; exact Pg.head_size h
  have hbl : b.data.toList.length = 64 := by rw [Pg.list_size, h]
  have htl : t.data.toList = b.data.toList.take 60 := by rw [← ht]; unfold Crc.headB; rw [Pg.extract_list, h]; rfl
  have htl60 : t.data.toList.length = 60 := by rw [Pg.list_size, ts]
  have hb : b.data.toList = t.data.toList ++ Crc.fourL (Crc.more 0 t.data.toList) := by
    unfold Crc.opens at ho
    rw [Bool.and_eq_true, hbl] at ho
    have e := eq_of_beq ho.2
    rw [htl, ← e]
    exact (List.take_append_drop 60 _).symm
  have hm := told_lt b
  have hl8 : (t.extract 4 12).data.toList.length = Pk.offs [8] [8].length := by rw [Pg.extract_list, List.length_take, List.length_drop, htl60]; rfl
  have h1 : (Pk.dec (t.extract 4 12).data.toList [8]).length = 1 := Pk.dec_length Pg.w8_ok hl8
  have he : [told b] = Pk.dec (t.extract 4 12).data.toList [8] := by
    unfold told
    rw [ht]
    generalize Pk.dec (t.extract 4 12).data.toList [8] = l at h1
    match l, h1 with
    | [a], _ => rfl
  have hbody : (magicB ++ Pk.encS [told b] [8]).data.toList = t.data.toList.take 12 := by
    rw [ByteArray.data_append, Array.toList_append, he, Pk.encS, Pk.enc_dec Pg.w8_ok hl8, ← hf, Pg.extract_list, Pg.extract_list]
    rw [show (12 : Nat) = 4 + 8 by decide, List.take_add]
    simp
  rw [Bool.eq_iff_iff, decide_eq_true_iff, Rc.zeroFrom_iff, ts]
  have hml := mark_list hm
  rw [hbody] at hml
  have hbs : (t.data.toList.take 12).length = 12 := by rw [List.length_take, htl60]; rfl
  constructor
  · intro e
    have e1 : b.data.toList = (markB (told b)).data.toList := congrArg (fun x : ByteArray => x.data.toList) e
    rw [hml, hb] at e1
    have e2 := List.append_inj_left e1 (by rw [List.length_append, hbs, List.length_replicate, htl60])
    have e3 : t.data.toList.take 12 ++ t.data.toList.drop 12 = t.data.toList.take 12 ++ List.replicate 48 0 := by rw [← e2, List.take_append_drop]
    exact List.append_cancel_left e3
  · intro e
    apply Pg.eq_of_list
    have e2 : List.replicate 48 0 = t.data.toList.drop 12 := e.symm
    rw [hml, hb, e2, List.take_append_drop]
theorem isMark_no {b : ByteArray} (ho : Crc.opens b.data.toList = false) : isMark b = false := by unfold isMark; rw [ho]; rfl
theorem isMark_magic {b : ByteArray} (hf : (Crc.headB b).extract 0 4 ≠ magicB) : isMark b = false := by
  unfold isMark
  have : b ≠ markB (told b) := fun e => hf (by
    have hm := told_lt b
    apply Pg.eq_of_list
    rw [e, Pg.extract_list, mark_head hm, ByteArray.data_append, Array.toList_append]
    rfl)
  rw [decide_eq_false this, Bool.and_false]
theorem isMark_rest {b t : ByteArray} (h : b.size = 64) (ho : Crc.opens b.data.toList = true) (ht : Crc.headB b = t) (hf : t.extract 0 4 = magicB) : isMark b = Rc.zeroFrom t 12 := by
  unfold isMark; rw [ho, Bool.true_and]; exact mark_again h ho ht hf
theorem has_magic (t : ByteArray) : Lib.hasPrefix t.data.toList [82, 86, 84, 77] = decide (t.extract 0 4 = magicB) := by
  unfold Lib.hasPrefix
  rw [Bool.eq_iff_iff, List.isPrefixOf_iff_prefix, decide_eq_true_iff, List.prefix_iff_eq_take]
  have e : (t.extract 0 4).data.toList = t.data.toList.take 4 := by rw [Pg.extract_list]; rfl
  constructor
  · intro hp; exact Pg.eq_of_list (by rw [e, ← show _ = t.data.toList.take 4 from hp]; rfl)
  · intro hp; rw [hp] at e; exact e
theorem cut_magic {t : ByteArray} (h : Lib.hasPrefix t.data.toList [82, 86, 84, 77] = true) : (⟨(Lib.trimPrefix t.data.toList [82, 86, 84, 77]).toArray⟩ : ByteArray) = Pg.tail4 t := by
  unfold Lib.trimPrefix Pg.tail4
  rw [if_pos h]; rfl
end Ri
theorem cut13_yes (t : ByteArray) (h : t.extract 0 4 = Ri.magicB) (w : World) :
    Calls Tryz.prog 89 #[.string t, .string ⟨#[82, 86, 84, 77]⟩] w fun e w' => e = .returned (.tuple #[.string (Pg.tail4 t), .bool true]) ∧ w' = w := by
  have hh : Lib.hasPrefix t.data.toList [82, 86, 84, 77] = true := by rw [Ri.has_magic]; exact decide_eq_true h
  have hc := Tryz.strings_CutPrefix t ⟨#[82, 86, 84, 77]⟩ w
  rw [show (⟨#[82, 86, 84, 77]⟩ : ByteArray).data.toList = [82, 86, 84, 77] from rfl, hh, Ri.cut_magic hh] at hc
  exact hc
theorem cut13_no (t : ByteArray) (h : t.extract 0 4 ≠ Ri.magicB) (w : World) :
    Calls Tryz.prog 89 #[.string t, .string ⟨#[82, 86, 84, 77]⟩] w fun e w' => e = .returned (.tuple #[.string t, .bool false]) ∧ w' = w := by
  have hh : Lib.hasPrefix t.data.toList [82, 86, 84, 77] = false := by rw [Ri.has_magic]; exact decide_eq_false h
  have hc := Tryz.strings_CutPrefix t ⟨#[82, 86, 84, 77]⟩ w
  rw [show (⟨#[82, 86, 84, 77]⟩ : ByteArray).data.toList = [82, 86, 84, 77] from rfl, hh, show (⟨(Lib.trimPrefix t.data.toList [82, 86, 84, 77]).toArray⟩ : ByteArray) = t from by unfold Lib.trimPrefix; rw [hh]; exact Pg.eq_of_list (by simp)] at hc
  exact hc
end Go.Proofs.YtjmeiifogblmoaaGreatDoor

namespace Go.Proofs.YtjmeiifogblmoaaGreatDoor
open Go.RowKit

set_option maxRecDepth 100000 in
set_option maxHeartbeats 400000 in
theorem Sectors_any {w : World} {p : Nat} {D : Dr} {F : Nat → Prop} (h : DriveAt w p D F) :
    Calls Tryz.prog 41 #[.pointer (some ⟨p, 0, none⟩)] w fun e w' => e = .returned (.int .i64 (D.safe.length : Nat)) ∧ w' = w := by
  obtain ⟨sb, pb, mb, hd, hin, _⟩ := h
  have hc := hin.cells
  have c0 := hc.c0
  obtain ⟨n, hn⟩ : ∃ n, n = D.safe.length := ⟨_, rfl⟩
  rw [← hn] at c0 ⊢
  clear hc hin hn
  go_enter Tryz.func41, Tryz.ntmps41
  go_wp2
  go_ret
  exact ⟨rfl, rfl⟩
set_option maxRecDepth 100000 in
set_option maxHeartbeats 400000 in
theorem Slots_any (n : Nat) (hn : n ≤ 1000000) (w : World) : Calls Tryz.prog 14 #[.int .i64 (n : Nat)] w fun e w' => e = .returned (.int .i64 (Ri.slots n : Nat)) ∧ w' = w := by
  by_cases h : n < 4
  · have hs : Ri.slots n = 0 := by unfold Ri.slots; omega
    have h1 : (n : Int) < 4 := by omega
    rw [hs]
    clear hs h
    go_enter Tryz.func14, Tryz.ntmps14
    go_wp2
    go_ret
    exact ⟨rfl, rfl⟩
  · have h1 : ¬ (n : Int) < 4 := by omega
    obtain ⟨m, hm⟩ : ∃ m : Nat, (n : Int) - 4 = (m : Int) := ⟨n - 4, by omega⟩
    have hs : ((Ri.slots n : Nat) : Int) = ((m / 41 : Nat) : Int) := by unfold Ri.slots; omega
    have hd := tdiv41 m
    obtain ⟨q, hq⟩ : ∃ q, q = m / 41 := ⟨_, rfl⟩
    rw [← hq] at hs hd
    have hq1 : q ≤ 1000000 := by omega
    rw [hs]
    clear hs h hq
    go_enter Tryz.func14, Tryz.ntmps14
    go_wp2
    go_ret
    exact ⟨rfl, rfl⟩
set_option maxRecDepth 100000 in
set_option maxHeartbeats 400000 in
theorem gfirst_any (k : Nat) (hk : k ≤ 1000000) (w : World) : Calls Tryz.prog 43 #[.int .i64 (k : Nat)] w fun e w' => e = .returned (.int .i64 ((4 + 41 * k : Nat) : Int)) ∧ w' = w := by
  obtain ⟨m, hm⟩ : ∃ m, m = 41 * k := ⟨_, rfl⟩
  have h1 : (41 : Int) * (k : Int) = (m : Int) := by omega
  obtain ⟨z, hz⟩ : ∃ z, z = 4 + 41 * k := ⟨_, rfl⟩
  have h2 : (4 : Int) + (m : Int) = (z : Int) := by omega
  have hb : z ≤ 100000000 := by omega
  rw [← hz]
  clear hz hm hk
  go_enter Tryz.func43, Tryz.ntmps43
  go_wp2
  go_ret
  exact ⟨rfl, rfl⟩

/-- the program's own ring: its drive, the trimmed number, how many numbers behind it are held -/
def GRing (w : World) (rp dp t c : Nat) : Prop := w.heap[rp]? = some (.cells #[.pointer (some ⟨dp, 0, none⟩), .int .u64 (t : Int), .int .u64 (c : Int)] 90 (0, 0))
theorem GRing.only {w w' : World} {rp dp t c : Nat} {G : Nat → Prop} (h : GRing w rp dp t c) (ho : Only G w w') (hn : ¬ G rp) : GRing w' rp dp t c := (ho.block rp (Array.getElem?_eq_some_iff.1 h).1 hn).trans h
theorem GRing.lt {w : World} {rp dp t c : Nat} (h : GRing w rp dp t c) : rp < w.heap.size := (Array.getElem?_eq_some_iff.1 h).1
theorem GRing.below {w w' : World} {rp dp t c : Nat} (h : GRing w rp dp t c) (hb : Below w.heap.size w w') : GRing w' rp dp t c := (hb.block rp h.lt).trans h
theorem GRing.k0 {w : World} {rp dp t c : Nat} (h : GRing w rp dp t c) : w.cell? ⟨rp, 0, none⟩ = some (.pointer (some ⟨dp, 0, none⟩)) := by rw [cell_of_row w rp 0 _ _ _ h]; rfl
theorem GRing.k1 {w : World} {rp dp t c : Nat} (h : GRing w rp dp t c) : w.cell? ⟨rp, 1, none⟩ = some (.int .u64 (t : Int)) := by rw [cell_of_row w rp 1 _ _ _ h]; rfl
theorem GRing.k2 {w : World} {rp dp t c : Nat} (h : GRing w rp dp t c) : w.cell? ⟨rp, 2, none⟩ = some (.int .u64 (c : Int)) := by rw [cell_of_row w rp 2 _ _ _ h]; rfl
theorem GRing.fz {w : World} {rp dp t c : Nat} (h : GRing w rp dp t c) (j : Nat) : w.frozen? ⟨rp, j, none⟩ = false := frozen_of_row w rp j _ _ h
theorem DriveAt.le {w : World} {p : Nat} {D : Dr} {F : Nat → Prop} (h : DriveAt w p D F) : D.safe.length ≤ 4096 := by
  obtain ⟨sb, pb, mb, hd, hin, _⟩ := h
  exact hin.ok.le
section
variable {w : World} {rp dp t c : Nat} {D : Dr} {F : Nat → Prop}
set_option maxRecDepth 100000 in
set_option maxHeartbeats 400000 in
theorem gslots_any (h : DriveAt w dp D F) (hr : GRing w rp dp t c) :
    Calls Tryz.prog 51 #[.pointer (some ⟨rp, 0, none⟩)] w fun e w' => e = .returned (.int .i64 (Ri.slots D.safe.length : Nat)) ∧ w' = w := by
  have hle := h.le
  have hS := Sectors_any h
  have hL := fun W => Slots_any D.safe.length (by omega) W
  obtain ⟨q, hq⟩ : ∃ q, q = Ri.slots D.safe.length := ⟨_, rfl⟩
  rw [← hq] at hL ⊢
  obtain ⟨n, hn⟩ : ∃ n, n = D.safe.length := ⟨_, rfl⟩
  rw [← hn] at hL hS
  have k0 := hr.k0
  clear h hr hle hq hn
  go_enter Tryz.func51, Tryz.ntmps51
  go_wp2_with fail
  refine hS.mono ?_
  rintro e w1 ⟨rfl, rfl⟩
  go_wp2_with fail
  refine (hL _).mono ?_
  rintro e w1 ⟨rfl, rfl⟩
  go_wp2
  go_ret
  exact ⟨rfl, rfl⟩
theorem slots_few (h : DriveAt w dp D F) : Ri.slots D.safe.length ≤ 100 := by have := h.le; unfold Ri.slots; omega
set_option maxRecDepth 100000 in
set_option maxHeartbeats 1000000 in
theorem gplace_any (h : DriveAt w dp D F) (hr : GRing w rp dp t c) (hs : 0 < Ri.slots D.safe.length) (m : Nat) (_hm : m < 18446744073709551616) :
    Calls Tryz.prog 66 #[.pointer (some ⟨rp, 0, none⟩), .int .u64 (m : Int)] w fun e w' => e = .returned (.int .i64 (Ri.first D.safe.length m : Nat)) ∧ w' = w := by
  have hfew := slots_few h
  have hS := gslots_any h hr
  have HF0 : Ri.first D.safe.length m = 4 + 41 * (m % Ri.slots D.safe.length) := rfl
  obtain ⟨q, hq⟩ : ∃ q, q = Ri.slots D.safe.length := ⟨_, rfl⟩
  rw [← hq] at hS hs hfew HF0
  have hmod : ((m : Int)).tmod (q : Int) = ((m % q : Nat) : Int) := (Int.ofNat_tmod m q).symm
  obtain ⟨r, hr'⟩ : ∃ r, r = m % q := ⟨_, rfl⟩
  have hrl : r < 4096 := by have := Nat.mod_lt m hs; omega
  rw [← hr'] at hmod HF0
  have hf := fun W => gfirst_any r (by omega) W
  rw [← HF0] at hf
  obtain ⟨z, hz⟩ : ∃ z, z = Ri.first D.safe.length m := ⟨_, rfl⟩
  rw [← hz] at hf ⊢
  have hq0 : ¬ (q : Int) = 0 := by omega
  have hqb : ((q : Int) == 0) = false := by rw [beq_eq_false_iff_ne]; omega
  have hw1 : IntKind.u64.wrap (q : Int) = (q : Int) := by rw [IntKind.wrap_u64]; omega
  have hw2 : IntKind.u64.wrap (r : Int) = (r : Int) := by rw [IntKind.wrap_u64]; omega
  have hw3 : IntKind.i64.wrap (r : Int) = (r : Int) := by rw [IntKind.wrap_i64]; omega
  clear h hr hq hr' hz HF0 hs
  go_enter Tryz.func66, Tryz.ntmps66
  go_wp2_with fail
  refine hS.mono ?_
  rintro e w1 ⟨rfl, rfl⟩
  go_wp2_with fail
  refine (hf _).mono ?_
  rintro e w1 ⟨rfl, rfl⟩
  go_wp2
  go_ret
  exact ⟨rfl, rfl⟩
set_option maxRecDepth 100000 in
set_option maxHeartbeats 1000000 in
theorem Left_any (h : DriveAt w dp D F) (hr : GRing w rp dp t c) (hc : c ≤ 1000) :
    Calls Tryz.prog 33 #[.pointer (some ⟨rp, 0, none⟩)] w fun e w' => e = .returned (.int .i64 ((Ri.slots D.safe.length : Nat) - (c : Nat))) ∧ Below w.heap.size w w' := by
  have hfew := slots_few h
  have hS := fun W (hW : Below w.heap.size w W) => gslots_any (h.below hW) (hr.below hW)
  obtain ⟨q, hq⟩ : ∃ q, q = Ri.slots D.safe.length := ⟨_, rfl⟩
  rw [← hq] at hS hfew ⊢
  have k2 := hr.k2
  have HS : Hid _ := hS
  have hB0 := (Below.refl w.heap.size w).drew
  have hw3 : IntKind.i64.wrap (c : Int) = (c : Int) := by rw [IntKind.wrap_i64]; omega
  have hw4 : IntKind.i64.wrap ((q : Int) - (c : Int)) = (q : Int) - (c : Int) := by rw [IntKind.wrap_i64]; omega
  clear h hr hq hS
  go_enter Tryz.func33, Tryz.ntmps33
  go_wp2
  go_quiet ((go_at_call 51; refine Calls.quiet_of_same (HS.out _ (below_drewN (Below.refl _ _) _))))
  go_wp2
  go_ret
  exact ⟨rfl, below_drewN (Below.refl _ _) _⟩
set_option maxRecDepth 100000 in
set_option maxHeartbeats 1000000 in
theorem Next_any (hr : GRing w rp dp t c) :
    Calls Tryz.prog 35 #[.pointer (some ⟨rp, 0, none⟩)] w fun e w' => e = .returned (.int .u64 (Ri.nth t (c + 1) : Nat)) ∧ Below w.heap.size w w' := by
  have k1 := hr.k1
  have k2 := hr.k2
  have hw : IntKind.u64.wrap (IntKind.u64.wrap ((t : Int) + 1) + (c : Int)) = (Ri.nth t (c + 1) : Nat) := by rw [IntKind.wrap_u64, IntKind.wrap_u64]; unfold Ri.nth Ri.top; omega
  have hB0 := (Below.refl w.heap.size w).drew
  obtain ⟨z, hz⟩ : ∃ z, z = Ri.nth t (c + 1) := ⟨_, rfl⟩
  rw [← hz] at hw ⊢
  clear hr hz
  go_enter Tryz.func35, Tryz.ntmps35
  go_wp2
  go_region
  go_wp2
  go_ret
  exact ⟨rfl, hB0⟩
end
theorem penc13 (m : Nat) (hm : m < 18446744073709551616) (a b : Option Addr) (ca cb : Nat) (w : World) (ha : RowI .u64 w a 1 (fun j => (([m].getD j 0 : Nat) : Int))) (hb : RowI .i64 w b 1 (fun j => [8].getD j 0)) :
    Calls Tryz.prog 84 #[.slice a 1 ca, .slice b 1 cb] w fun e w' => e = .returned (.tuple #[.string (Pk.encS [m] [8]), .int .i64 0]) ∧ Below w.heap.size w w' := by
  have h := Encode_any [m] [8] (by show 1 ≤ maxLen; decide) (by show 1 ≤ maxLen; decide) (by intro j; match j with | 0 => exact hm | j + 1 => exact Nat.lt_of_le_of_lt (Nat.zero_le m) hm) a b ca cb w ha hb
  rw [Pg.enc8_E hm] at h
  exact h
set_option maxRecDepth 100000 in
set_option maxHeartbeats 1000000 in
theorem gmark_any (m : Nat) (hm : m < 18446744073709551616) (w : World) : Calls Tryz.prog 46 #[.int .u64 (m : Int)] w fun e w' => e = .returned (.string (Ri.markB m)) ∧ Below w.heap.size w w' := by
  have hE := fun (a b : Option Addr) (ca cb : Nat) (W : World) => penc13 m hm a b ca cb W
  have hz := Ri.mark_size hm
  obtain ⟨q, hq⟩ : ∃ q, q = Pk.encS [m] [8] := ⟨_, rfl⟩
  have hq8 : q.size ≤ 8 := by rw [hq, Pg.enc8_size hm]; decide
  rw [← hq] at hE hz
  have HS : Hid (Ri.markB m = Crc.sealB (Ri.magicB ++ q) 64) := by show _ = _; unfold Ri.markB; rw [hq]
  have HZ : Hid ((Ri.magicB ++ q).size ≤ 60) := by show _ ≤ _; rw [hz]; decide
  have HE : Hid _ := hE
  clear hE hz hq hm
  go_enter Tryz.func46, Tryz.ntmps46
  go_wp2_with fail
  refine (HE.out _ _ _ _ _ (rows13 w m _ _).1 (rows13 w m _ _).2).mono ?_
  rintro e w1 ⟨rfl, hb1⟩
  have HB1 : Hid (Below w.heap.size w w1) := (((Below.refl _ _).alloc (Nat.le_refl _) _).alloc (by simp) _).trans (hb1.mono (by simp; omega))
  clear hb1
  go_wp2_with fail
  refine (Seal_yes _ 64 (by decide) (by decide) HZ.out _).mono ?_
  rw [← HS.out]
  rintro e w2 ⟨rfl, hb2⟩
  have HB2 : Hid (Below w.heap.size w w2) := below2 HB1.out hb2
  clear hb2
  go_wp2
  go_ret
  exact ⟨rfl, HB2.out⟩
theorem pdec13 (u : ByteArray) (h : u.size = 8) (b : Option Addr) (cb : Nat) (w : World) (hb : RowI .i64 w b 1 (fun j => [8].getD j 0)) :
    Calls Tryz.prog 91 #[.string u, .slice b 1 cb] w fun e w' => ∃ a cap, e = .returned (.tuple #[.slice a 1 cap, .int .i64 0]) ∧ RowI .u64 w' a 1 (fun _ => (((Pk.dec u.data.toList [8]).getD 0 0 : Nat) : Int)) ∧ Below w.heap.size w w' := by
  have hl : u.data.toList.length = Pk.offs [8] [8].length := by rw [Pg.list_size, h]; rfl
  have hx := Decode_any u [8] (by rw [h]; unfold maxLen; decide) (by show 1 ≤ maxLen; decide) b cb w hb
  have e1 := Pk.decE_yes Pg.w8_ok hl
  have e2 : (Pk.dec u.data.toList [8]).length = 1 := Pk.dec_length Pg.w8_ok hl
  refine hx.mono ?_
  rintro e w' ⟨a, cap, he, hr, hbb⟩
  rw [e1, e2] at he
  rw [e2] at hr
  refine ⟨a, cap, he, fun j hj => ?_, hbb⟩
  have : j = 0 := by omega
  subst this
  exact hr 0 hj
/-- what marked answers -/
def MarkedAns (w : World) (b : ByteArray) (e : Ending) (w' : World) : Prop := ∃ x : Nat, e = .returned (.tuple #[.int .u64 (x : Int), .bool (Ri.isMark b)]) ∧ (Ri.isMark b = true → x = Ri.told b) ∧ x < 18446744073709551616 ∧ Below w.heap.size w w'
set_option maxRecDepth 100000 in
set_option maxHeartbeats 2000000 in
theorem gmarked_any (b : ByteArray) (h : b.size = 64) (w : World) : Calls Tryz.prog 50 #[.string b] w (MarkedAns w b) := by
  cases ho : Crc.opens b.data.toList with
  | false =>
    have HO := fun W => Open_no b (by omega) ho W
    have hC := fun W => cut13_no ⟨#[]⟩ (by decide) W
    have HI : Hid (Ri.isMark b = false) := Ri.isMark_no ho
    clear h ho
    go_enter Tryz.func50, Tryz.ntmps50
    go_wp2_with fail
    refine (HO _).mono ?_
    rintro e w1 ⟨rfl, hb1⟩
    have HB1 : Hid (Below w.heap.size w w1) := hb1
    clear hb1
    go_wp2_with fail
    refine (hC _).mono ?_
    rintro e w2 ⟨rfl, rfl⟩
    go_wp2
    go_ret2
    exact ⟨0, by rw [HI.out]; rfl, (fun e => by rw [HI.out] at e; cases e), by decide, HB1.out⟩
  | true =>
    have HO := fun W => Open_yes b (by omega) ho W
    obtain ⟨t, ht⟩ : ∃ t, t = Crc.headB b := ⟨_, rfl⟩
    have ts : t.size = 60 := by rw [ht]; exact Pg.head_size h
    by_cases hf : t.extract 0 4 = Ri.magicB
    · have hC := fun W => cut13_yes t hf W
      have hI := Ri.isMark_rest h ho ht.symm hf
      have htold : (Pk.dec (t.extract 4 12).data.toList [8]).getD 0 0 = Ri.told b := by unfold Ri.told; rw [← ht]
      have q8 := Pg.tail4_size ts
      have s1 := Pg.tail4_at t 8 56
      have s2 := Pg.tail4_at t 0 8
      have hz := Rc.trim_zero12 ts 12
      obtain ⟨u, hu⟩ : ∃ u, u = Pg.tail4 t := ⟨_, rfl⟩
      rw [← hu] at hC q8 s1 s2
      obtain ⟨r, hr⟩ : ∃ r, r = u.extract 8 56 := ⟨_, rfl⟩
      obtain ⟨v, hv⟩ : ∃ v, v = u.extract 0 8 := ⟨_, rfl⟩
      have hr2 : r = t.extract 12 60 := hr.trans s1
      have hv2 : v = t.extract 4 12 := hv.trans s2
      have hv8 : v.size = 8 := by rw [hv2, ByteArray.size_extract, ts]; rfl
      have hr48 : r.size ≤ 100 := by rw [hr2, ByteArray.size_extract, ts]; decide
      have hT := fun W => trim12 r hr48 W
      rw [← hr2] at hz
      have hD := pdec13 v hv8
      rw [hv2, htold, ← hv2] at hD
      obtain ⟨l0, hl0⟩ : ∃ l0, l0 = Ri.told b := ⟨_, rfl⟩
      have HL : Hid (l0 = Ri.told b ∧ l0 < 18446744073709551616) := ⟨hl0, by rw [hl0]; exact Ri.told_lt _⟩
      rw [← hl0] at hD
      rw [← ht] at HO
      have HD : Hid _ := hD
      have qi : (u.size : Int) = 56 := by omega
      have r1 := hr.symm
      have r2 := hv.symm
      obtain ⟨x, hx⟩ : ∃ x : ByteArray, x = ⟨(Lib.trimB r.data.toList 0).toArray⟩ := ⟨_, rfl⟩
      rw [← hx] at hT hz
      have htx := Pg.tx_eq x ⟨#[]⟩
      clear h ho ht ts hf htold s1 s2 hu hr hv hr2 hv2 hv8 hr48 hl0 hx hD
      cases hk : Rc.zeroFrom t 12 with
      | false =>
        rw [hk] at hI hz
        have hne : x ≠ ⟨#[]⟩ := fun e => by have := hz.1 e; cases this
        have hie : x.toList.isEmpty = false := by
          rw [List.isEmpty_eq_false_iff, ByteArray.toList_eq]
          exact fun e => hne (Pg.eq_of_list (by rw [e]))
        clear htx
        have HI : Hid (Ri.isMark b = false) := hI
        clear hk hI hz hne
        go_enter Tryz.func50, Tryz.ntmps50
        go_wp2_with fail
        refine (HO _).mono ?_
        rintro e w1 ⟨rfl, hb1⟩
        have HB1 : Hid (Below w.heap.size w w1) := hb1
        clear hb1
        go_wp2_with fail
        refine (hC _).mono ?_
        rintro e w2 ⟨rfl, rfl⟩
        go_wp2_with fail
        refine (hT _).mono ?_
        rintro e w3 ⟨rfl, hb3⟩
        have HB3 : Hid (Below w.heap.size w w3) := below2 HB1.out hb3
        clear hb3
        go_wp2
        go_ret2
        exact ⟨0, by rw [HI.out]; rfl, (fun e => by rw [HI.out] at e; cases e), by decide, HB3.out⟩
      | true =>
        rw [hk] at hI hz
        have he : x = ⟨#[]⟩ := hz.2 rfl
        rw [he] at hT
        clear htx
        have HI : Hid (Ri.isMark b = true) := hI
        clear hk hI hz he
        go_enter Tryz.func50, Tryz.ntmps50
        go_wp2_with fail
        refine (HO _).mono ?_
        rintro e w1 ⟨rfl, hb1⟩
        have HB1 : Hid (Below w.heap.size w w1) := hb1
        clear hb1
        go_wp2_with fail
        refine (hC _).mono ?_
        rintro e w2 ⟨rfl, rfl⟩
        go_wp2_with fail
        refine (hT _).mono ?_
        rintro e w3 ⟨rfl, hb3⟩
        have HB3 : Hid (Below w.heap.size w w3) := below2 HB1.out hb3
        clear hb3
        go_wp2_with fail
        refine (HD.out _ _ _ (RowI.new .i64 _ [8] _ _ rfl)).mono ?_
        rintro e w4 ⟨al, cl, rfl, hR4, hb4⟩
        obtain ⟨b1, o1, rfl, r0⟩ := hR4 0 (by decide)
        rw [Nat.add_zero] at r0
        have HB4 : Hid (Below w.heap.size w w4) := below2 HB3.out (((Below.refl _ _).alloc (Nat.le_refl _) _).trans (hb4.mono (by simp)))
        clear hR4 hb4
        go_wp2
        go_ret2
        exact ⟨l0, by rw [HI.out]; rfl, fun _ => HL.out.1, HL.out.2, HB4.out⟩
    · have hC := fun W => cut13_no t hf W
      rw [← ht] at HO
      have HI : Hid (Ri.isMark b = false) := Ri.isMark_magic (by rw [← ht]; exact hf)
      clear h ho ht ts hf
      go_enter Tryz.func50, Tryz.ntmps50
      go_wp2_with fail
      refine (HO _).mono ?_
      rintro e w1 ⟨rfl, hb1⟩
      have HB1 : Hid (Below w.heap.size w w1) := hb1
      clear hb1
      go_wp2_with fail
      refine (hC _).mono ?_
      rintro e w2 ⟨rfl, rfl⟩
      go_wp2
      go_ret2
      exact ⟨0, by rw [HI.out]; rfl, (fun e => by rw [HI.out] at e; cases e), by decide, HB1.out⟩
end Go.Proofs.YtjmeiifogblmoaaGreatDoor
