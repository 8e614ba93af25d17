/- Several texts in one. The walk of the document's own Head of a record. The walk of the document's own Decode of a record. -/
import Derived.Test.YtjmeiifogblmoaaGreatDoorMRefF
import Derived.Test.YtjmeiifogblmoaaGreatDoorMRecB
import Derived.Test.YtjmeiifogblmoaaGreatDoorKitDet
namespace Go.Proofs.YtjmeiifogblmoaaGreatDoor
open Go.RowKit

namespace Rc
theorem num_size {t : ByteArray} (h : t.size = 60) : (t.extract 4 19).size = 15 := by rw [ByteArray.size_extract, h]; rfl
theorem num_lt {t : ByteArray} (h : t.size = 60) (i : Nat) (hi : i < 4) : numT t i < 256 ^ Pk.wd ws i := by
  have hl : (t.extract 4 19).data.toList.length = Pk.offs ws ws.length := by rw [Pg.list_size, num_size h]; rfl
  unfold numT
  rw [Pk.dec_at ws_ok hl hi]
  exact Pk.num_lt _ _ _
theorem num_bounds {t : ByteArray} (h : t.size = 60) : numT t 0 < 18446744073709551616 ∧ numT t 1 < 65536 ∧ numT t 2 < 256 ∧ numT t 3 < 4294967296 :=
  ⟨num_lt h 0 (by decide), num_lt h 1 (by decide), num_lt h 2 (by decide), num_lt h 3 (by decide)⟩
theorem headE_short {b : ByteArray} (h : b.size ≠ 64) : headE b = 31 := if_pos h
theorem headE_sum {b : ByteArray} (h : b.size = 64) (ho : Crc.opens b.data.toList = false) : headE b = 80 := by unfold headE; rw [if_neg (fun x => x h), ho]; rfl
theorem headE_magic {b : ByteArray} (h : b.size = 64) (ho : Crc.opens b.data.toList = true) (hf : (Crc.headB b).extract 0 4 ≠ magicB) : headE b = 81 := by unfold headE; rw [if_neg (fun x => x h), ho, cond_true, if_pos hf]
theorem headE_many {b : ByteArray} (h : b.size = 64) (ho : Crc.opens b.data.toList = true) (hf : (Crc.headB b).extract 0 4 = magicB) (hm : 40 < numT (Crc.headB b) 2) : headE b = 1 := by unfold headE; rw [if_neg (fun x => x h), ho, cond_true, if_neg (fun x => x hf), if_pos hm]
theorem headE_rest {b : ByteArray} (h : b.size = 64) (ho : Crc.opens b.data.toList = true) (hf : (Crc.headB b).extract 0 4 = magicB) (hm : ¬ 40 < numT (Crc.headB b) 2) : headE b = bif placesB (numT (Crc.headB b) 1) (numT (Crc.headB b) 2) (partT (Crc.headB b)) && decide (headS (numT (Crc.headB b) 0) (numT (Crc.headB b) 1) (numT (Crc.headB b) 2) (partT (Crc.headB b)) (numT (Crc.headB b) 3) = b) then 0 else 1 := by
  unfold headE; rw [if_neg (fun x => x h), ho, cond_true, if_neg (fun x => x hf), if_neg hm]
end Rc
/-- what Head answers -/
def HeadAns (w : World) (b : ByteArray) (e : Ending) (w' : World) : Prop :=
  ∃ a cap, e = .returned (.tuple #[.agg #[.int .u64 (Rc.hSeq b : Int), .int .i64 (Rc.hRow b : Int), .slice a (Rc.hN b) cap], .int .u32 (Rc.hSum b : Int), .int .i64 (Rc.headE b : Int)]) ∧ PartsR w' a (Rc.hN b) (Rc.hPart b) ∧ Below w.heap.size w w'
/-- no record -/
def noRec : Value := .agg #[.int .u64 0, .int .i64 0, .slice none 0 0]
theorem head_bad {w w' : World} {b : ByteArray} {n : Nat} (h : Rc.headE b = n) (hn : n ≠ 0) (hb : Below w.heap.size w w') : HeadAns w b (.returned (.tuple #[noRec, .int .u32 0, .int .i64 (n : Int)])) w' := by
  have e : ¬ Rc.headE b = 0 := by rw [h]; exact hn
  refine ⟨none, 0, ?_, ?_, hb⟩
  · unfold Rc.hSeq Rc.hRow Rc.hN Rc.hSum
    rw [if_neg e, if_neg e, if_neg e, if_neg e, h]; rfl
  · unfold Rc.hN; rw [if_neg e]; exact PartsR.nil _ _ _
theorem rdec12 (u : ByteArray) (h : u.size = 15) (b : Option Addr) (cb : Nat) (w : World) (hb : RowI .i64 w b 4 (fun j => Rc.ws.getD j 0)) :
    Calls Tryz.prog 55 #[.string u, .slice b 4 cb] w fun e w' => ∃ a cap, e = .returned (.tuple #[.slice a 4 cap, .int .i64 0]) ∧ RowI .u64 w' a 4 (fun j => (((Pk.dec u.data.toList Rc.ws).getD j 0 : Nat) : Int)) ∧ Below w.heap.size w w' := by
  have hl : u.data.toList.length = Pk.offs Rc.ws Rc.ws.length := by rw [Pg.list_size, h]; rfl
  have hx := refDecode_any u Rc.ws (by rw [h]; unfold maxLen; decide) (by show 4 ≤ maxLen; decide) b cb w hb
  have e1 := Pk.decE_yes Rc.ws_ok hl
  have e2 : (Pk.dec u.data.toList Rc.ws).length = 4 := Pk.dec_length Rc.ws_ok hl
  refine hx.mono ?_
  rintro e w' ⟨a, cap, he, hr, hbb⟩
  rw [e1, e2] at he
  rw [e2] at hr
  exact ⟨a, cap, he, hr, hbb⟩

set_option maxRecDepth 100000 in
set_option maxHeartbeats 1000000 in
theorem rHead12_short (b : ByteArray) (h : b.size ≠ 64) (w : World) : Calls Tryz.prog 98 #[.string b] w (HeadAns w b) := by
  have hn : ((b.size : Int) != 64) = true := by rw [bne_iff_ne]; omega
  have HE : Hid (Rc.headE b = 31) := Rc.headE_short h
  clear h
  go_enter Tryz.func98, Tryz.ntmps98
  go_wp2
  refine bodyPost_ret (ret_cell_tmp2 rfl _ _ ⟨w.heap.size, 0, none⟩ noRec rfl (by unfold noRec; go_simp)) rfl ?_
  exact head_bad HE.out (by decide) ((Below.refl _ w).alloc (Nat.le_refl _) _)

set_option maxRecDepth 100000 in
set_option maxHeartbeats 1000000 in
theorem rHead12_sum (b : ByteArray) (h : b.size = 64) (ho : Crc.opens b.data.toList = false) (w : World) : Calls Tryz.prog 98 #[.string b] w (HeadAns w b) := by
  have hn : ((b.size : Int) != 64) = false := by rw [bne_eq_false_iff_eq]; omega
  have HO := fun W => refOpen_no b (by omega) ho W
  have HE : Hid (Rc.headE b = 80) := Rc.headE_sum h ho
  clear h ho
  go_enter Tryz.func98, Tryz.ntmps98
  go_wp2_with fail
  refine (HO _).mono ?_
  rintro e w1 ⟨rfl, hb1⟩
  have hx := (BoxAt.new w 74 (.int .u64 0) (.int .i64 0) (.slice none 0 0)).below hb1 (by simp)
  obtain ⟨k0, k1, k2, f0, f1, f2⟩ := hx
  have HB : Hid (Below w.heap.size w w1) := box_below hb1
  clear hb1 HO
  go_wp2
  refine bodyPost_ret (ret_cell_tmp2 rfl _ _ ⟨w.heap.size, 0, none⟩ noRec rfl (by unfold noRec; go_simp)) rfl ?_
  exact head_bad HE.out (by decide) (stored3 HB.out (Nat.le_refl _) HB.out.size _ _ _)

theorem Rc.magic_list : Rc.magicB.toList = [82, 86, 84, 74] := by rw [ByteArray.toList_eq]; rfl
set_option maxRecDepth 100000 in
set_option maxHeartbeats 1000000 in
theorem rHead12_magic (b t : ByteArray) (h : b.size = 64) (ho : Crc.opens b.data.toList = true) (ht : Crc.headB b = t) (hf : t.extract 0 4 ≠ Rc.magicB) (w : World) : Calls Tryz.prog 98 #[.string b] w (HeadAns w b) := by
  have hn : ((b.size : Int) != 64) = false := by rw [bne_eq_false_iff_eq]; omega
  have HO := fun W => refOpen_yes b (by omega) ho W
  have HE : Hid (Rc.headE b = 81) := Rc.headE_magic h ho (by rw [ht]; exact hf)
  have ts : t.size = 60 := by rw [← ht]; exact Pg.head_size h
  have tsi : (t.size : Int) = 60 := by omega
  rw [ht] at HO
  have hne : ((t.extract 0 4).toList == [82, 86, 84, 74]) = false := by have e := Pg.tx_eq (t.extract 0 4) Rc.magicB; rw [decide_eq_false hf, Rc.magic_list] at e; exact e
  clear h ho ht hf ts
  go_enter Tryz.func98, Tryz.ntmps98
  go_wp2_with fail
  refine (HO _).mono ?_
  rintro e w1 ⟨rfl, hb1⟩
  have hx := (BoxAt.new w 74 (.int .u64 0) (.int .i64 0) (.slice none 0 0)).below hb1 (by simp)
  obtain ⟨k0, k1, k2, f0, f1, f2⟩ := hx
  have HB : Hid (Below w.heap.size w w1) := box_below hb1
  clear hb1 HO
  go_wp2
  refine bodyPost_ret (ret_cell_tmp2 rfl _ _ ⟨w.heap.size, 0, none⟩ noRec rfl (by unfold noRec; go_simp)) rfl ?_
  exact head_bad HE.out (by decide) (stored3 HB.out (Nat.le_refl _) HB.out.size _ _ _)

set_option maxRecDepth 100000 in
set_option maxHeartbeats 2000000 in
theorem rHead12_many (b t : ByteArray) (h : b.size = 64) (ho : Crc.opens b.data.toList = true) (ht : Crc.headB b = t) (hf : t.extract 0 4 = Rc.magicB) (hm : 40 < Rc.numT t 2) (w : World) : Calls Tryz.prog 98 #[.string b] w (HeadAns w b) := by
  have hn : ((b.size : Int) != 64) = false := by rw [bne_eq_false_iff_eq]; omega
  have HO := fun W => refOpen_yes b (by omega) ho W
  have HE : Hid (Rc.headE b = 1) := Rc.headE_many h ho (by rw [ht]; exact hf) (by rw [ht]; exact hm)
  have ts : t.size = 60 := by rw [← ht]; exact Pg.head_size h
  have tsi : (t.size : Int) = 60 := by omega
  rw [ht] at HO
  have hne : ((t.extract 0 4).toList == [82, 86, 84, 74]) = true := by have e := Pg.tx_eq (t.extract 0 4) Rc.magicB; rw [decide_eq_true hf, Rc.magic_list] at e; exact e
  have hD := rdec12 (t.extract 4 19) (Rc.num_size ts)
  obtain ⟨n0, n1, n2, n3⟩ := Rc.num_bounds ts
  change ∀ (b : Option Addr) (cb : Nat) (w : World), RowI .i64 w b 4 (fun j => Rc.ws.getD j 0) → Calls Tryz.prog 55 #[.string (t.extract 4 19), .slice b 4 cb] w fun e w' => ∃ a cap, e = .returned (.tuple #[.slice a 4 cap, .int .i64 0]) ∧ RowI .u64 w' a 4 (fun j => ((Rc.numT t j : Nat) : Int)) ∧ Below w.heap.size w w' at hD
  obtain ⟨u, hu⟩ : ∃ u, u = t.extract 4 19 := ⟨_, rfl⟩
  rw [← hu] at hD
  have hu' := hu.symm
  obtain ⟨l0, e0⟩ : ∃ l0, l0 = Rc.numT t 0 := ⟨_, rfl⟩
  obtain ⟨l1, e1⟩ : ∃ l1, l1 = Rc.numT t 1 := ⟨_, rfl⟩
  obtain ⟨l2, e2⟩ : ∃ l2, l2 = Rc.numT t 2 := ⟨_, rfl⟩
  obtain ⟨l3, e3⟩ : ∃ l3, l3 = Rc.numT t 3 := ⟨_, rfl⟩
  rw [← e0] at n0
  rw [← e1] at n1
  rw [← e2] at n2 hm
  rw [← e3] at n3
  have HD : Hid _ := hD
  have HL : Hid (l0 = Rc.numT t 0 ∧ l1 = Rc.numT t 1 ∧ l2 = Rc.numT t 2 ∧ l3 = Rc.numT t 3) := ⟨e0, e1, e2, e3⟩
  have hmi : (40 : Int) < (l2 : Int) := by omega
  clear h ho ht hf ts hD hu e0 e1 e2 e3 hm
  go_enter Tryz.func98, Tryz.ntmps98
  go_wp2_with fail
  refine (HO _).mono ?_
  rintro e w1 ⟨rfl, hb1⟩
  have hx := (BoxAt.new w 74 (.int .u64 0) (.int .i64 0) (.slice none 0 0)).below hb1 (by simp)
  have HX : Hid (BoxAt w1 w.heap.size (.int .u64 0) (.int .i64 0) (.slice none 0 0)) := hx
  have HB : Hid (Below w.heap.size w w1) := box_below hb1
  clear hb1 HO hx
  go_wp2_with fail
  refine (HD.out _ _ _ (RowI.new .i64 _ [8, 2, 1, 4] _ _ rfl)).mono ?_
  rintro e w2 ⟨a, cap, rfl, hR, hb2⟩
  have hbb : Below w1.heap.size w1 w2 := ((Below.refl _ w1).alloc (Nat.le_refl _) _).trans (hb2.mono (by simp))
  have hx2 := HX.out.below hbb HX.out.lt
  obtain ⟨k0, k1, k2, f0, f1, f2⟩ := hx2
  obtain ⟨b1, o1, rfl, r0⟩ := hR 0 (by decide)
  obtain ⟨_, _, e1', r1⟩ := hR 1 (by decide)
  cases e1'
  obtain ⟨_, _, e1', r2⟩ := hR 2 (by decide)
  cases e1'
  rw [Nat.add_zero] at r0
  replace r0 : w2.cell? ⟨b1, o1, none⟩ = some (.int .u64 (l0 : Int)) := by rw [HL.out.1]; exact r0
  replace r1 : w2.cell? ⟨b1, o1 + 1, none⟩ = some (.int .u64 (l1 : Int)) := by rw [HL.out.2.1]; exact r1
  replace r2 : w2.cell? ⟨b1, o1 + 2, none⟩ = some (.int .u64 (l2 : Int)) := by rw [HL.out.2.2.1]; exact r2
  have HB2 : Hid (Below w.heap.size w w2) := HB.out.trans (hbb.mono HB.out.size)
  have hc1 : IntKind.i64.wrap (l1 : Int) = (l1 : Int) := by rw [IntKind.wrap_i64]; omega
  have hbl := World.block_lt_of_cell? w2 _ r0
  have hbl2 := World.block_lt_of_cell? w2 _ k0
  clear hR hb2 hbb
  go_wp2_with fail
  go_region
  obtain ⟨w3, hw3⟩ : ∃ w3, w3 = (w2.alloc (.cells #[.int .u64 (l0 : Int), .int .i64 (l1 : Int), .slice none 0 0] 74)).drew := ⟨_, rfl⟩
  have b3 : Below w2.heap.size w2 w3 := by rw [hw3]; exact ((Below.refl _ w2).alloc (Nat.le_refl _) _).drew
  rw [← hw3]
  have q2 := (b3.cell (p := ⟨b1, o1 + 2, none⟩) hbl).trans r2
  have hx3 := (BoxAt.mk k0 k1 k2 f0 f1 f2).below b3 hbl2
  have HB3 : Hid (Below w.heap.size w w3) := HB2.out.trans (b3.mono HB2.out.size)
  clear hw3 b3 r0 r1 r2 k0 k1 k2 f0 f1 f2
  obtain ⟨k0, k1, k2, f0, f1, f2⟩ := hx3
  go_wp2
  refine bodyPost_ret (ret_cell_tmp2 rfl _ _ ⟨w.heap.size, 0, none⟩ noRec rfl (by unfold noRec; go_simp)) rfl ?_
  exact head_bad HE.out (by decide) (stored3 HB3.out (Nat.le_refl _) HB3.out.size _ _ _)

theorem cell_same12 {w w' : World} {b : Nat} (h : w'.heap[b]? = w.heap[b]?) (j : Nat) : w'.cell? ⟨b, j, none⟩ = w.cell? ⟨b, j, none⟩ ∧ w'.frozen? ⟨b, j, none⟩ = w.frozen? ⟨b, j, none⟩ := by
  unfold World.cell? World.frozen?
  dsimp only
  rw [h]
  exact ⟨rfl, rfl⟩
/-- what a region of Head holds on to -/
def KeepH (wr : World) (rb : Nat) (c0 c1 c2 : Value) (b1 o1 : Nat) (c3 : Value) (W : World) : Prop :=
  W.cell? ⟨rb, 0, none⟩ = some c0 ∧ W.cell? ⟨rb, 1, none⟩ = some c1 ∧ W.cell? ⟨rb, 2, none⟩ = some c2 ∧ W.cell? ⟨b1, o1, none⟩ = some c3 ∧ Below wr.heap.size wr W
theorem KeepH.drew {wr : World} {rb : Nat} {c0 c1 c2 : Value} {b1 o1 : Nat} {c3 : Value} {W : World} (h : KeepH wr rb c0 c1 c2 b1 o1 c3 W) : KeepH wr rb c0 c1 c2 b1 o1 c3 W.drew := ⟨h.1, h.2.1, h.2.2.1, h.2.2.2.1, h.2.2.2.2.drew⟩
theorem KeepH.det {P : Program} {f : FuncId} {args : Array Value} {v : Value} {wr : World} {rb : Nat} {c0 c1 c2 : Value} {b1 o1 : Nat} {c3 : Value} {W : World} (h : Calls P f args W fun e w' => e = .returned v ∧ Below W.heap.size W w') (hW : KeepH wr rb c0 c1 c2 b1 o1 c3 W) :
    Calls P f args W fun e w' => e = .returned v ∧ KeepH wr rb c0 c1 c2 b1 o1 c3 w' :=
  h.mono fun _ _ ⟨e, hb⟩ => by
    have hl := World.block_lt_of_cell? W _ hW.1
    have hl1 := World.block_lt_of_cell? W _ hW.2.2.2.1
    exact ⟨e, (hb.cell (p := ⟨rb, 0, none⟩) hl).trans hW.1, (hb.cell (p := ⟨rb, 1, none⟩) hl).trans hW.2.1, (hb.cell (p := ⟨rb, 2, none⟩) hl).trans hW.2.2.1, (hb.cell (p := ⟨b1, o1, none⟩) hl1).trans hW.2.2.2.1, hW.2.2.2.2.trans (hb.mono hW.2.2.2.2.size)⟩
theorem info_part12 : (Tryz.prog.info? 119).map (fun i => (i.zero, i.size, i.bytes)) = some (some (.agg #[.int .i64 0, .int .i64 0, .string ByteArray.empty]), 3, 32) := by kernel_rfl

set_option maxRecDepth 100000 in
set_option maxHeartbeats 4000000 in
theorem rHead12_rest (b t : ByteArray) (h : b.size = 64) (ho : Crc.opens b.data.toList = true) (ht : Crc.headB b = t) (hf : t.extract 0 4 = Rc.magicB) (hm : ¬ 40 < Rc.numT t 2) (w : World) : Calls Tryz.prog 98 #[.string b] w (HeadAns w b) := by
  have hn : ((b.size : Int) != 64) = false := by rw [bne_eq_false_iff_eq]; omega
  have HO := fun W => refOpen_yes b (by omega) ho W
  have hrest := Rc.headE_rest h ho (by rw [ht]; exact hf) (by rw [ht]; exact hm)
  rw [ht] at hrest
  have ts : t.size = 60 := by rw [← ht]; exact Pg.head_size h
  have tsi : (t.size : Int) = 60 := by omega
  rw [ht] at HO
  have hne : ((t.extract 0 4).toList == [82, 86, 84, 74]) = true := by have e := Pg.tx_eq (t.extract 0 4) Rc.magicB; rw [decide_eq_true hf, Rc.magic_list] at e; exact e
  have hD := rdec12 (t.extract 4 19) (Rc.num_size ts)
  obtain ⟨n0, n1, n2, n3⟩ := Rc.num_bounds ts
  change ∀ (b : Option Addr) (cb : Nat) (w : World), RowI .i64 w b 4 (fun j => Rc.ws.getD j 0) → Calls Tryz.prog 55 #[.string (t.extract 4 19), .slice b 4 cb] w fun e w' => ∃ a cap, e = .returned (.tuple #[.slice a 4 cap, .int .i64 0]) ∧ RowI .u64 w' a 4 (fun j => ((Rc.numT t j : Nat) : Int)) ∧ Below w.heap.size w w' at hD
  have hHd : Hid (Crc.headB b = t) := ht
  obtain ⟨u, hu⟩ : ∃ u, u = t.extract 4 19 := ⟨_, rfl⟩
  rw [← hu] at hD
  have hu' := hu.symm
  obtain ⟨l0, e0⟩ : ∃ l0, l0 = Rc.numT t 0 := ⟨_, rfl⟩
  obtain ⟨l1, e1⟩ : ∃ l1, l1 = Rc.numT t 1 := ⟨_, rfl⟩
  obtain ⟨l2, e2⟩ : ∃ l2, l2 = Rc.numT t 2 := ⟨_, rfl⟩
  obtain ⟨l3, e3⟩ : ∃ l3, l3 = Rc.numT t 3 := ⟨_, rfl⟩
  rw [← e0] at n0
  rw [← e1] at n1
  rw [← e2] at n2 hm
  rw [← e3] at n3
  rw [← e0, ← e1, ← e2, ← e3] at hrest
  have HD : Hid _ := hD
  have HRe : Hid _ := hrest
  have HL : Hid (l0 = Rc.numT t 0 ∧ l1 = Rc.numT t 1 ∧ l2 = Rc.numT t 2 ∧ l3 = Rc.numT t 3) := ⟨e0, e1, e2, e3⟩
  have TS : Hid (t.size = 60) := ts
  have hmi : ¬ (40 : Int) < (l2 : Int) := by omega
  have hpi := info_part12
  obtain ⟨i0, hi, hz0, hz1, hz2⟩ := info_parts hpi
  have hmx : Tryz.prog.follows .mixedOrders = true := by kernel_rfl
  have HMX : Hid (Tryz.prog.follows .mixedOrders = true) := hmx
  clear h ho ht hf ts hD hu e0 e1 e2 e3 hm hrest hpi hmx
  go_enter Tryz.func98, Tryz.ntmps98
  go_wp2_with fail
  refine (HO _).mono ?_
  rintro e w1 ⟨rfl, hb1⟩
  have hx := (BoxAt.new w 74 (.int .u64 0) (.int .i64 0) (.slice none 0 0)).below hb1 (by simp)
  have HX : Hid (BoxAt w1 w.heap.size (.int .u64 0) (.int .i64 0) (.slice none 0 0)) := hx
  have HB : Hid (Below w.heap.size w w1) := box_below hb1
  clear hb1 HO hx
  go_wp2_with fail
  refine (HD.out _ _ _ (RowI.new .i64 _ [8, 2, 1, 4] _ _ rfl)).mono ?_
  rintro e w2 ⟨a, cap, rfl, hR, hb2⟩
  have hbb : Below w1.heap.size w1 w2 := ((Below.refl _ w1).alloc (Nat.le_refl _) _).trans (hb2.mono (by simp))
  have hx2 := HX.out.below hbb HX.out.lt
  obtain ⟨b1, o1, rfl, r0⟩ := hR 0 (by decide)
  obtain ⟨_, _, e1', r1⟩ := hR 1 (by decide)
  cases e1'
  obtain ⟨_, _, e1', r2⟩ := hR 2 (by decide)
  cases e1'
  obtain ⟨_, _, e1', r3⟩ := hR 3 (by decide)
  cases e1'
  rw [Nat.add_zero] at r0
  replace r0 : w2.cell? ⟨b1, o1, none⟩ = some (.int .u64 (l0 : Int)) := by rw [HL.out.1]; exact r0
  replace r1 : w2.cell? ⟨b1, o1 + 1, none⟩ = some (.int .u64 (l1 : Int)) := by rw [HL.out.2.1]; exact r1
  replace r2 : w2.cell? ⟨b1, o1 + 2, none⟩ = some (.int .u64 (l2 : Int)) := by rw [HL.out.2.2.1]; exact r2
  replace r3 : w2.cell? ⟨b1, o1 + 3, none⟩ = some (.int .u64 (l3 : Int)) := by rw [HL.out.2.2.2]; exact r3
  have HB2 : Hid (Below w.heap.size w w2) := HB.out.trans (hbb.mono HB.out.size)
  have hc1 : IntKind.i64.wrap (l1 : Int) = (l1 : Int) := by rw [IntKind.wrap_i64]; omega
  have hbl := World.block_lt_of_cell? w2 _ r0
  have HX2 : Hid (BoxAt w2 w.heap.size (.int .u64 0) (.int .i64 0) (.slice none 0 0)) := hx2
  have R23 : Hid (w2.cell? ⟨b1, o1 + 2, none⟩ = some (.int .u64 (l2 : Int)) ∧ w2.cell? ⟨b1, o1 + 3, none⟩ = some (.int .u64 (l3 : Int))) := ⟨r2, r3⟩
  clear hR hb2 hbb hx2 r2 r3
  go_wp2_with fail
  go_region
  obtain ⟨w3, hw3⟩ : ∃ w3, w3 = (w2.alloc (.cells #[.int .u64 (l0 : Int), .int .i64 (l1 : Int), .slice none 0 0] 74)).drew := ⟨_, rfl⟩
  have b3 : Below w2.heap.size w2 w3 := by rw [hw3]; exact ((Below.refl _ w2).alloc (Nat.le_refl _) _).drew
  have hr3 : BoxAt w3 w2.heap.size (.int .u64 (l0 : Int)) (.int .i64 (l1 : Int)) (.slice none 0 0) := by
    obtain ⟨a0, a1, a2, a3, a4, a5⟩ := BoxAt.new w2 74 (.int .u64 (l0 : Int)) (.int .i64 (l1 : Int)) (.slice none 0 0)
    rw [hw3]; exact ⟨a0, a1, a2, a3, a4, a5⟩
  rw [← hw3]
  have q2 := (b3.cell (p := ⟨b1, o1 + 2, none⟩) hbl).trans R23.out.1
  have q3 := (b3.cell (p := ⟨b1, o1 + 3, none⟩) hbl).trans R23.out.2
  have HB3 : Hid (Below w.heap.size w w3) := HB2.out.trans (b3.mono HB2.out.size)
  have HX3 : Hid (BoxAt w3 w.heap.size (.int .u64 0) (.int .i64 0) (.slice none 0 0)) := HX2.out.below b3 HX2.out.lt
  obtain ⟨rb, hrb⟩ : ∃ rb, rb = w2.heap.size := ⟨_, rfl⟩
  rw [← hrb] at hr3 ⊢
  have hbr : b1 < rb := by rw [hrb]; exact hbl
  have hwr : w.heap.size < rb := by rw [hrb]; exact HX2.out.lt
  have HR3 : Hid (BoxAt w3 rb (.int .u64 (l0 : Int)) (.int .i64 (l1 : Int)) (.slice none 0 0)) := hr3
  have Q23 : Hid (w3.cell? ⟨b1, o1 + 2, none⟩ = some (.int .u64 (l2 : Int)) ∧ w3.cell? ⟨b1, o1 + 3, none⟩ = some (.int .u64 (l3 : Int))) := ⟨q2, q3⟩
  have HLt : Hid (b1 < rb ∧ w.heap.size < rb ∧ rb < w3.heap.size) := ⟨hbr, hwr, hr3.lt⟩
  clear hw3 b3 r0 r1 hrb hr3 hbl hbr hwr q3
  go_wp2
  go_loopg [10] l2 (fun gg i wr => ∃ (k : Nat) (v : Value), k ≤ l2 ∧ gg = l2 - k ∧ i = .int .i64 (k : Int) ∧ BoxAt wr rb (.int .u64 (l0 : Int)) (.int .i64 (l1 : Int)) v ∧ wr.ownsRow w3.heap.size 119 3 v k (prtVals k (Rc.partT t)) ∧ Only (fun x => x = rb) w3 wr)
  case atStart => exact ⟨0, .slice none 0 0, Nat.zero_le _, rfl, rfl, HR3.out, World.ownsRow_nil _ _ _ _, Only.refl _ _⟩
  case round =>
  obtain ⟨k, v, hk, rfl, rfl, hbx, hown, ho⟩ := hrel
  have HBx : Hid (BoxAt wr rb (.int .u64 (l0 : Int)) (.int .i64 (l1 : Int)) v) := hbx
  have OWN : Hid (wr.ownsRow w3.heap.size 119 3 v k (prtVals k (Rc.partT t))) := hown
  have HOn : Hid (Only (fun x => x = rb) w3 wr) := ho
  have hsame : ∀ x, x < w3.heap.size → x ≠ rb → wr.heap[x]? = w3.heap[x]? := fun x h1 h2 => ho.block x h1 h2
  have HSm : Hid (∀ x, x < w3.heap.size → x ≠ rb → wr.heap[x]? = w3.heap[x]?) := hsame
  have r2 := (cell_same12 (hsame b1 (by have := HLt.out; omega) (by have := HLt.out; omega)) (o1 + 2)).1.trans Q23.out.1
  obtain ⟨_, _, x2, _, _, y2⟩ := hbx
  have hsz := ho.size
  clear ho hown hsame q2
  by_cases hlt : k < l2
  case pos =>
    have hki : (k : Int) < (l2 : Int) := by omega
    have hkt : 19 + k < t.size := by rw [TS.out]; omega
    have hB := Pg.byt11_at t (19 + k) hkt
    obtain ⟨c, hc⟩ : ∃ c, c = t[19 + k]'hkt := ⟨_, rfl⟩
    have hcs := hc.symm
    have hpt : Rc.partT t k = ⟨(c.toNat / 4 : Nat), (c.toNat % 4 : Nat), ⟨#[]⟩⟩ := by unfold Rc.partT; rw [hc, hB]
    have HPt : Hid (Rc.partT t k = ⟨(c.toNat / 4 : Nat), (c.toNat % 4 : Nat), ⟨#[]⟩⟩) := hpt
    have hc256 := c.toNat_lt
    have hi0 : (0 : Int) ≤ 19 + (k : Int) := by omega
    have hi1 : (19 : Int) + (k : Int) < 60 := by omega
    have hto : ((19 : Int) + (k : Int)).toNat = 19 + k := by omega
    have hq4 : ((c.toNat : Nat) : Int).tdiv 4 = ((c.toNat / 4 : Nat) : Int) := (Int.ofNat_tdiv c.toNat 4).symm
    have hr4 : ((c.toNat : Nat) : Int).tmod 4 = ((c.toNat % 4 : Nat) : Int) := (Int.ofNat_tmod c.toNat 4).symm
    have t1 : True := trivial
    clear hc hB hpt
    go_upto_region 16 with fail
    obtain ⟨cn, hcn⟩ : ∃ cn, cn = c.toNat := ⟨_, rfl⟩
    obtain ⟨d4, hd4⟩ : ∃ d4, d4 = cn / 4 := ⟨_, rfl⟩
    obtain ⟨m4, hm4⟩ : ∃ m4, m4 = cn % 4 := ⟨_, rfl⟩
    rw [← hcn, ← hd4] at hq4
    rw [← hcn, ← hm4] at hr4
    rw [← hcn] at hc256 ⊢
    have HP4 : Hid (Rc.partT t k = ⟨(d4 : Nat), (m4 : Nat), ⟨#[]⟩⟩) := by show _ = _; rw [hd4, hm4, hcn]; exact HPt.out
    have hd64 : d4 < 64 := by omega
    have hm64 : m4 < 4 := by omega
    clear hcn hd4 hm4 HPt hcs hto hi0 hi1
    go_wp2_with (first | (at_builtin; go_loud (have _t := t1; refine wpList_append_own _ rfl _ _ 61 rfl w3.heap.size 119 i0 (.agg #[.int .i64 0, .int .i64 0, .string ByteArray.empty]) 3 32 Tryz.underlying61 hi hz0 hz1 hz2 rfl (by decide) v k (prtVals k (Rc.partT t)) rfl (OWN.out.alloc _) ⟨_, 0, none⟩ 1 1 [.int .i64 (d4 : Int), .int .i64 (m4 : Int), .string ⟨#[]⟩] rfl rfl (news3 _ _ _ _ _) (by simp [Value.oneCell']) (by unfold maxLen; omega) (by omega) (by simp; omega) ?_; intro v' w4 hown' hgrow _; obtain ⟨g', cap', rfl⟩ := ownsRow_succ hown'; have b4 := below_append OWN.out hsz hgrow; have hbx4 := HBx.out.below b4 HLt.out.2.2; have HB4 : Hid (Below w3.heap.size wr w4) := b4; have HBx4 : Hid (BoxAt w4 rb (.int .u64 (l0 : Int)) (.int .i64 (l1 : Int)) v) := hbx4; have OWN4 : Hid (w4.ownsRow w3.heap.size 119 3 (.slice (some ⟨g', 0, none⟩) (k + 1) cap') (k + 1) (prtVals (k + 1) (Rc.partT t))) := (by show World.ownsRow _ _ _ _ _ _ _; rw [prtVals, HP4.out]; exact hown'); obtain ⟨z0, z1, z2, e0, e1, e2⟩ := hbx4; clear b4 hown' hgrow z0 z1 e0 e1 t1)))
    go_roundg (l2 - (k + 1))
    case measure => omega
    case rel => exact ⟨k + 1, _, by omega, rfl, by go_num, HBx4.out.store _, own_set OWN4.out HLt.out.2.2 _, (only_low HOn.out HB4.out).then (Only.setCell _ _ _ _ rfl)⟩
  case neg =>
    have hkl : k = l2 := by omega
    subst hkl
    obtain ⟨va, vc, rfl, hpr, hvc, hvb⟩ := PartsR.of_owns OWN.out
    have HVb : Hid (∀ x, va = some x → w3.heap.size ≤ x.block) := hvb
    clear hvb
    have q3 := (cell_same12 (HSm.out b1 (by have := HLt.out; omega) (by have := HLt.out; omega)) (o1 + 3)).1.trans Q23.out.2
    have hHX := HX3.out
    have hx4 : BoxAt wr w.heap.size (.int .u64 0) (.int .i64 0) (.slice none 0 0) := by
      have e := HSm.out w.heap.size (by have := HLt.out; omega) (by have := HLt.out; omega)
      obtain ⟨a0, a1, a2, a3, a4, a5⟩ := HX3.out
      exact ⟨(cell_same12 e 0).1.trans a0, (cell_same12 e 1).1.trans a1, (cell_same12 e 2).1.trans a2, (cell_same12 e 0).2.trans a3, (cell_same12 e 1).2.trans a4, (cell_same12 e 2).2.trans a5⟩
    have hbw : Below w.heap.size w wr := HB3.out.trans (HOn.out.below (fun x hx => by rw [hx]; exact Nat.le_of_lt HLt.out.2.1) HB3.out.size)
    have hin : RecIn (l1 : Int) k (Rc.partT t) := ⟨by omega, by omega, fun j _ => by unfold Rc.partT; dsimp only; have := (Pg.byt11 t (19 + j)).toNat_lt; omega, fun j _ => by unfold Rc.partT; dsimp only; have := (Pg.byt11 t (19 + j)).toNat_lt; omega⟩
    have hPl := fun (W : World) (hW : Below wr.heap.size wr W) => rplaces_any (l0 : Int) (l1 : Int) va k vc (Rc.partT t) W hin (hpr.below hW)
    have hH := fun (hp : Rc.placesB (l1 : Int) k (Rc.partT t) = true) (W : World) (hW : Below wr.heap.size wr W) => rhead12_any l0 l1 k vc l3 va (Rc.partT t) W n0 n3 hp (hpr.below hW)
    have HHh : Hid _ := hH
    have HBW : Hid (Below w.heap.size w wr) := hbw
    have HX4 : Hid (BoxAt wr w.heap.size (.int .u64 0) (.int .i64 0) (.slice none 0 0)) := hx4
    have HPR : Hid (PartsR wr va k (Rc.partT t)) := hpr
    have k0 := HBx.out.k0
    have k1 := HBx.out.k1
    have k2 := HBx.out.k2
    have hc3 : IntKind.u32.wrap (l3 : Int) = (l3 : Int) := by rw [IntKind.wrap_u32]; omega
    have hKp : KeepH wr rb (.int .u64 (l0 : Int)) (.int .i64 (l1 : Int)) (.slice va k vc) b1 (o1 + 3) (.int .u64 (l3 : Int)) wr := ⟨k0, k1, k2, q3, Below.refl _ _⟩
    have HKp : Hid (KeepH wr rb (.int .u64 (l0 : Int)) (.int .i64 (l1 : Int)) (.slice va k vc) b1 (o1 + 3) (.int .u64 (l3 : Int)) wr) := hKp
    clear hHX hx4 hbw hin hpr hlt hk hH
    cases hpl : Rc.placesB (l1 : Int) k (Rc.partT t) with
    | false =>
      have HE : Hid (Rc.headE b = 1) := by show _ = _; rw [HRe.out, hpl]; rfl
      rw [hpl] at hPl
      clear hpl
      go_wp2_with fail
      refine region_det (fun W => W.cell? ⟨rb, 0, none⟩ = some (.int .u64 (l0 : Int)) ∧ W.cell? ⟨rb, 1, none⟩ = some (.int .i64 (l1 : Int)) ∧ W.cell? ⟨rb, 2, none⟩ = some (.slice va k vc) ∧ W.cell? ⟨b1, o1 + 3, none⟩ = some (.int .u64 (l3 : Int)) ∧ Below wr.heap.size wr W) HMX.out (by kernel_rfl) (KeepH.drew HKp.out) ?_
      refine det_read 0 (v := ?vx1) rfl (by kernel_rfl) rfl ?hyx1 ?restx1
      case hyx1 => (intro wS hSw; (try dsimp only at hSw); go_simp; try with_reducible rfl)
      try simp only [Act.put, List.setIfInBounds_toArray, List.set_cons_zero, List.set_cons_succ]
      refine det_call 1 rfl (by kernel_rfl) rfl ?hyx35 (fun W h => KeepH.det (hPl W h.2.2.2.2) h) ?restx35
      case hyx35 => (intro wS hSw; go_simp; try with_reducible rfl)
      try simp only [Act.put, List.setIfInBounds_toArray, List.set_cons_zero, List.set_cons_succ]
      refine det_read 2 (v := ?vx2) rfl (by kernel_rfl) rfl ?hyx2 ?restx2
      case hyx2 => (intro wS hSw; (try dsimp only at hSw); go_simp; try with_reducible rfl)
      try simp only [Act.put, List.setIfInBounds_toArray, List.set_cons_zero, List.set_cons_succ]
      refine det_read 3 (v := ?vx3) rfl (by kernel_rfl) rfl ?hyx3 ?restx3
      case hyx3 => (intro wS hSw; (try dsimp only at hSw); go_simp; try with_reducible rfl)
      try simp only [Act.put, List.setIfInBounds_toArray, List.set_cons_zero, List.set_cons_succ]
      refine det_skip 4 rfl (by kernel_rfl) rfl ?restx27
      try simp only [Act.put, List.setIfInBounds_toArray, List.set_cons_zero, List.set_cons_succ]
      refine det_skip 5 rfl (by kernel_rfl) rfl ?restx28
      try simp only [Act.put, List.setIfInBounds_toArray, List.set_cons_zero, List.set_cons_succ]
      refine det_skip 6 rfl (by kernel_rfl) rfl ?restx29
      try simp only [Act.put, List.setIfInBounds_toArray, List.set_cons_zero, List.set_cons_succ]
      refine det_skip 7 rfl (by kernel_rfl) rfl ?restx30
      try simp only [Act.put, List.setIfInBounds_toArray, List.set_cons_zero, List.set_cons_succ]
      refine det_skip 8 rfl (by kernel_rfl) rfl ?restx31
      try simp only [Act.put, List.setIfInBounds_toArray, List.set_cons_zero, List.set_cons_succ]
      refine det_skip 9 rfl (by kernel_rfl) rfl ?restx32
      try simp only [Act.put, List.setIfInBounds_toArray, List.set_cons_zero, List.set_cons_succ]
      refine det_skip 10 rfl (by kernel_rfl) rfl ?restx33
      try simp only [Act.put, List.setIfInBounds_toArray, List.set_cons_zero, List.set_cons_succ]
      refine det_skip 11 rfl (by kernel_rfl) rfl ?restx34
      try simp only [Act.put, List.setIfInBounds_toArray, List.set_cons_zero, List.set_cons_succ]
      refine det_read 12 (v := ?vx4) rfl (by kernel_rfl) rfl ?hyx4 ?restx4
      case hyx4 => (intro wS hSw; (try dsimp only at hSw); go_simp; try with_reducible rfl)
      try simp only [Act.put, List.setIfInBounds_toArray, List.set_cons_zero, List.set_cons_succ]
      refine det_done (by kernel_rfl) ?_
      rintro w5 ⟨_, _, _, _, b5⟩
      have hx5 := HX4.out.below b5 HX4.out.lt
      have HB5 : Hid (Below w.heap.size w w5) := HBW.out.trans (b5.mono HBW.out.size)
      obtain ⟨z0, z1, z2, e0, e1, e2⟩ := hx5
      clear b5 k0 k1 k2 q3 hPl hKp r2 x2 y2
      go_wp2
      refine bodyPost_ret (ret_cell_tmp2 rfl _ _ ⟨w.heap.size, 0, none⟩ noRec rfl (by unfold noRec; go_simp)) rfl ?_
      exact head_bad HE.out (by decide) (stored3 HB5.out (Nat.le_refl _) HB5.out.size _ _ _)
    | true =>
      have hh := HHh.out hpl
      rw [hpl] at hPl
      obtain ⟨hs, hhs⟩ : ∃ hs, hs = Rc.headS l0 (l1 : Int) k (Rc.partT t) l3 := ⟨_, rfl⟩
      rw [← hhs] at hh
      by_cases he : hs = b
      · have HE : Hid (Rc.headE b = 0) := by show _ = _; rw [HRe.out, hpl, ← hhs, decide_eq_true he]; rfl
        have hcmp : (hs.toList == b.toList) = true := by rw [Pg.tx_eq]; exact decide_eq_true he
        clear hpl he hhs
        go_wp2_with fail
        refine region_det (fun W => W.cell? ⟨rb, 0, none⟩ = some (.int .u64 (l0 : Int)) ∧ W.cell? ⟨rb, 1, none⟩ = some (.int .i64 (l1 : Int)) ∧ W.cell? ⟨rb, 2, none⟩ = some (.slice va k vc) ∧ W.cell? ⟨b1, o1 + 3, none⟩ = some (.int .u64 (l3 : Int)) ∧ Below wr.heap.size wr W) HMX.out (by kernel_rfl) (KeepH.drew HKp.out) ?_
        refine det_read 0 (v := ?vx5) rfl (by kernel_rfl) rfl ?hyx5 ?restx5
        case hyx5 => (intro wS hSw; (try dsimp only at hSw); go_simp; try with_reducible rfl)
        try simp only [Act.put, List.setIfInBounds_toArray, List.set_cons_zero, List.set_cons_succ]
        refine det_call 1 rfl (by kernel_rfl) rfl ?hyx36 (fun W h => KeepH.det (hPl W h.2.2.2.2) h) ?restx36
        case hyx36 => (intro wS hSw; go_simp; try with_reducible rfl)
        try simp only [Act.put, List.setIfInBounds_toArray, List.set_cons_zero, List.set_cons_succ]
        refine det_read 2 (v := ?vx6) rfl (by kernel_rfl) rfl ?hyx6 ?restx6
        case hyx6 => (intro wS hSw; (try dsimp only at hSw); go_simp; try with_reducible rfl)
        try simp only [Act.put, List.setIfInBounds_toArray, List.set_cons_zero, List.set_cons_succ]
        refine det_read 3 (v := ?vx7) rfl (by kernel_rfl) rfl ?hyx7 ?restx7
        case hyx7 => (intro wS hSw; (try dsimp only at hSw); go_simp; try with_reducible rfl)
        try simp only [Act.put, List.setIfInBounds_toArray, List.set_cons_zero, List.set_cons_succ]
        refine det_read 4 (v := ?vx8) rfl (by kernel_rfl) rfl ?hyx8 ?restx8
        case hyx8 => (intro wS hSw; (try dsimp only at hSw); go_simp; try with_reducible rfl)
        try simp only [Act.put, List.setIfInBounds_toArray, List.set_cons_zero, List.set_cons_succ]
        refine det_read 5 (v := ?vx9) rfl (by kernel_rfl) rfl ?hyx9 ?restx9
        case hyx9 => (intro wS hSw; (try dsimp only at hSw); go_simp; try with_reducible rfl)
        try simp only [Act.put, List.setIfInBounds_toArray, List.set_cons_zero, List.set_cons_succ]
        refine det_read 6 (v := ?vx10) rfl (by kernel_rfl) rfl ?hyx10 ?restx10
        case hyx10 => (intro wS hSw; (try dsimp only at hSw); go_simp; try with_reducible rfl)
        try simp only [Act.put, List.setIfInBounds_toArray, List.set_cons_zero, List.set_cons_succ]
        refine det_read 7 (v := ?vx11) rfl (by kernel_rfl) rfl ?hyx11 ?restx11
        case hyx11 => (intro wS hSw; (try dsimp only at hSw); go_simp; try with_reducible rfl)
        try simp only [Act.put, List.setIfInBounds_toArray, List.set_cons_zero, List.set_cons_succ]
        refine det_read 8 (v := ?vx12) rfl (by kernel_rfl) rfl ?hyx12 ?restx12
        case hyx12 => (intro wS hSw; (try dsimp only at hSw); go_simp; try with_reducible rfl)
        try simp only [Act.put, List.setIfInBounds_toArray, List.set_cons_zero, List.set_cons_succ]
        refine det_call 9 rfl (by kernel_rfl) rfl ?hyx37 (fun W h => KeepH.det (hh W h.2.2.2.2) h) ?restx37
        case hyx37 => (intro wS hSw; go_simp; try with_reducible rfl)
        try simp only [Act.put, List.setIfInBounds_toArray, List.set_cons_zero, List.set_cons_succ]
        refine det_read 10 (v := ?vx13) rfl (by kernel_rfl) rfl ?hyx13 ?restx13
        case hyx13 => (intro wS hSw; (try dsimp only at hSw); go_simp; try with_reducible rfl)
        try simp only [Act.put, List.setIfInBounds_toArray, List.set_cons_zero, List.set_cons_succ]
        refine det_read 11 (v := ?vx14) rfl (by kernel_rfl) rfl ?hyx14 ?restx14
        case hyx14 => (intro wS hSw; (try dsimp only at hSw); go_simp; try with_reducible rfl)
        try simp only [Act.put, List.setIfInBounds_toArray, List.set_cons_zero, List.set_cons_succ]
        refine det_read 12 (v := ?vx15) rfl (by kernel_rfl) rfl ?hyx15 ?restx15
        case hyx15 => (intro wS hSw; (try dsimp only at hSw); go_simp; try with_reducible rfl)
        try simp only [Act.put, List.setIfInBounds_toArray, List.set_cons_zero, List.set_cons_succ]
        refine det_done (by kernel_rfl) ?_
        rintro w5 ⟨p0, p1, p2, p3, b5⟩
        have hx5 := HX4.out.below b5 HX4.out.lt
        have HB5 : Hid (Below w.heap.size w w5) := HBW.out.trans (b5.mono HBW.out.size)
        have HP5 : Hid (PartsR w5 va k (Rc.partT t)) := HPR.out.below b5
        obtain ⟨z0, z1, z2, e0, e1, e2⟩ := hx5
        clear b5 k0 k1 k2 q3 hPl hKp r2 x2 y2
        go_wp2_with fail
        go_region
        all_goals
          go_wp2
          refine bodyPost_ret (ret_cell_tmp2 rfl _ _ ⟨w.heap.size, 0, none⟩ (.agg #[.int .u64 (l0 : Int), .int .i64 (l1 : Int), .slice va k vc]) rfl (by go_simp)) rfl ?_
          have e1' : Rc.hSeq b = l0 := by unfold Rc.hSeq; rw [if_pos HE.out, hHd.out, HL.out.1]
          have e2' : Rc.hRow b = l1 := by unfold Rc.hRow; rw [if_pos HE.out, hHd.out, HL.out.2.1]
          have e3' : Rc.hN b = k := by unfold Rc.hN; rw [if_pos HE.out, hHd.out, HL.out.2.2.1]
          have e4' : Rc.hSum b = l3 := by unfold Rc.hSum; rw [if_pos HE.out, hHd.out, HL.out.2.2.2]
          have e5' : Rc.hPart b = Rc.partT t := by unfold Rc.hPart; rw [hHd.out]
          refine ⟨va, vc, ?_, ?_, ?_⟩
          · rw [e1', e2', e3', e4', HE.out]; rfl
          · rw [e3', e5']
            exact HP5.out.only ((only3 _ _ _ _ _).then (Only.drew _ _)) (fun x hx e => by have := HVb.out x hx; have := HLt.out; omega)
          · exact (stored3 HB5.out (Nat.le_refl _) HB5.out.size _ _ _).drew
      · have HE : Hid (Rc.headE b = 1) := by show _ = _; rw [HRe.out, hpl, ← hhs, decide_eq_false he]; rfl
        have hcmp : (hs.toList == b.toList) = false := by rw [Pg.tx_eq]; exact decide_eq_false he
        clear hpl he hhs
        go_wp2_with fail
        refine region_det (fun W => W.cell? ⟨rb, 0, none⟩ = some (.int .u64 (l0 : Int)) ∧ W.cell? ⟨rb, 1, none⟩ = some (.int .i64 (l1 : Int)) ∧ W.cell? ⟨rb, 2, none⟩ = some (.slice va k vc) ∧ W.cell? ⟨b1, o1 + 3, none⟩ = some (.int .u64 (l3 : Int)) ∧ Below wr.heap.size wr W) HMX.out (by kernel_rfl) (KeepH.drew HKp.out) ?_
        refine det_read 0 (v := ?vx16) rfl (by kernel_rfl) rfl ?hyx16 ?restx16
        case hyx16 => (intro wS hSw; (try dsimp only at hSw); go_simp; try with_reducible rfl)
        try simp only [Act.put, List.setIfInBounds_toArray, List.set_cons_zero, List.set_cons_succ]
        refine det_call 1 rfl (by kernel_rfl) rfl ?hyx38 (fun W h => KeepH.det (hPl W h.2.2.2.2) h) ?restx38
        case hyx38 => (intro wS hSw; go_simp; try with_reducible rfl)
        try simp only [Act.put, List.setIfInBounds_toArray, List.set_cons_zero, List.set_cons_succ]
        refine det_read 2 (v := ?vx17) rfl (by kernel_rfl) rfl ?hyx17 ?restx17
        case hyx17 => (intro wS hSw; (try dsimp only at hSw); go_simp; try with_reducible rfl)
        try simp only [Act.put, List.setIfInBounds_toArray, List.set_cons_zero, List.set_cons_succ]
        refine det_read 3 (v := ?vx18) rfl (by kernel_rfl) rfl ?hyx18 ?restx18
        case hyx18 => (intro wS hSw; (try dsimp only at hSw); go_simp; try with_reducible rfl)
        try simp only [Act.put, List.setIfInBounds_toArray, List.set_cons_zero, List.set_cons_succ]
        refine det_read 4 (v := ?vx19) rfl (by kernel_rfl) rfl ?hyx19 ?restx19
        case hyx19 => (intro wS hSw; (try dsimp only at hSw); go_simp; try with_reducible rfl)
        try simp only [Act.put, List.setIfInBounds_toArray, List.set_cons_zero, List.set_cons_succ]
        refine det_read 5 (v := ?vx20) rfl (by kernel_rfl) rfl ?hyx20 ?restx20
        case hyx20 => (intro wS hSw; (try dsimp only at hSw); go_simp; try with_reducible rfl)
        try simp only [Act.put, List.setIfInBounds_toArray, List.set_cons_zero, List.set_cons_succ]
        refine det_read 6 (v := ?vx21) rfl (by kernel_rfl) rfl ?hyx21 ?restx21
        case hyx21 => (intro wS hSw; (try dsimp only at hSw); go_simp; try with_reducible rfl)
        try simp only [Act.put, List.setIfInBounds_toArray, List.set_cons_zero, List.set_cons_succ]
        refine det_read 7 (v := ?vx22) rfl (by kernel_rfl) rfl ?hyx22 ?restx22
        case hyx22 => (intro wS hSw; (try dsimp only at hSw); go_simp; try with_reducible rfl)
        try simp only [Act.put, List.setIfInBounds_toArray, List.set_cons_zero, List.set_cons_succ]
        refine det_read 8 (v := ?vx23) rfl (by kernel_rfl) rfl ?hyx23 ?restx23
        case hyx23 => (intro wS hSw; (try dsimp only at hSw); go_simp; try with_reducible rfl)
        try simp only [Act.put, List.setIfInBounds_toArray, List.set_cons_zero, List.set_cons_succ]
        refine det_call 9 rfl (by kernel_rfl) rfl ?hyx39 (fun W h => KeepH.det (hh W h.2.2.2.2) h) ?restx39
        case hyx39 => (intro wS hSw; go_simp; try with_reducible rfl)
        try simp only [Act.put, List.setIfInBounds_toArray, List.set_cons_zero, List.set_cons_succ]
        refine det_read 10 (v := ?vx24) rfl (by kernel_rfl) rfl ?hyx24 ?restx24
        case hyx24 => (intro wS hSw; (try dsimp only at hSw); go_simp; try with_reducible rfl)
        try simp only [Act.put, List.setIfInBounds_toArray, List.set_cons_zero, List.set_cons_succ]
        refine det_read 11 (v := ?vx25) rfl (by kernel_rfl) rfl ?hyx25 ?restx25
        case hyx25 => (intro wS hSw; (try dsimp only at hSw); go_simp; try with_reducible rfl)
        try simp only [Act.put, List.setIfInBounds_toArray, List.set_cons_zero, List.set_cons_succ]
        refine det_read 12 (v := ?vx26) rfl (by kernel_rfl) rfl ?hyx26 ?restx26
        case hyx26 => (intro wS hSw; (try dsimp only at hSw); go_simp; try with_reducible rfl)
        try simp only [Act.put, List.setIfInBounds_toArray, List.set_cons_zero, List.set_cons_succ]
        refine det_done (by kernel_rfl) ?_
        rintro w5 ⟨_, _, _, _, b5⟩
        have hx5 := HX4.out.below b5 HX4.out.lt
        have HB5 : Hid (Below w.heap.size w w5) := HBW.out.trans (b5.mono HBW.out.size)
        obtain ⟨z0, z1, z2, e0, e1, e2⟩ := hx5
        clear b5 k0 k1 k2 q3 hPl hKp r2 x2 y2
        go_wp2
        refine bodyPost_ret (ret_cell_tmp2 rfl _ _ ⟨w.heap.size, 0, none⟩ noRec rfl (by unfold noRec; go_simp)) rfl ?_
        exact head_bad HE.out (by decide) (stored3 HB5.out (Nat.le_refl _) HB5.out.size _ _ _)

/-- the document's own Head of any text -/
theorem rHead12_any (b : ByteArray) (w : World) : Calls Tryz.prog 98 #[.string b] w (HeadAns w b) := by
  by_cases h : b.size = 64
  · cases ho : Crc.opens b.data.toList with
    | false => exact rHead12_sum b h ho w
    | true =>
      by_cases hf : (Crc.headB b).extract 0 4 = Rc.magicB
      · by_cases hm : 40 < Rc.numT (Crc.headB b) 2
        · exact rHead12_many b _ h ho rfl hf hm w
        · exact rHead12_rest b _ h ho rfl hf hm w
      · exact rHead12_magic b _ h ho rfl hf w
  · exact rHead12_short b h w
end Go.Proofs.YtjmeiifogblmoaaGreatDoor

namespace Go.Proofs.YtjmeiifogblmoaaGreatDoor
open Go.RowKit

namespace Rc
/-- a head's parts with these data -/
def dPart (b : ByteArray) (g : Nat → ByteArray) (j : Nat) : Prt := ⟨(hPart b j).col, (hPart b j).off, g j⟩
def decE (b : ByteArray) (m : Nat) (g : Nat → ByteArray) : Nat := if headE b ≠ 0 then headE b else if m ≠ hN b then 31 else bif fullTo (dPart b g) m then (if sumF m (dPart b g) = hSum b then 0 else 80) else 31
def dSeq (b : ByteArray) (m : Nat) (g : Nat → ByteArray) : Nat := if decE b m g = 0 then hSeq b else 0
def dRow (b : ByteArray) (m : Nat) (g : Nat → ByteArray) : Nat := if decE b m g = 0 then hRow b else 0
def dN (b : ByteArray) (m : Nat) (g : Nat → ByteArray) : Nat := if decE b m g = 0 then hN b else 0
theorem decE_head {b : ByteArray} {m : Nat} {g : Nat → ByteArray} (h : headE b ≠ 0) : decE b m g = headE b := if_pos h
theorem decE_count {b : ByteArray} {m : Nat} {g : Nat → ByteArray} (h : headE b = 0) (hm : m ≠ hN b) : decE b m g = 31 := by unfold decE; rw [if_neg (fun x => x h), if_pos hm]
theorem decE_full {b : ByteArray} {m : Nat} {g : Nat → ByteArray} (h : headE b = 0) (hm : m = hN b) (hf : fullTo (dPart b g) m = false) : decE b m g = 31 := by unfold decE; rw [if_neg (fun x => x h), if_neg (fun x => x hm), hf]; rfl
theorem decE_sum {b : ByteArray} {m : Nat} {g : Nat → ByteArray} (h : headE b = 0) (hm : m = hN b) (hf : fullTo (dPart b g) m = true) (hs : sumF m (dPart b g) ≠ hSum b) : decE b m g = 80 := by unfold decE; rw [if_neg (fun x => x h), if_neg (fun x => x hm), hf, cond_true, if_neg hs]
theorem decE_good {b : ByteArray} {m : Nat} {g : Nat → ByteArray} (h : headE b = 0) (hm : m = hN b) (hf : fullTo (dPart b g) m = true) (hs : sumF m (dPart b g) = hSum b) : decE b m g = 0 := by unfold decE; rw [if_neg (fun x => x h), if_neg (fun x => x hm), hf, cond_true, if_pos hs]
/-- what a head that is one tells may be -/
theorem head_places {b : ByteArray} (h : headE b = 0) : placesB (hRow b) (hN b) (hPart b) = true ∧ hSeq b < 18446744073709551616 ∧ hRow b < 256 ∧ 1 ≤ hN b ∧ hN b ≤ 40 ∧ hSum b < 4294967296 ∧ b.size = 64 ∧ headS (hSeq b) (hRow b) (hN b) (hPart b) (hSum b) = b := by
  have hs : b.size = 64 := by
    refine Decidable.byContradiction fun hn => ?_
    rw [headE_short hn] at h; cases h
  have ts := Pg.head_size hs
  obtain ⟨n0, n1, n2, n3⟩ := num_bounds ts
  have e : hSeq b = numT (Crc.headB b) 0 ∧ hRow b = numT (Crc.headB b) 1 ∧ hN b = numT (Crc.headB b) 2 ∧ hSum b = numT (Crc.headB b) 3 := by
    unfold hSeq hRow hN hSum; simp only [if_pos h, and_self]
  have key : placesB (numT (Crc.headB b) 1) (numT (Crc.headB b) 2) (partT (Crc.headB b)) = true ∧ headS (numT (Crc.headB b) 0) (numT (Crc.headB b) 1) (numT (Crc.headB b) 2) (partT (Crc.headB b)) (numT (Crc.headB b) 3) = b := by
    cases ho : Crc.opens b.data.toList with
    | false => rw [headE_sum hs ho] at h; cases h
    | true =>
      by_cases hf : (Crc.headB b).extract 0 4 = magicB
      · by_cases hm : 40 < numT (Crc.headB b) 2
        · rw [headE_many hs ho hf hm] at h; cases h
        · rw [headE_rest hs ho hf hm] at h
          cases hc : (placesB (numT (Crc.headB b) 1) (numT (Crc.headB b) 2) (partT (Crc.headB b)) && decide (headS (numT (Crc.headB b) 0) (numT (Crc.headB b) 1) (numT (Crc.headB b) 2) (partT (Crc.headB b)) (numT (Crc.headB b) 3) = b)) with
          | false => rw [hc] at h; cases h
          | true =>
            rw [Bool.and_eq_true, decide_eq_true_iff] at hc
            exact hc
      · rw [headE_magic hs ho hf] at h; cases h
  obtain ⟨r0, r1, m1, m40⟩ := (few_iff _ _).1 ((places_iff _ _ _).1 key.1).1
  rw [e.1, e.2.1, e.2.2.1, e.2.2.2]
  exact ⟨key.1, n0, by omega, m1, m40, n3, hs, key.2⟩
end Rc
/-- what Decode answers -/
def DecAns12 (w : World) (b : ByteArray) (m : Nat) (g : Nat → ByteArray) (e : Ending) (w' : World) : Prop :=
  ∃ a cap, e = .returned (.tuple #[.agg #[.int .u64 (Rc.dSeq b m g : Int), .int .i64 (Rc.dRow b m g : Int), .slice a (Rc.dN b m g) cap], .int .i64 (Rc.decE b m g : Int)]) ∧ PartsR w' a (Rc.dN b m g) (Rc.dPart b g) ∧ Below w.heap.size w w'
theorem dec_bad {w w' : World} {b : ByteArray} {m : Nat} {g : Nat → ByteArray} {n : Nat} (h : Rc.decE b m g = n) (hn : n ≠ 0) (hb : Below w.heap.size w w') : DecAns12 w b m g (.returned (.tuple #[noRec, .int .i64 (n : Int)])) w' := by
  have e : ¬ Rc.decE b m g = 0 := by rw [h]; exact hn
  refine ⟨none, 0, ?_, ?_, hb⟩
  · unfold Rc.dSeq Rc.dRow Rc.dN
    rw [if_neg e, if_neg e, if_neg e, h]; rfl
  · unfold Rc.dN; rw [if_neg e]; exact PartsR.nil _ _ _

/-- what Decode answers: its parts are new -/
def DecNew12 (w : World) (b : ByteArray) (m : Nat) (g : Nat → ByteArray) (e : Ending) (w' : World) : Prop :=
  ∃ a cap, e = .returned (.tuple #[.agg #[.int .u64 (Rc.dSeq b m g : Int), .int .i64 (Rc.dRow b m g : Int), .slice a (Rc.dN b m g) cap], .int .i64 (Rc.decE b m g : Int)]) ∧ PartsR w' a (Rc.dN b m g) (Rc.dPart b g) ∧ (∀ x, a = some x → w.heap.size ≤ x.block) ∧ Below w.heap.size w w'
theorem DecNew12.ans {w w' : World} {b : ByteArray} {m : Nat} {g : Nat → ByteArray} {e : Ending} (h : DecNew12 w b m g e w') : DecAns12 w b m g e w' := by
  obtain ⟨a, cap, he, hp, _, hb⟩ := h
  exact ⟨a, cap, he, hp, hb⟩
theorem dec_badN {w w' : World} {b : ByteArray} {m : Nat} {g : Nat → ByteArray} {n : Nat} (h : Rc.decE b m g = n) (hn : n ≠ 0) (hb : Below w.heap.size w w') : DecNew12 w b m g (.returned (.tuple #[noRec, .int .i64 (n : Int)])) w' := by
  have e : ¬ Rc.decE b m g = 0 := by rw [h]; exact hn
  refine ⟨none, 0, ?_, ?_, fun _ e => (by cases e), hb⟩
  · unfold Rc.dSeq Rc.dRow Rc.dN
    rw [if_neg e, if_neg e, if_neg e, h]; rfl
  · unfold Rc.dN; rw [if_neg e]; exact PartsR.nil _ _ _

set_option maxRecDepth 100000 in
set_option maxHeartbeats 2000000 in
theorem rDecode12_head (b : ByteArray) (aL : Option Addr) (m capL : Nat) (g : Nat → ByteArray) (h : Rc.headE b ≠ 0) (w : World) :
    Calls Tryz.prog 99 #[.string b, .slice aL m capL] w (DecNew12 w b m g) := by
  have hH := fun W => rHead12_any b W
  have HE : Hid (Rc.decE b m g = Rc.headE b ∧ Rc.headE b ≠ 0) := ⟨Rc.decE_head h, h⟩
  obtain ⟨q, hq⟩ : ∃ q, q = Rc.headE b := ⟨_, rfl⟩
  have hne : ((q : Int) != 0) = true := by simp only [bne_iff_ne, ne_eq]; omega
  unfold HeadAns at hH
  rw [← hq] at hH HE
  obtain ⟨sq, _⟩ : ∃ sq, sq = Rc.hSeq b := ⟨_, rfl⟩
  clear h hq
  go_enter Tryz.func99, Tryz.ntmps99
  go_wp2_with fail
  refine (hH _).mono ?_
  rintro e w1 ⟨a, cap, rfl, _, hb1⟩
  have hx := (BoxAt.new w 74 (.int .u64 0) (.int .i64 0) (.slice none 0 0)).below hb1 (by simp)
  have HB : Hid (Below w.heap.size w w1) := box_below hb1
  have hl := hx.lt
  obtain ⟨k0, k1, k2, f0, f1, f2⟩ := hx
  clear hb1 hH
  go_wp2
  refine bodyPost_ret (ret_cell_tmp rfl _ _ ⟨w.heap.size, 0, none⟩ noRec rfl (by unfold noRec; go_simp)) rfl ?_
  exact dec_badN HE.out.1 HE.out.2 ((stored3 HB.out (Nat.le_refl _) HB.out.size _ _ _).alloc (stored3 HB.out (Nat.le_refl _) HB.out.size _ _ _).size _)

set_option maxRecDepth 100000 in
set_option maxHeartbeats 2000000 in
theorem rDecode12_count (b : ByteArray) (aL : Option Addr) (m capL : Nat) (g : Nat → ByteArray) (h : Rc.headE b = 0) (hm : m ≠ Rc.hN b) (w : World) :
    Calls Tryz.prog 99 #[.string b, .slice aL m capL] w (DecNew12 w b m g) := by
  have hH := fun W => rHead12_any b W
  have HE : Hid (Rc.decE b m g = 31) := Rc.decE_count h hm
  obtain ⟨n, hn⟩ : ∃ n, n = Rc.hN b := ⟨_, rfl⟩
  have hne : ((m : Int) != (n : Int)) = true := by rw [bne_iff_ne]; omega
  unfold HeadAns at hH
  rw [h, ← hn] at hH
  clear h hn hm
  go_enter Tryz.func99, Tryz.ntmps99
  go_wp2_with fail
  refine (hH _).mono ?_
  rintro e w1 ⟨a, cap, rfl, _, hb1⟩
  have hx := (BoxAt.new w 74 (.int .u64 0) (.int .i64 0) (.slice none 0 0)).below hb1 (by simp)
  have HB : Hid (Below w.heap.size w w1) := box_below hb1
  have hl := hx.lt
  obtain ⟨k0, k1, k2, f0, f1, f2⟩ := hx
  clear hb1 hH
  go_wp2
  refine bodyPost_ret (ret_cell_tmp rfl _ _ ⟨w.heap.size, 0, none⟩ noRec rfl (by unfold noRec; go_simp)) rfl ?_
  exact dec_badN HE.out (by decide) ((stored3 HB.out (Nat.le_refl _) HB.out.size _ _ _).alloc (stored3 HB.out (Nat.le_refl _) HB.out.size _ _ _).size _)

theorem BoxAt.other {w : World} {b : Nat} {c0 c1 c2 : Value} (h : BoxAt w b c0 c1 c2) {k : Nat} (hk : b ≠ k) (j : Nat) (x : Value) : BoxAt (w.setCell ⟨k, j, none⟩ x) b c0 c1 c2 :=
  ⟨(World.cell?_setCell_other _ _ _ _ (fun e => by injection e with e2; exact hk e2.symm)).trans h.k0, (World.cell?_setCell_other _ _ _ _ (fun e => by injection e with e2; exact hk e2.symm)).trans h.k1, (World.cell?_setCell_other _ _ _ _ (fun e => by injection e with e2; exact hk e2.symm)).trans h.k2,
    (World.frozen?_setCell _ _ _ _).trans h.f0, (World.frozen?_setCell _ _ _ _).trans h.f1, (World.frozen?_setCell _ _ _ _).trans h.f2⟩
theorem Rc.hPart_cat {b : ByteArray} {g : Nat → ByteArray} {k : Nat} : Rc.catTo (Rc.dPart b g) (k + 1) = Rc.catTo (Rc.dPart b g) k ++ g k := rfl
set_option maxRecDepth 100000 in
set_option maxHeartbeats 4000000 in
theorem rDecode12_loop (b : ByteArray) (bl ol m capL : Nat) (g : Nat → ByteArray) (h : Rc.headE b = 0) (hm : m = Rc.hN b) (w : World) (hp : RowS w (some ⟨bl, ol, none⟩) m g) :
    Calls Tryz.prog 99 #[.string b, .slice (some ⟨bl, ol, none⟩) m capL] w (DecNew12 w b m g) := by
  have hH := fun W => rHead12_any b W
  obtain ⟨_, q0, q1, m1, m40, q3, _, _⟩ := Rc.head_places h
  rw [← hm] at m1 m40
  have HE : Hid (Rc.headE b = 0 ∧ m = Rc.hN b) := ⟨h, hm⟩
  unfold HeadAns at hH
  rw [h, ← hm] at hH
  obtain ⟨l0, e0⟩ : ∃ l0, l0 = Rc.hSeq b := ⟨_, rfl⟩
  obtain ⟨l1, e1⟩ : ∃ l1, l1 = Rc.hRow b := ⟨_, rfl⟩
  obtain ⟨l3, e3⟩ : ∃ l3, l3 = Rc.hSum b := ⟨_, rfl⟩
  rw [← e0] at q0
  rw [← e1] at q1
  rw [← e3] at q3
  rw [← e0, ← e1, ← e3] at hH
  have HL : Hid (l0 = Rc.hSeq b ∧ l1 = Rc.hRow b ∧ l3 = Rc.hSum b) := ⟨e0, e1, e3⟩
  have HPL : Hid (∀ j, j < m → w.cell? ⟨bl, ol + j, none⟩ = some (.string (g j))) := fun j hj => hp.at hj
  have hpi := info_part12
  obtain ⟨i0, hi, hz0, hz1, hz2⟩ := info_parts hpi
  have hmx : Tryz.prog.follows .mixedOrders = true := by kernel_rfl
  have HMX : Hid (Tryz.prog.follows .mixedOrders = true) := hmx
  have hme : ((m : Int) != (m : Int)) = false := by simp
  clear h hm e0 e1 e3 hp hpi hmx
  go_enter Tryz.func99, Tryz.ntmps99
  go_wp2_with fail
  refine (hH _).mono ?_
  rintro e w1 ⟨a, cap, rfl, hpr, hb1⟩
  have hx := (BoxAt.new w 74 (.int .u64 0) (.int .i64 0) (.slice none 0 0)).below hb1 (by simp)
  have HB : Hid (Below w.heap.size w w1) := box_below hb1
  obtain ⟨ba, oa, rfl, hpa⟩ := hpr.head (by omega)
  have HPA : Hid (∀ j, j < m → PartAt w1 ba (oa + j * 3) (Rc.hPart b j)) := hpa
  have HX : Hid (BoxAt w1 w.heap.size (.int .u64 0) (.int .i64 0) (.slice none 0 0)) := hx
  clear hb1 hH hx hpr hpa
  go_upto_region 4 with fail
  obtain ⟨w2, hw2⟩ : ∃ w2, w2 = w1.alloc (.cells #[.int .u64 (l0 : Int), .int .i64 (l1 : Int), .slice (some ⟨ba, oa, none⟩) m cap] 74) := ⟨_, rfl⟩
  rw [← hw2]
  obtain ⟨rb, hrb⟩ : ∃ rb, rb = w1.heap.size := ⟨_, rfl⟩
  have hr2 : BoxAt w2 rb (.int .u64 (l0 : Int)) (.int .i64 (l1 : Int)) (.slice (some ⟨ba, oa, none⟩) m cap) := by rw [hw2, hrb]; exact BoxAt.new w1 _ _ _ _
  have b2 : Below w1.heap.size w1 w2 := by rw [hw2]; exact (Below.refl _ w1).alloc (Nat.le_refl _) _
  have HB2 : Hid (Below w.heap.size w w2) := HB.out.trans (b2.mono HB.out.size)
  have HX2 : Hid (BoxAt w2 w.heap.size (.int .u64 0) (.int .i64 0) (.slice none 0 0)) := HX.out.below b2 HX.out.lt
  have HPA2 : Hid (∀ j, j < m → PartAt w2 ba (oa + j * 3) (Rc.hPart b j)) := fun j hj => (HPA.out j hj).below b2 (HPA.out j hj).lt
  have HPL2 : Hid (∀ j, j < m → w2.cell? ⟨bl, ol + j, none⟩ = some (.string (g j))) := fun j hj => (HB2.out.cell (p := ⟨bl, ol + j, none⟩) (World.block_lt_of_cell? w _ (HPL.out j hj))).trans (HPL.out j hj)
  have HLt : Hid (w.heap.size < rb ∧ rb < w2.heap.size) := ⟨by rw [hrb]; exact HX.out.lt, hr2.lt⟩
  have HR2 : Hid (BoxAt w2 rb (.int .u64 (l0 : Int)) (.int .i64 (l1 : Int)) (.slice (some ⟨ba, oa, none⟩) m cap)) := hr2
  have ki2 := hr2.k2
  rw [← hrb]
  clear hr2 b2 hw2 hrb HB HX HPA HPL
  go_wp2
  go_loopg [9, 10, 11] m (fun gg x v i wr => ∃ (k : Nat) (y : ByteArray) (u : Value), k ≤ m ∧ gg = m - k ∧ x = .string y ∧ y = Rc.catTo (Rc.dPart b g) k ∧ u = v ∧ i = .int .i64 (k : Int) ∧ Rc.fullTo (Rc.dPart b g) k = true ∧ wr.ownsRow w2.heap.size 119 3 u k (prtVals k (Rc.dPart b g)) ∧ Below w2.heap.size w2 wr)
  case atStart =>
    refine ⟨0, _, _, Nat.zero_le _, rfl, rfl, rfl, rfl, rfl, rfl, ?_, (Below.refl _ w2).alloc (Nat.le_refl _) _⟩
    exact World.ownsRow_lit (base := w2.heap.size) (e := 119) (size := 3) w2 #[] 0 (Nat.le_refl _) (by decide) rfl
  case round =>
  obtain ⟨k, y, u, hk, rfl, rfl, hy, rfl, rfl, hfu, hown, hb⟩ := hrel
  have HBr : Hid (Below w2.heap.size w2 wr) := hb
  have OWN : Hid (wr.ownsRow w2.heap.size 119 3 u k (prtVals k (Rc.dPart b g))) := hown
  have HYc : Hid (y = Rc.catTo (Rc.dPart b g) k) := hy
  have HFu : Hid (Rc.fullTo (Rc.dPart b g) k = true) := hfu
  have hys : y.size ≤ 2560 := by rw [hy, Rc.catTo_size hfu]; omega
  have HBW : Hid (Below w.heap.size w wr) := HB2.out.trans (hb.mono HB2.out.size)
  have hx4 := HX2.out.below hb HX2.out.lt
  have HX4 : Hid (BoxAt wr w.heap.size (.int .u64 0) (.int .i64 0) (.slice none 0 0)) := hx4
  have hr4 := HR2.out.below hb HR2.out.lt
  have HR4 : Hid (BoxAt wr rb (.int .u64 (l0 : Int)) (.int .i64 (l1 : Int)) (.slice (some ⟨ba, oa, none⟩) m cap)) := hr4
  have hsz := hb.size
  obtain ⟨_, _, x2, _, _, _⟩ := hr4
  obtain ⟨z0, z1, z2, e0, e1, e2⟩ := hx4
  clear hb hown hy hfu ki2
  by_cases hlt : k < m
  case pos =>
    have hki : (k : Int) < (m : Int) := by omega
    obtain ⟨s, hs⟩ : ∃ s, s = g k := ⟨_, rfl⟩
    have HS : Hid (s = g k) := hs
    have hcl : wr.cell? ⟨bl, ol + k, none⟩ = some (.string s) := by rw [hs]; exact (HBr.out.cell (p := ⟨bl, ol + k, none⟩) (World.block_lt_of_cell? w2 _ (HPL2.out k hlt))).trans (HPL2.out k hlt)
    obtain ⟨pc0, pc1, _⟩ := (HPA2.out k hlt).below HBr.out (HPA2.out k hlt).lt
    clear hs
    by_cases h64 : s.size = 64
    · have hn : ((s.size : Int) != 64) = false := by rw [bne_eq_false_iff_eq]; omega
      have hlim : ¬ 9223372036854775807 < y.size + s.size := by omega
      have hlim2 : ¬ 9223372036854775807 < y.size + 64 := by omega
      have HFu2 : Hid (Rc.fullTo (Rc.dPart b g) (k + 1) = true) := by
        show Rc.fullTo _ _ = true
        unfold Rc.fullTo
        rw [HFu.out, Bool.true_and, decide_eq_true_iff]; show (g k).size = 64; rw [← HS.out]; exact h64
      have HPk : Hid (Rc.dPart b g k = ⟨(Rc.hPart b k).col, (Rc.hPart b k).off, s⟩) := by show _ = _; unfold Rc.dPart; rw [HS.out]
      obtain ⟨pc, hpc⟩ : ∃ pc, pc = (Rc.hPart b k).col := ⟨_, rfl⟩
      obtain ⟨po, hpo⟩ : ∃ po, po = (Rc.hPart b k).off := ⟨_, rfl⟩
      rw [← hpc] at pc0
      rw [← hpo] at pc1
      have HPk2 : Hid (Rc.dPart b g k = ⟨pc, po, s⟩) := by show _ = _; rw [HPk.out, hpc, hpo]
      have hkf := (Rc.fullTo_iff _ _).1 HFu2.out
      have t1 : True := trivial
      clear h64 z0 z1 z2 e0 e1 e2 hpc hpo HPk hkf
      go_upto_region 14 with fail
      refine wp_region_held (S := fun W => W.cell? ⟨rb, 2, none⟩ = some (.slice (some ⟨ba, oa, none⟩) m cap) ∧ W.cell? ⟨ba, oa + k * 3, none⟩ = some (.int .i64 pc) ∧ W.cell? ⟨ba, oa + k * 3 + 1, none⟩ = some (.int .i64 po) ∧ W.cell? ⟨bl, ol + k, none⟩ = some (.string s)) HMX.out ?_
      have hS : (fun W : World => W.cell? ⟨rb, 2, none⟩ = some (.slice (some ⟨ba, oa, none⟩) m cap) ∧ W.cell? ⟨ba, oa + k * 3, none⟩ = some (.int .i64 pc) ∧ W.cell? ⟨ba, oa + k * 3 + 1, none⟩ = some (.int .i64 po) ∧ W.cell? ⟨bl, ol + k, none⟩ = some (.string s)) wr.drew := ⟨x2, pc0, pc1, hcl⟩
      change wpAnyH _ _ _ _ _ _ _ _ wr.drew
      refine held_quiet 0 (v := ?v0q1) rfl (by kernel_rfl) (fun _ _ _ h => h) (by assumption) rfl ?hy0q1 ?rest0q1
      case hy0q1 => (intro wS hSw; (try dsimp only at hSw); go_simp; try with_reducible rfl)
      try simp only [Act.put, List.setIfInBounds_toArray, List.set_cons_zero, List.set_cons_succ]
      refine held_quiet 1 (v := ?v1q2) rfl (by kernel_rfl) (fun _ _ _ h => h) (by assumption) rfl ?hy1q2 ?rest1q2
      case hy1q2 => (intro wS hSw; (try dsimp only at hSw); go_simp; try with_reducible rfl)
      try simp only [Act.put, List.setIfInBounds_toArray, List.set_cons_zero, List.set_cons_succ]
      refine held_quiet 2 (v := ?v2q3) rfl (by kernel_rfl) (fun _ _ _ h => h) (by assumption) rfl ?hy2q3 ?rest2q3
      case hy2q3 => (intro wS hSw; (try dsimp only at hSw); go_simp; try with_reducible rfl)
      try simp only [Act.put, List.setIfInBounds_toArray, List.set_cons_zero, List.set_cons_succ]
      refine held_quiet 3 (v := ?v3q4) rfl (by kernel_rfl) (fun _ _ _ h => h) (by assumption) rfl ?hy3q4 ?rest3q4
      case hy3q4 => (intro wS hSw; (try dsimp only at hSw); go_simp; try with_reducible rfl)
      try simp only [Act.put, List.setIfInBounds_toArray, List.set_cons_zero, List.set_cons_succ]
      refine held_quiet 4 (v := ?v4q5) rfl (by kernel_rfl) (fun _ _ _ h => h) (by assumption) rfl ?hy4q5 ?rest4q5
      case hy4q5 => (intro wS hSw; (try dsimp only at hSw); go_simp; try with_reducible rfl)
      try simp only [Act.put, List.setIfInBounds_toArray, List.set_cons_zero, List.set_cons_succ]
      refine held_quiet 5 (v := ?v5q6) rfl (by kernel_rfl) (fun _ _ _ h => h) (by assumption) rfl ?hy5q6 ?rest5q6
      case hy5q6 => (intro wS hSw; (try dsimp only at hSw); go_simp; try with_reducible rfl)
      try simp only [Act.put, List.setIfInBounds_toArray, List.set_cons_zero, List.set_cons_succ]
      refine held_quiet 6 (v := ?v6q7) rfl (by kernel_rfl) (fun _ _ _ h => h) (by assumption) rfl ?hy6q7 ?rest6q7
      case hy6q7 => (intro wS hSw; (try dsimp only at hSw); go_simp; try with_reducible rfl)
      try simp only [Act.put, List.setIfInBounds_toArray, List.set_cons_zero, List.set_cons_succ]
      refine held_quiet 7 (v := ?v7q8) rfl (by kernel_rfl) (fun _ _ _ h => h) (by assumption) rfl ?hy7q8 ?rest7q8
      case hy7q8 => (intro wS hSw; (try dsimp only at hSw); go_simp; try with_reducible rfl)
      try simp only [Act.put, List.setIfInBounds_toArray, List.set_cons_zero, List.set_cons_succ]
      refine held_quiet 8 (v := ?v8q9) rfl (by kernel_rfl) (fun _ _ _ h => h) (by assumption) rfl ?hy8q9 ?rest8q9
      case hy8q9 => (intro wS hSw; (try dsimp only at hSw); go_simp; try with_reducible rfl)
      try simp only [Act.put, List.setIfInBounds_toArray, List.set_cons_zero, List.set_cons_succ]
      refine held_quiet 9 (v := ?v9q10) rfl (by kernel_rfl) (fun _ _ _ h => h) (by assumption) rfl ?hy9q10 ?rest9q10
      case hy9q10 => (intro wS hSw; (try dsimp only at hSw); go_simp; try with_reducible rfl)
      try simp only [Act.put, List.setIfInBounds_toArray, List.set_cons_zero, List.set_cons_succ]
      refine held_quiet 10 (v := ?v10q11) rfl (by kernel_rfl) (fun _ _ _ h => h) (by assumption) rfl ?hy10q11 ?rest10q11
      case hy10q11 => (intro wS hSw; (try dsimp only at hSw); go_simp; try with_reducible rfl)
      try simp only [Act.put, List.setIfInBounds_toArray, List.set_cons_zero, List.set_cons_succ]
      refine held_quiet 11 (v := ?v11q12) rfl (by kernel_rfl) (fun _ _ _ h => h) (by assumption) rfl ?hy11q12 ?rest11q12
      case hy11q12 => (intro wS hSw; (try dsimp only at hSw); go_simp; try with_reducible rfl)
      try simp only [Act.put, List.setIfInBounds_toArray, List.set_cons_zero, List.set_cons_succ]
      refine held_quiet 12 (v := ?v12q13) rfl (by kernel_rfl) (fun _ _ _ h => h) (by assumption) rfl ?hy12q13 ?rest12q13
      case hy12q13 => (intro wS hSw; (try dsimp only at hSw); go_simp; try with_reducible rfl)
      try simp only [Act.put, List.setIfInBounds_toArray, List.set_cons_zero, List.set_cons_succ]
      refine held_quiet 13 (v := ?v13q14) rfl (by kernel_rfl) (fun _ _ _ h => h) (by assumption) rfl ?hy13q14 ?rest13q14
      case hy13q14 => (intro wS hSw; (try dsimp only at hSw); go_simp; try with_reducible rfl)
      try simp only [Act.put, List.setIfInBounds_toArray, List.set_cons_zero, List.set_cons_succ]
      refine held_quiet 14 (v := ?v14q15) rfl (by kernel_rfl) (fun _ _ _ h => h) (by assumption) rfl ?hy14q15 ?rest14q15
      case hy14q15 => (intro wS hSw; (try dsimp only at hSw); go_simp; try with_reducible rfl)
      try simp only [Act.put, List.setIfInBounds_toArray, List.set_cons_zero, List.set_cons_succ]
      refine held_quiet 15 (v := ?v15q16) rfl (by kernel_rfl) (fun _ _ _ h => h) (by assumption) rfl ?hy15q16 ?rest15q16
      case hy15q16 => (intro wS hSw; (try dsimp only at hSw); go_simp; try with_reducible rfl)
      try simp only [Act.put, List.setIfInBounds_toArray, List.set_cons_zero, List.set_cons_succ]
      refine held_quiet 16 (v := ?v16q17) rfl (by kernel_rfl) (fun _ _ _ h => h) (by assumption) rfl ?hy16q17 ?rest16q17
      case hy16q17 => (intro wS hSw; (try dsimp only at hSw); go_simp; try with_reducible rfl)
      try simp only [Act.put, List.setIfInBounds_toArray, List.set_cons_zero, List.set_cons_succ]
      refine held_quiet 17 (v := ?v17q18) rfl (by kernel_rfl) (fun _ _ _ h => h) (by assumption) rfl ?hy17q18 ?rest17q18
      case hy17q18 => (intro wS hSw; (try dsimp only at hSw); go_simp; try with_reducible rfl)
      try simp only [Act.put, List.setIfInBounds_toArray, List.set_cons_zero, List.set_cons_succ]
      refine held_one 18 rfl (by kernel_rfl) ?_
      go_wp2_with fail
      have hal : Below wr.heap.size wr (wr.alloc (.cells #[.int .i64 pc, .int .i64 po, .string s] 119)) := (Below.refl _ wr).alloc (Nat.le_refl _) _
      have hS3 : (fun W : World => W.cell? ⟨rb, 2, none⟩ = some (.slice (some ⟨ba, oa, none⟩) m cap) ∧ W.cell? ⟨ba, oa + k * 3, none⟩ = some (.int .i64 pc) ∧ W.cell? ⟨ba, oa + k * 3 + 1, none⟩ = some (.int .i64 po) ∧ W.cell? ⟨bl, ol + k, none⟩ = some (.string s)) (wr.alloc (.cells #[.int .i64 pc, .int .i64 po, .string s] 119)) :=
        ⟨(hal.cell (p := ⟨rb, 2, none⟩) (World.block_lt_of_cell? wr _ x2)).trans x2, (hal.cell (p := ⟨ba, oa + k * 3, none⟩) (World.block_lt_of_cell? wr _ pc0)).trans pc0, (hal.cell (p := ⟨ba, oa + k * 3 + 1, none⟩) (World.block_lt_of_cell? wr _ pc1)).trans pc1, (hal.cell (p := ⟨bl, ol + k, none⟩) (World.block_lt_of_cell? wr _ hcl)).trans hcl⟩
      refine ⟨hS3, ?_⟩
      clear hal hS hS3
      refine held_one 19 rfl (by kernel_rfl) ?_
      refine wpList_append_own _ rfl _ _ 61 rfl w2.heap.size 119 i0 (.agg #[.int .i64 0, .int .i64 0, .string ByteArray.empty]) 3 32 Tryz.underlying61 hi hz0 hz1 hz2 rfl (by decide) u k (prtVals k (Rc.dPart b g)) rfl (OWN.out.alloc _) ⟨wr.heap.size, 0, none⟩ 1 1 [.int .i64 pc, .int .i64 po, .string s] rfl rfl (news3 _ _ _ _ _) (by simp [Value.oneCell']) (by unfold maxLen; omega) (by omega) (by simp; omega) ?_
      intro v' w4 hown' hgrow _
      obtain ⟨g', cap', rfl⟩ := ownsRow_succ hown'
      have b4 := below_append OWN.out hsz (grownBy_undrew hgrow)
      have HB4 : Hid (Below w2.heap.size wr w4) := b4
      have OWN4 : Hid (w4.ownsRow w2.heap.size 119 3 (.slice (some ⟨g', 0, none⟩) (k + 1) cap') (k + 1) (prtVals (k + 1) (Rc.dPart b g))) := by show World.ownsRow _ _ _ _ _ _ _; rw [prtVals, HPk2.out]; exact hown'
      have hS4 : (fun W : World => W.cell? ⟨rb, 2, none⟩ = some (.slice (some ⟨ba, oa, none⟩) m cap) ∧ W.cell? ⟨ba, oa + k * 3, none⟩ = some (.int .i64 pc) ∧ W.cell? ⟨ba, oa + k * 3 + 1, none⟩ = some (.int .i64 po) ∧ W.cell? ⟨bl, ol + k, none⟩ = some (.string s)) w4 := by
        have q := HLt.out.2
        have qa := (HPA2.out k hlt).lt
        have ql := World.block_lt_of_cell? w2 _ (HPL2.out k hlt)
        exact ⟨(b4.cell (p := ⟨rb, 2, none⟩) q).trans x2, (b4.cell (p := ⟨ba, oa + k * 3, none⟩) qa).trans pc0, (b4.cell (p := ⟨ba, oa + k * 3 + 1, none⟩) qa).trans pc1, (b4.cell (p := ⟨bl, ol + k, none⟩) ql).trans hcl⟩
      clear b4 hown' hgrow t1 x2 pc0 pc1 hcl
      go_wp2
      try refine ⟨hS4, ?_⟩
      refine held_quiet 20 (v := ?v20q19) rfl (by kernel_rfl) (fun _ _ _ h => h) (by assumption) rfl ?hy20q19 ?rest20q19
      case hy20q19 => (intro wS hSw; (try dsimp only at hSw); go_simp; try with_reducible rfl)
      try simp only [Act.put, List.setIfInBounds_toArray, List.set_cons_zero, List.set_cons_succ]
      refine held_done (by kernel_rfl) ?_
      go_wp2
      go_roundg (m - (k + 1))
      case measure => omega
      case rel => exact ⟨k + 1, _, _, by omega, rfl, rfl, by rw [HYc.out, HS.out]; rfl, rfl, by go_num, HFu2.out, OWN4.out, HBr.out.trans HB4.out⟩
    · have hn : ((s.size : Int) != 64) = true := by rw [bne_iff_ne]; omega
      have HEE : Hid (Rc.decE b m g = 31) := Rc.decE_full HE.out.1 HE.out.2 (Rc.fullTo_not hlt (by show (g k).size ≠ 64; rw [← HS.out]; exact h64))
      clear h64 pc0 pc1
      go_wp2
      refine bodyPost_ret (ret_cell_tmp rfl _ _ ⟨w.heap.size, 0, none⟩ noRec rfl (by unfold noRec; go_simp)) rfl ?_
      exact dec_badN HEE.out (by decide) (stored3 HBW.out (Nat.le_refl _) HBW.out.size _ _ _)
  case neg =>
    have hkm : k = m := by omega
    subst hkm
    obtain ⟨va, vc, rfl, hpr, hvc, hvb⟩ := PartsR.of_owns OWN.out
    have HPR : Hid (PartsR wr va k (Rc.dPart b g)) := hpr
    have HVb : Hid (∀ x, va = some x → w2.heap.size ≤ x.block) := hvb
    have hsm := fun W => refSum_any y (by unfold maxLen; omega) W
    rw [show Crc.more 0 y.data.toList = Rc.sumF k (Rc.dPart b g) by rw [HYc.out]; rfl] at hsm
    obtain ⟨sm, hsme⟩ : ∃ sm, sm = Rc.sumF k (Rc.dPart b g) := ⟨_, rfl⟩
    rw [← hsme] at hsm
    have HSm : Hid (sm = Rc.sumF k (Rc.dPart b g)) := hsme
    clear hpr hvb hvc hsme hlt hk x2
    by_cases hs : sm = l3
    · have HEE : Hid (Rc.decE b k g = 0) := Rc.decE_good HE.out.1 HE.out.2 HFu.out (by rw [← HSm.out, hs, HL.out.2.2])
      have hne : ((sm : Int) != (l3 : Int)) = false := by rw [bne_eq_false_iff_eq]; omega
      clear hs
      obtain ⟨x0, x1, x2, f0, f1, f2⟩ := HR4.out
      clear z0 z1 z2 e0 e1 e2
      go_upto_region 18 with (go_at_call 96; refine (hsm _).mono ?_; rintro e W4 ⟨rfl, rfl⟩)
      have hr5 := HR4.out.store (.slice va k vc)
      have hx5 := HX4.out.other (by have := HLt.out; omega : w.heap.size ≠ rb) 2 (.slice va k vc)
      have b5 : Below w.heap.size w (W4.setCell ⟨rb, 2, none⟩ (.slice va k vc)) := HBW.out.trans ((Only.setCell (fun x => x = rb) W4 ⟨rb, 2, none⟩ (.slice va k vc) rfl).below (fun x hx => by rw [hx]; have := HLt.out; omega) HBW.out.size)
      have hp5 : PartsR (W4.setCell ⟨rb, 2, none⟩ (.slice va k vc)) va k (Rc.dPart b g) := HPR.out.only (Only.setCell (fun x => x = rb) W4 ⟨rb, 2, none⟩ (.slice va k vc) rfl) (fun x hx e => by have := HVb.out x hx; have := HLt.out; omega)
      obtain ⟨w5, hw5⟩ : ∃ w5, w5 = W4.setCell ⟨rb, 2, none⟩ (.slice va k vc) := ⟨_, rfl⟩
      rw [← hw5] at hr5 hx5 b5 hp5 ⊢
      have HP5 : Hid (PartsR w5 va k (Rc.dPart b g)) := hp5
      have HB5 : Hid (Below w.heap.size w w5) := b5
      obtain ⟨y0, y1, y2, g0, g1, g2⟩ := hr5
      obtain ⟨z0, z1, z2, e0, e1, e2⟩ := hx5
      clear hw5 b5 hp5 x0 x1 x2 f0 f1 f2
      go_wp2
      refine bodyPost_ret (ret_cell_tmp rfl _ _ ⟨w.heap.size, 0, none⟩ (.agg #[.int .u64 (l0 : Int), .int .i64 (l1 : Int), .slice va k vc]) rfl (by go_simp)) rfl ?_
      have a1 : Rc.dSeq b k g = l0 := by unfold Rc.dSeq; rw [if_pos HEE.out, HL.out.1]
      have a2 : Rc.dRow b k g = l1 := by unfold Rc.dRow; rw [if_pos HEE.out, HL.out.2.1]
      have a3 : Rc.dN b k g = k := by unfold Rc.dN; rw [if_pos HEE.out]; exact HE.out.2.symm
      refine ⟨va, vc, ?_, ?_, fun x hx => (by have := HVb.out x hx; have := HB2.out.size; omega), ?_⟩
      · rw [a1, a2, a3, HEE.out]; rfl
      · rw [a3]
        exact HP5.out.only (only3 _ _ _ _ _) (fun x hx e => by have := HVb.out x hx; have := HLt.out; omega)
      · exact stored3 HB5.out (Nat.le_refl _) HB5.out.size _ _ _
    · have HEE : Hid (Rc.decE b k g = 80) := Rc.decE_sum HE.out.1 HE.out.2 HFu.out (by rw [← HSm.out, ← HL.out.2.2]; exact hs)
      have hne : ((sm : Int) != (l3 : Int)) = true := by rw [bne_iff_ne]; omega
      clear hs
      go_wp2_with (go_at_call 96; refine (hsm _).mono ?_; rintro e W4 ⟨rfl, rfl⟩)
      refine bodyPost_ret (ret_cell_tmp rfl _ _ ⟨w.heap.size, 0, none⟩ noRec rfl (by unfold noRec; go_simp)) rfl ?_
      exact dec_badN HEE.out (by decide) (stored3 HBW.out (Nat.le_refl _) HBW.out.size _ _ _)

/-- the document's own Decode, of any head and any load -/
theorem rDecode12_new (b : ByteArray) (aL : Option Addr) (m capL : Nat) (g : Nat → ByteArray) (w : World) (hp : RowS w aL m g) :
    Calls Tryz.prog 99 #[.string b, .slice aL m capL] w (DecNew12 w b m g) := by
  by_cases h : Rc.headE b = 0
  · by_cases hm : m = Rc.hN b
    · rcases hp.place with h0 | ⟨bl, ol, rfl⟩
      · have := (Rc.head_places h).2.2.2.1; omega
      · exact rDecode12_loop b bl ol m capL g h hm w hp
    · exact rDecode12_count b aL m capL g h hm w
  · exact rDecode12_head b aL m capL g h w
theorem rDecode12_any (b : ByteArray) (aL : Option Addr) (m capL : Nat) (g : Nat → ByteArray) (w : World) (hp : RowS w aL m g) :
    Calls Tryz.prog 99 #[.string b, .slice aL m capL] w (DecAns12 w b m g) := (rDecode12_new b aL m capL g w hp).mono fun _ _ h => h.ans
end Go.Proofs.YtjmeiifogblmoaaGreatDoor
