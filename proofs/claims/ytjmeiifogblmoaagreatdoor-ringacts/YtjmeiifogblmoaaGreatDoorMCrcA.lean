/- Several texts in one. The walks of crc: bits shifted down, half bytes at once, sums. The walks of crc: sealing, and opening. The walks of crc: opening. -/
import Derived.Test.YtjmeiifogblmoaaGreatDoorMKitA
import Derived.Test.YtjmeiifogblmoaaGreatDoorMPlA
import Derived.Test.YtjmeiifogblmoaaGreatDoorShelf
import Derived.RegionTactic
import Derived.ChangeAlike
import Derived.BigRegion
import Derived.Deep.RegionHeld3
namespace Go.Proofs.YtjmeiifogblmoaaGreatDoor
open Go.RowKit

namespace Crc
theorem and1 (x : Nat) (h : x < 4294967296) : bits BinOp.and IntKind.u32 (x : Int) 1 = ((x % 2 : Nat) : Int) := by
  have e := u32_and_nat x 1 h (by decide)
  rw [show ((1 : Nat) : Int) = 1 from rfl, Nat.and_one_is_mod] at e
  exact e
theorem and15 (x : Nat) (h : x < 4294967296) : bits BinOp.and IntKind.u32 (x : Int) 15 = ((x % 16 : Nat) : Int) := by
  have e := u32_and_nat x 15 h (by decide)
  rw [show ((15 : Nat) : Int) = 15 from rfl, nat_mask4] at e
  exact e
theorem xorP (x : Nat) (h : x < 4294967296) : bits BinOp.xor IntKind.u32 ((x : Int) / 2) 2197175160 = ((x / 2 ^^^ 2197175160 : Nat) : Int) := by
  have e := u32_xor_nat (x / 2) 2197175160 (by omega) (by decide)
  rw [show ((2197175160 : Nat) : Int) = 2197175160 from rfl] at e
  rw [← e]; rfl
end Crc

set_option maxRecDepth 100000 in
set_option maxHeartbeats 400000 in
theorem shifted_any (x k : Nat) (hx : x < 4294967296) (hk : k ≤ 64) (w : World) :
    Calls Tryz.prog 166 #[.int .u32 x, .int .i64 k] w fun e w' => e = .returned (.int .u32 (Crc.shN k x : Nat)) ∧ w' = w := by
  go_enter Tryz.func166, Tryz.ntmps166
  go_wp2
  go_loop [0, 7] (fun v i => ∃ X I : Nat, X < 4294967296 ∧ I ≤ k ∧ Crc.shN (k - I) X = Crc.shN k x ∧ v = .int .u32 X ∧ i = .int .i64 I) (fun _ i => k - (intOf i).toNat)
  case atStart => exact ⟨x, 0, hx, by omega, rfl, rfl, rfl⟩
  case round =>
    obtain ⟨X, I, hX, hI, he, rfl, rfl⟩ := hrel
    by_cases hlt : I < k
    · have hs := Crc.sh_lt hX
      rw [show k - I = (k - (I + 1)) + 1 from by omega] at he
      have He : Hid (Crc.shN (k - (I + 1)) (Crc.sh X) = Crc.shN k x) := he
      clear he
      have h1 := Crc.and1 X hX
      have h2 := Crc.xorP X hX
      by_cases ho : X % 2 = 1
      · have e : Crc.sh X = X / 2 ^^^ 2197175160 := by unfold Crc.sh; rw [if_pos ho]
        have ht : (((X % 2 : Nat) : Int) == 1) = true := by rw [beq_iff_eq]; omega
        have E : Hid (Crc.sh X = X / 2 ^^^ 2197175160) := e
        clear e ho
        go_wp2
        go_round
        case rel => exact ⟨Crc.sh X, I + 1, hs, by omega, He.out, by rw [E.out], by go_num⟩
        case measure => simp [intOf]; omega
      · have e : Crc.sh X = X / 2 := by unfold Crc.sh; rw [if_neg ho]
        have ht : (((X % 2 : Nat) : Int) == 1) = false := by rw [beq_eq_false_iff_ne]; omega
        have E : Hid (Crc.sh X = X / 2) := e
        clear e ho h2
        go_wp2
        go_round
        case rel => exact ⟨Crc.sh X, I + 1, hs, by omega, He.out, by rw [E.out]; go_num, by go_num⟩
        case measure => simp [intOf]; omega
    · have hkk : I = k := by omega
      subst hkk
      rw [Nat.sub_self] at he
      have He : Hid (X = Crc.shN I x) := he
      clear he
      go_wp2
      go_ret
      exact ⟨ret_int (by rw [← He.out]), rfl⟩

set_option maxRecDepth 100000 in
set_option maxHeartbeats 1000000 in
theorem byHalves_any (w : World) :
    Calls Tryz.prog 151 #[] w fun e w' => e = .returned (.func (.func 167) #[] #[.pointer (some ⟨w.heap.size, 0, none⟩)]) ∧ (∀ j, j < 16 → w'.cell? ⟨w.heap.size, j, none⟩ = some (.int .u32 (Crc.shN 4 j : Nat))) ∧ w.heap.size < w'.heap.size ∧ Below w.heap.size w w' := by
  go_enter Tryz.func151, Tryz.ntmps151
  go_wp2
  go_loopw [3] (fun i wr => ∃ k : Nat, k ≤ 16 ∧ i = .int .i64 k ∧ rowV wr w.heap.size 16 (fun j => .int .u32 ((if j < k then Crc.shN 4 j else 0 : Nat) : Int)) ∧ w.heap.size < wr.heap.size ∧ Below w.heap.size w wr) (fun i _ => 16 - (intOf i).toNat)
  case atStart =>
    refine ⟨0, by omega, rfl, ?_, by simp, (Below.refl _ _).alloc (Nat.le_refl _) _⟩
    exact rowV_new w #[.int .u32 0, .int .u32 0, .int .u32 0, .int .u32 0, .int .u32 0, .int .u32 0, .int .u32 0, .int .u32 0, .int .u32 0, .int .u32 0, .int .u32 0, .int .u32 0, .int .u32 0, .int .u32 0, .int .u32 0, .int .u32 0] _ _ (fun j hj => by
      rw [if_neg (by omega)]
      have h : j = 0 ∨ j = 1 ∨ j = 2 ∨ j = 3 ∨ j = 4 ∨ j = 5 ∨ j = 6 ∨ j = 7 ∨ j = 8 ∨ j = 9 ∨ j = 10 ∨ j = 11 ∨ j = 12 ∨ j = 13 ∨ j = 14 ∨ j = 15 := by simp at hj; omega
      rcases h with rfl | rfl | rfl | rfl | rfl | rfl | rfl | rfl | rfl | rfl | rfl | rfl | rfl | rfl | rfl | rfl <;> rfl)
  case round =>
    obtain ⟨k, hk, rfl, hr, hz, hb⟩ := hrel
    by_cases hlt : k < 16
    · have hc : wr.cell? ⟨w.heap.size, k, none⟩ = some (.int .u32 0) := by simpa using (hr k hlt).1
      have hf := (hr k hlt).2
      have Hr : Hid (rowV wr w.heap.size 16 (fun j => .int .u32 ((if j < k then Crc.shN 4 j else 0 : Nat) : Int))) := hr
      have Hb : Hid (Below w.heap.size w wr) := hb
      clear hr hb
      go_wp2_with fail
      refine (shifted_any k 4 (by omega) (by omega) _).mono ?_
      rintro e w' ⟨rfl, rfl⟩
      go_wp2
      go_roundw
      case rel =>
        refine ⟨k + 1, by omega, by go_num, (Hr.out.set k _).mono ?_, by simpa using hz, Hb.out.setCell (p := ⟨w.heap.size, k, none⟩) (Nat.le_refl _) _⟩
        intro j _
        by_cases e : j = k
        · subst e; simp
        · simp only [if_neg e]
          by_cases h : j < k
          · rw [if_pos h, if_pos (by omega)]
          · rw [if_neg h, if_neg (by omega)]
      case measure => simp [intOf]; omega
    · have hkk : k = 16 := by omega
      have hc : ∀ j, j < 16 → wr.cell? ⟨w.heap.size, j, none⟩ = some (.int .u32 (Crc.shN 4 j : Nat)) := fun j hj => by
        rw [(hr j hj).1]; simp only [if_pos (show j < k from by omega)]
      have Hc : Hid (∀ j, j < 16 → wr.cell? ⟨w.heap.size, j, none⟩ = some (.int .u32 (Crc.shN 4 j : Nat))) := hc
      have Hb : Hid (Below w.heap.size w wr) := hb
      clear hr hc hb hkk
      go_wp2
      go_ret
      exact ⟨rfl, Hc.out, hz, Hb.out⟩

namespace Crc
theorem not_xor (n : Nat) (h : n < 4294967296) : 4294967295 ^^^ n = neg n := not_xor' n h
theorem compl (n : Nat) (h : n < 4294967296) : bits BinOp.xor IntKind.u32 IntKind.u32.max (n : Int) = ((neg n : Nat) : Int) := by
  have e := u32_xor_nat 4294967295 n (by decide) h
  rw [not_xor n h] at e
  rw [← e]; rfl
theorem half_int (x : Nat) (h : x < 4294967296) : bits BinOp.xor IntKind.u32 ((x : Int) / 16) ((shN 4 (x % 16) : Nat) : Int) = ((shN 4 x : Nat) : Int) := by
  have e := u32_xor_nat (x / 16) (shN 4 (x % 16)) (by omega) (shN_lt 4 (by omega))
  rw [half] at e
  rw [← e]; rfl
theorem xor_byte (x : Nat) (c : UInt8) (h : x < 4294967296) : bits BinOp.xor IntKind.u32 (x : Int) ((c.toNat : Int) % 4294967296) = ((x ^^^ c.toNat : Nat) : Int) := by
  have hc := c.toNat_lt
  rw [show ((c.toNat : Int) % 4294967296) = (c.toNat : Int) from by omega]
  exact u32_xor_nat x c.toNat h (by omega)
theorem run_snoc (x : Nat) (l : List UInt8) (k : Nat) (hk : k < l.length) : run x (l.take (k + 1)) = shN 4 (shN 4 (run x (l.take k) ^^^ (l[k]).toNat)) := by
  rw [List.take_succ_eq_append_getElem hk, run_append]
  show shN 8 _ = _
  exact shN_add 4 4 _
end Crc

set_option maxRecDepth 100000 in
set_option maxHeartbeats 400000 in
theorem half_any (x : Nat) (hx : x < 4294967296) (g : Nat) (w : World) (hc : ∀ j, j < 16 → w.cell? ⟨g, j, none⟩ = some (.int .u32 (Crc.shN 4 j : Nat))) :
    Calls Tryz.prog 167 #[.int .u32 x, .pointer (some ⟨g, 0, none⟩)] w fun e w' => e = .returned (.int .u32 (Crc.shN 4 x : Nat)) ∧ w' = w := by
  have h1 := Crc.and15 x hx
  have h2 := Crc.half_int x hx
  have h3 := hc (x % 16) (by omega)
  obtain ⟨r, hr⟩ : ∃ r, r = x % 16 := ⟨_, rfl⟩
  have hr16 : r < 16 := by omega
  rw [← hr] at h1 h2 h3
  clear hc hr
  go_enter Tryz.func167, Tryz.ntmps167
  go_wp2
  go_ret
  exact ⟨rfl, rfl⟩

set_option maxRecDepth 100000 in
set_option maxHeartbeats 1000000 in
theorem More_any (n : Nat) (s : ByteArray) (hn : n < 4294967296) (hs : s.size ≤ maxLen) (w : World) :
    Calls Tryz.prog 137 #[.int .u32 n, .string s] w fun e w' => e = .returned (.int .u32 (Crc.more n s.data.toList : Nat)) ∧ Below w.heap.size w w' := by
  unfold maxLen at hs
  have hsl : s.data.toList.length = s.size := by simp
  have Hsl : Hid (s.data.toList.length = s.size) := hsl
  have c1 := Crc.compl n hn
  have hneg := Crc.neg_lt n
  clear hsl
  go_enter Tryz.func137, Tryz.ntmps137
  go_wp2_with fail
  refine (byHalves_any _).mono ?_
  rintro e w1 ⟨rfl, hc, hz, hb⟩
  go_wp2
  go_loop [6, 13] (fun x i => ∃ k X : Nat, k ≤ s.size ∧ i = .int .i64 k ∧ X < 4294967296 ∧ x = .int .u32 X ∧ X = Crc.run (Crc.neg n) (s.data.toList.take k)) (fun _ i => s.size - (intOf i).toNat)
  case atStart => exact ⟨0, Crc.neg n, by omega, rfl, hneg, rfl, rfl⟩
  case round =>
    obtain ⟨k, X, hk, rfl, hX, rfl, he⟩ := hrel
    have He : Hid (X = Crc.run (Crc.neg n) (s.data.toList.take k)) := he
    have Hb : Hid (Below w.heap.size w w1) := hb
    have Hc : Hid (∀ j, j < 16 → w1.cell? ⟨w.heap.size, j, none⟩ = some (.int .u32 (Crc.shN 4 j : Nat))) := hc
    clear he hb hc
    by_cases hlt : k < s.size
    · have hk' : k < s.data.toList.length := by rw [Hsl.out]; exact hlt
      have hst := Crc.run_snoc (Crc.neg n) s.data.toList k hk'
      have hxb := Crc.xor_byte X s[k] hX
      have hxl := Crc.xor_lt hX (show (s[k]).toNat < 4294967296 by have := s[k].toNat_lt; omega)
      have Hst : Hid (Crc.run (Crc.neg n) (s.data.toList.take (k + 1)) = Crc.shN 4 (Crc.shN 4 (X ^^^ s[k].toNat))) := by
        show _ = _
        rw [hst, ← He.out]; rfl
      obtain ⟨Y, hY⟩ : ∃ Y, Y = X ^^^ s[k].toNat := ⟨_, rfl⟩
      rw [← hY] at hxb hxl Hst
      have hl1 := Crc.shN_lt 4 hxl
      have hl2 := Crc.shN_lt 4 hl1
      clear hst hY
      go_wp2_with fail
      refine (half_any Y hxl _ _ Hc.out).mono ?_
      rintro e w' ⟨rfl, rfl⟩
      go_wp2_with fail
      refine (half_any _ hl1 _ _ Hc.out).mono ?_
      rintro e w' ⟨rfl, rfl⟩
      go_wp2
      go_round
      case rel => exact ⟨k + 1, _, by omega, by go_num, hl2, rfl, Hst.out.symm⟩
      case measure => simp [intOf]; omega
    · have hkk : k = s.size := by omega
      have hw := He.out
      rw [hkk, List.take_of_length_le (by rw [Hsl.out]; exact Nat.le_refl _)] at hw
      have hm : Crc.more n s.data.toList = Crc.neg X := by rw [hw]; rfl
      have Hm : Hid (Crc.more n s.data.toList = Crc.neg X) := hm
      have c2 := Crc.compl X hX
      clear hw hm hkk
      go_wp2
      go_ret
      exact ⟨ret_int (by rw [Hm.out]), Hb.out⟩

set_option maxRecDepth 100000 in
set_option maxHeartbeats 400000 in
theorem Sum_any (s : ByteArray) (hs : s.size ≤ maxLen) (w : World) :
    Calls Tryz.prog 108 #[.string s] w fun e w' => e = .returned (.int .u32 (Crc.more 0 s.data.toList : Nat)) ∧ Below w.heap.size w w' := by
  go_enter Tryz.func108, Tryz.ntmps108
  go_wp2_with fail
  refine (More_any 0 s (by decide) hs _).mono ?_
  rintro e w' ⟨rfl, hb⟩
  go_wp2
  go_ret
  exact ⟨rfl, hb⟩

theorem Crc.nine : Crc.more 0 [49, 50, 51, 52, 53, 54, 55, 56, 57] = 3808858755 := by decide +kernel
end Go.Proofs.YtjmeiifogblmoaaGreatDoor

namespace Go.Proofs.YtjmeiifogblmoaaGreatDoor
open Go.RowKit

set_option maxRecDepth 100000 in
set_option maxHeartbeats 1000000 in
theorem ending_any (s : ByteArray) (hs : s.size ≤ maxLen) (w : World) :
    Calls Tryz.prog 110 #[.string s] w fun e w' => e = .returned (.string ⟨(Crc.fourL (Crc.more 0 s.data.toList)).toArray⟩) ∧ Below w.heap.size w w' := by
  have hl := Crc.more_lt 0 s.data.toList
  obtain ⟨n, hn⟩ : ∃ n, n = Crc.more 0 s.data.toList := ⟨_, rfl⟩
  have hcv : ∀ W : World, (convert 44 9 (.slice (some ⟨W.heap.size, 0, none⟩) 4 4)).run Tryz.prog (W.alloc (.cells #[.int .u8 ((n : Int) % 256), .int .u8 ((n : Int) / 256 % 256), .int .u8 ((n : Int) / 65536 % 256), .int .u8 ((n : Int) / 16777216)] 5)) = .ok (.string ⟨(Crc.fourL n).toArray⟩) (W.alloc (.cells #[.int .u8 ((n : Int) % 256), .int .u8 ((n : Int) / 256 % 256), .int .u8 ((n : Int) / 65536 % 256), .int .u8 ((n : Int) / 16777216)] 5)) := by
    intro W
    refine run_convert_bytes_back _ _ _ 5 _ 4 (Crc.fourL n) Tryz.underlying44 Tryz.underlying5 Tryz.underlying9 fun j hj => ?_
    rw [Crc.fourL_length] at hj
    have hadd : (⟨W.heap.size, 0, none⟩ : Addr).add j = ⟨W.heap.size, j, none⟩ := by unfold Addr.add; split <;> simp_all
    rw [hadd, World.cell?_alloc_mark]
    have hl' : n < 4294967296 := by rw [hn]; exact hl
    rcases (by omega : j = 0 ∨ j = 1 ∨ j = 2 ∨ j = 3) with rfl | rfl | rfl | rfl <;> simp [Crc.fourL] <;> omega
  rw [← hn]
  have Hn : Hid (n = Crc.more 0 s.data.toList) := hn
  rw [← hn] at hl
  clear hn
  go_enter Tryz.func110, Tryz.ntmps110
  go_wp2_with fail
  refine (Sum_any s hs _).mono ?_
  rintro e w' ⟨rfl, hb⟩
  rw [← Hn.out]
  go_wp2
  go_ret
  exact ⟨rfl, below2 hb ((Below.refl _ _).alloc (Nat.le_refl _) _)⟩

set_option maxRecDepth 100000 in
set_option maxHeartbeats 400000 in
theorem Clone_any (s : ByteArray) (hs : s.size ≤ 281474976710656) (w : World) :
    Calls Tryz.prog 106 #[.string s] w fun e w' => e = .returned (.string s) ∧ Below w.heap.size w w' := by
  go_enter Tryz.func106, Tryz.ntmps106
  go_wp2_with fail
  refine (Tryz.stringslite_Clone s _ hs).mono ?_
  rintro e w' ⟨rfl, hb⟩
  go_wp2
  go_ret
  exact ⟨rfl, hb⟩

theorem repeat_zero (c : Nat) : Lib.repeatL [0] c = List.replicate c 0 := by
  induction c with
  | zero => rfl
  | succ c ih => show [0] ++ Lib.repeatL [0] c = _; rw [ih]; rfl

set_option maxRecDepth 100000 in
set_option maxHeartbeats 1000000 in
theorem Seal_yes (s : ByteArray) (m : Nat) (h1 : 4 ≤ m) (h2 : m ≤ 4096) (h3 : s.size ≤ m - 4) (w : World) :
    Calls Tryz.prog 74 #[.string s, .int .i64 m] w fun e w' => e = .returned (.tuple #[.string (Crc.sealB s m), .bool true]) ∧ Below w.heap.size w w' := by
  obtain ⟨c, hc⟩ : ∃ c : Nat, c = m - 4 - s.size := ⟨_, rfl⟩
  have hci : (m : Int) - 4 - (s.size : Int) = (c : Int) := by omega
  have hsl : s.data.toList.length = s.size := by simp
  have hpad : s ++ (⟨(Lib.repeatL [0] c).toArray⟩ : ByteArray) = ⟨(Crc.padL s.data.toList (m - 4)).toArray⟩ := by
    apply ByteArray.ext
    apply Array.toList_inj.1
    rw [repeat_zero]
    simp [Crc.padL, hsl, hc]
  have hps : (⟨(Crc.padL s.data.toList (m - 4)).toArray⟩ : ByteArray).size = m - 4 := by
    show (Crc.padL _ _).toArray.size = _
    rw [List.size_toArray, Crc.padL_length _ _ (by omega)]
  have hfin : (⟨(Crc.padL s.data.toList (m - 4)).toArray⟩ : ByteArray) ++ (⟨(Crc.fourL (Crc.more 0 (Crc.padL s.data.toList (m - 4)))).toArray⟩ : ByteArray) = Crc.sealB s m := by
    apply ByteArray.ext
    apply Array.toList_inj.1
    simp [Crc.sealB, Crc.sealL]
  obtain ⟨z, hz⟩ : ∃ z : ByteArray, z = ⟨(Lib.repeatL [0] c).toArray⟩ := ⟨_, rfl⟩
  obtain ⟨p, hp⟩ : ∃ p : ByteArray, p = ⟨(Crc.padL s.data.toList (m - 4)).toArray⟩ := ⟨_, rfl⟩
  obtain ⟨q, hq⟩ : ∃ q : ByteArray, q = ⟨(Crc.fourL (Crc.more 0 (Crc.padL s.data.toList (m - 4)))).toArray⟩ := ⟨_, rfl⟩
  have hpl : Crc.padL s.data.toList (m - 4) = p.data.toList := by rw [hp]
  rw [← hz, ← hp] at hpad
  rw [← hp] at hps
  rw [← hp, ← hq] at hfin
  have hzs : z.size ≤ 4096 := by
    rw [hz, repeat_zero]; show (List.replicate c (0 : UInt8)).toArray.size ≤ _; simp; omega
  have hqs : q.size ≤ 4 := by rw [hq]; exact Nat.le_refl _
  have hss : s.size ≤ 4096 := by omega
  have hpz : p.size ≤ 4096 := by omega
  have Hq : Hid (⟨(Crc.fourL (Crc.more 0 p.data.toList)).toArray⟩ = q) := by show _ = q; rw [hq, hpl]
  have Hz : Hid ((⟨(Lib.repeatL [0] c).toArray⟩ : ByteArray) = z) := hz.symm
  have hc4 : c ≤ 4096 := by omega
  clear hc hsl hps hz hp hq hpl
  go_enter Tryz.func74, Tryz.ntmps74
  go_wp2_with fail
  refine (Tryz.strings_Repeat ⟨#[0]⟩ c _ (by omega) (by show 1 * c ≤ _; omega)).mono ?_
  rintro e w1 ⟨rfl, hb1⟩
  rw [show (ByteArray.mk #[0]).data.toList = [0] from rfl, Hz.out]
  go_wp2_with fail
  refine (ending_any p (by unfold maxLen; omega) _).mono ?_
  rintro e w2 ⟨rfl, hb2⟩
  rw [Hq.out]
  go_wp2
  go_ret2
  exact ⟨rfl, below2 hb1 hb2⟩

set_option maxRecDepth 100000 in
set_option maxHeartbeats 1000000 in
theorem Seal_no (s : ByteArray) (m : Int) (h0 : -9223372036854775808 ≤ m) (h9 : m ≤ 9223372036854775807) (h : m < 4 ∨ 4096 < m ∨ m - 4 < (s.size : Int)) (w : World) :
    Calls Tryz.prog 74 #[.string s, .int .i64 m] w fun e w' => e = .returned (.tuple #[.string ⟨#[]⟩, .bool false]) ∧ w' = w := by
  by_cases h1 : m < 4
  · clear h
    go_enter Tryz.func74, Tryz.ntmps74
    go_wp2
    go_ret2
    exact ⟨rfl, rfl⟩
  · by_cases h2 : 4096 < m
    · clear h
      go_enter Tryz.func74, Tryz.ntmps74
      go_wp2
      go_ret2
      exact ⟨rfl, rfl⟩
    · have h3 : m - 4 < (s.size : Int) := by omega
      clear h
      go_enter Tryz.func74, Tryz.ntmps74
      go_wp2
      go_ret2
      exact ⟨rfl, rfl⟩
end Go.Proofs.YtjmeiifogblmoaaGreatDoor

namespace Go.Proofs.YtjmeiifogblmoaaGreatDoor
open Go.RowKit

set_option maxRecDepth 100000 in
set_option maxHeartbeats 1000000 in
theorem Open_short (s : ByteArray) (h : s.size < 4) (w : World) :
    Calls Tryz.prog 88 #[.string s] w fun e w' => e = .returned (.tuple #[.string ⟨#[]⟩, .bool false]) ∧ Below w.heap.size w w' := by
  have hd : decide ((s.size : Int) - 4 < 0) = true := by rw [decide_eq_true_eq]; omega
  go_enter Tryz.func88, Tryz.ntmps88
  go_wp2
  go_region
  all_goals go_wp2
  all_goals go_ret2
  all_goals exact ⟨rfl, (Below.refl _ _).drew⟩

theorem opens_iff (s : ByteArray) (h : 4 ≤ s.size) (k : Nat) (hk : k = s.size - 4) : ((s.extract k s.size).toList == Crc.fourL (Crc.more 0 (s.data.toList.take k))) = Crc.opens s.data.toList := by
  have hl : s.data.toList.length = s.size := by simp
  unfold Crc.opens
  rw [hl, ← hk, decide_eq_true h, Bool.true_and]
  have e : (s.extract k s.size).toList = s.data.toList.drop k := by
    rw [ByteArray.toList_eq, ByteArray.data_extract, Array.toList_extract, List.extract_eq_take_drop]
    exact List.take_of_length_le (by rw [List.length_drop, hl]; omega)
  rw [e]

set_option maxRecDepth 100000 in
set_option maxHeartbeats 1000000 in
theorem Open_yes (s : ByteArray) (hs : s.size ≤ 1048576) (h : Crc.opens s.data.toList = true) (w : World) :
    Calls Tryz.prog 88 #[.string s] w fun e w' => e = .returned (.tuple #[.string (Crc.headB s), .bool true]) ∧ Below w.heap.size w w' := by
  have h4 : 4 ≤ s.size := by
    unfold Crc.opens at h
    rw [Bool.and_eq_true, decide_eq_true_eq] at h
    simpa using h.1
  obtain ⟨k, hk⟩ : ∃ k : Nat, k = s.size - 4 := ⟨_, rfl⟩
  have hq := (opens_iff s h4 k hk).trans h
  have hki : (s.size : Int) - 4 = (k : Int) := by omega
  have hkl : (k : Int) ≤ (s.size : Int) := by omega
  have hd : ¬ (k : Int) < 0 := by omega
  have hz : (s.extract 0 k).size ≤ 1048576 := by simp; omega
  have hh : s.extract 0 k = Crc.headB s := by rw [hk]; rfl
  have Hh : Hid (s.extract 0 k = Crc.headB s) := hh
  have Hz : Hid ((s.extract 0 k).size ≤ 1048576) := hz
  clear hk hz hh
  go_enter Tryz.func88, Tryz.ntmps88
  go_wp2
  go_region_held3 (fun _ => True) (trivial) (first | (go_at_call 110; refine (ending_any (s.extract 0 k) (Nat.le_trans Hz.out (by decide)) _).mono ?_; rintro e w1 ⟨rfl, hb1⟩))
  go_wp2_with fail
  refine (Clone_any (s.extract 0 k) (Nat.le_trans Hz.out (by decide)) _).mono ?_
  rintro e w2 ⟨rfl, hb2⟩
  go_wp2
  go_ret2
  exact ⟨ret_two (by rw [← Hh.out]; rfl) rfl, below2 ((Below.refl _ _).drew.trans hb1) hb2⟩

set_option maxRecDepth 100000 in
set_option maxHeartbeats 1000000 in
theorem Open_no (s : ByteArray) (hs : s.size ≤ 1048576) (h : Crc.opens s.data.toList = false) (w : World) :
    Calls Tryz.prog 88 #[.string s] w fun e w' => e = .returned (.tuple #[.string ⟨#[]⟩, .bool false]) ∧ Below w.heap.size w w' := by
  by_cases h4 : 4 ≤ s.size
  · obtain ⟨k, hk⟩ : ∃ k : Nat, k = s.size - 4 := ⟨_, rfl⟩
    have hq := (opens_iff s h4 k hk).trans h
    have hki : (s.size : Int) - 4 = (k : Int) := by omega
    have hkl : (k : Int) ≤ (s.size : Int) := by omega
    have hd : ¬ (k : Int) < 0 := by omega
    have hz : (s.extract 0 k).size ≤ 1048576 := by simp; omega
    have Hz : Hid ((s.extract 0 k).size ≤ 1048576) := hz
    clear hk hz
    go_enter Tryz.func88, Tryz.ntmps88
    go_wp2
    go_region_held3 (fun _ => True) (trivial) (first | (go_at_call 110; refine (ending_any (s.extract 0 k) (Nat.le_trans Hz.out (by decide)) _).mono ?_; rintro e w1 ⟨rfl, hb1⟩))
    go_wp2
    go_ret2
    exact ⟨rfl, (Below.refl _ _).drew.trans hb1⟩
  · exact Open_short s (by omega) w
end Go.Proofs.YtjmeiifogblmoaaGreatDoor
