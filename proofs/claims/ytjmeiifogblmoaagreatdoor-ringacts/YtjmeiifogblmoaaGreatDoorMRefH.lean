/- Several texts in one. The walks of the document's own answers for crc: sums, sealing, opening. The walk of the document's own answer for crc: opening. -/
import Derived.Test.YtjmeiifogblmoaaGreatDoorMCrcA
import Derived.RegionTactic
import Derived.ChangeAlike
import Derived.BigRegion
import Derived.Deep.RegionHeld3
namespace Go.Proofs.YtjmeiifogblmoaaGreatDoor
open Go.RowKit

set_option maxRecDepth 100000 in
set_option maxHeartbeats 2000000 in
theorem refMore_any (n : Nat) (s : ByteArray) (hn : n < 4294967296) (hs : s.size ≤ maxLen) (w : World) :
    Calls Tryz.prog 130 #[.int .u32 n, .string s] w fun e w' => e = .returned (.int .u32 (Crc.more n s.data.toList : Nat)) ∧ w' = w := by
  unfold maxLen at hs
  have hsl : s.data.toList.length = s.size := by simp
  have Hsl : Hid (s.data.toList.length = s.size) := hsl
  have c1 := Crc.compl n hn
  have hneg := Crc.neg_lt n
  clear hsl
  go_enter Tryz.func130, Tryz.ntmps130
  go_wp2
  go_loop [5, 6] (fun x i => ∃ k X : Nat, k ≤ s.size ∧ i = .int .i64 k ∧ X < 4294967296 ∧ x = .int .u32 X ∧ X = Crc.run (Crc.neg n) (s.data.toList.take k)) (fun _ i => s.size - (intOf i).toNat)
  case atStart => exact ⟨0, Crc.neg n, by omega, rfl, hneg, rfl, rfl⟩
  case round =>
    obtain ⟨k, X, hk, rfl, hX, rfl, he⟩ := hrel
    have He : Hid (X = Crc.run (Crc.neg n) (s.data.toList.take k)) := he
    clear he
    by_cases hlt : k < s.size
    · have hk' : k < s.data.toList.length := by rw [Hsl.out]; exact hlt
      have hst := Crc.run_snoc (Crc.neg n) s.data.toList k hk'
      have hxb := Crc.xor_byte X s[k] hX
      have hxl := Crc.xor_lt hX (show (s[k]).toNat < 4294967296 by have := s[k].toNat_lt; omega)
      have Hst : Hid (Crc.run (Crc.neg n) (s.data.toList.take (k + 1)) = Crc.shN 8 (X ^^^ s[k].toNat)) := by
        show _ = _
        rw [hst, ← He.out, Crc.shN_add 4 4]; rfl
      obtain ⟨Y, hY⟩ : ∃ Y, Y = X ^^^ s[k].toNat := ⟨_, rfl⟩
      rw [← hY] at hxb hxl Hst
      clear hst hY
      go_wp2
      go_loop [5, 7] (fun v i => ∃ V I : Nat, V < 4294967296 ∧ I ≤ 8 ∧ Crc.shN (8 - I) V = Crc.shN 8 Y ∧ v = .int .u32 V ∧ i = .int .i64 I) (fun _ i => 8 - (intOf i).toNat)
      case atStart => exact ⟨Y, 0, hxl, by omega, rfl, rfl, rfl⟩
      case round =>
        obtain ⟨V, I, hV, hI, hv, rfl, rfl⟩ := hrel
        by_cases hl8 : I < 8
        · have hsv := Crc.sh_lt hV
          rw [show 8 - I = (8 - (I + 1)) + 1 from by omega] at hv
          have Hv : Hid (Crc.shN (8 - (I + 1)) (Crc.sh V) = Crc.shN 8 Y) := hv
          clear hv
          have h1 := Crc.and1 V hV
          have h2 := Crc.xorP V hV
          by_cases ho : V % 2 = 1
          · have E : Hid (Crc.sh V = V / 2 ^^^ 2197175160) := by show _ = _; unfold Crc.sh; rw [if_pos ho]
            have ht : (((V % 2 : Nat) : Int) == 1) = true := by rw [beq_iff_eq]; omega
            clear ho
            go_wp2
            go_round
            case rel => exact ⟨Crc.sh V, I + 1, hsv, by omega, Hv.out, by rw [E.out], by go_num⟩
            case measure => simp [intOf]; omega
          · have E : Hid (Crc.sh V = V / 2) := by show _ = _; unfold Crc.sh; rw [if_neg ho]
            have ht : (((V % 2 : Nat) : Int) == 1) = false := by rw [beq_eq_false_iff_ne]; omega
            clear ho h2
            go_wp2
            go_round
            case rel => exact ⟨Crc.sh V, I + 1, hsv, by omega, Hv.out, by rw [E.out]; go_num, by go_num⟩
            case measure => simp [intOf]; omega
        · have hi8 : I = 8 := by omega
          subst hi8
          have Hv : Hid (V = Crc.shN 8 Y) := hv
          clear hv
          go_wp2
          go_round
          case rel => exact ⟨k + 1, V, by omega, by go_num, hV, rfl, by rw [Hst.out, ← Hv.out]⟩
          case measure => simp [intOf]; omega
    · have hkk : k = s.size := by omega
      have hw := He.out
      rw [hkk, List.take_of_length_le (by rw [Hsl.out]; exact Nat.le_refl _)] at hw
      have Hm : Hid (Crc.more n s.data.toList = Crc.neg X) := by show _ = _; rw [hw]; rfl
      have c2 := Crc.compl X hX
      clear hw hkk
      go_wp2
      go_ret
      exact ⟨ret_int (by rw [Hm.out]), rfl⟩

set_option maxRecDepth 100000 in
set_option maxHeartbeats 400000 in
theorem refSum_any (s : ByteArray) (hs : s.size ≤ maxLen) (w : World) :
    Calls Tryz.prog 96 #[.string s] w fun e w' => e = .returned (.int .u32 (Crc.more 0 s.data.toList : Nat)) ∧ w' = w := by
  go_enter Tryz.func96, Tryz.ntmps96
  go_wp2_with fail
  refine (refMore_any 0 s (by decide) hs _).mono ?_
  rintro e w' ⟨rfl, rfl⟩
  go_wp2
  go_ret
  exact ⟨rfl, rfl⟩

set_option maxRecDepth 100000 in
set_option maxHeartbeats 1000000 in
theorem four_any (n : Nat) (hl : n < 4294967296) (w : World) :
    Calls Tryz.prog 95 #[.int .u32 n] w fun e w' => e = .returned (.string ⟨(Crc.fourL n).toArray⟩) ∧ Below w.heap.size w w' := by
  have hcv : ∀ W : World, (convert 44 9 (.slice (some ⟨W.heap.size, 0, none⟩) 4 4)).run Tryz.prog (W.alloc (.cells #[.int .u8 ((n : Int) % 256), .int .u8 ((n : Int) / 256 % 256), .int .u8 ((n : Int) / 65536 % 256), .int .u8 ((n : Int) / 16777216)] 5)) = .ok (.string ⟨(Crc.fourL n).toArray⟩) (W.alloc (.cells #[.int .u8 ((n : Int) % 256), .int .u8 ((n : Int) / 256 % 256), .int .u8 ((n : Int) / 65536 % 256), .int .u8 ((n : Int) / 16777216)] 5)) := by
    intro W
    refine run_convert_bytes_back _ _ _ 5 _ 4 (Crc.fourL n) Tryz.underlying44 Tryz.underlying5 Tryz.underlying9 fun j hj => ?_
    rw [Crc.fourL_length] at hj
    have hadd : (⟨W.heap.size, 0, none⟩ : Addr).add j = ⟨W.heap.size, j, none⟩ := by unfold Addr.add; split <;> simp_all
    rw [hadd, World.cell?_alloc_mark]
    rcases (by omega : j = 0 ∨ j = 1 ∨ j = 2 ∨ j = 3) with rfl | rfl | rfl | rfl <;> simp [Crc.fourL] <;> omega
  go_enter Tryz.func95, Tryz.ntmps95
  go_wp2
  go_ret
  exact ⟨rfl, (Below.refl _ _).alloc (Nat.le_refl _) _⟩

theorem pad_snoc (l : List UInt8) (k : Nat) : (l ++ List.replicate k 0) ++ [0] = l ++ List.replicate (k + 1) (0 : UInt8) := by
  rw [List.append_assoc, List.replicate_succ']

set_option maxRecDepth 100000 in
set_option maxHeartbeats 1000000 in
theorem refSeal_yes (s : ByteArray) (m : Nat) (h1 : 4 ≤ m) (h2 : m ≤ 4096) (h3 : s.size ≤ m - 4) (w : World) :
    Calls Tryz.prog 86 #[.string s, .int .i64 m] w fun e w' => e = .returned (.tuple #[.string (Crc.sealB s m), .bool true]) ∧ Below w.heap.size w w' := by
  have h3' : (s.size : Int) ≤ (m : Int) - 4 := by omega
  go_enter Tryz.func86, Tryz.ntmps86
  go_wp2
  go_loop [6] (fun v => ∃ (k : Nat) (t : ByteArray), s.size + k ≤ m - 4 ∧ t.data.toList = s.data.toList ++ List.replicate k 0 ∧ t.size = s.size + k ∧ v = .string t) (fun v => m - strLen v)
  case atStart => exact ⟨0, s, by omega, by simp, rfl, rfl⟩
  case round =>
    obtain ⟨k, t, hk, htl, htz, rfl⟩ := hrel
    have Htl : Hid (t.data.toList = s.data.toList ++ List.replicate k 0) := htl
    have Htz : Hid (t.size = s.size + k) := htz
    have hts : t.size ≤ 4096 := by omega
    by_cases hlt : s.size + k < m - 4
    · have hq : (t.size : Int) < (m : Int) - 4 := by omega
      clear htl htz
      go_wp2
      go_round
      case rel =>
        refine ⟨k + 1, _, by omega, ?_, ?_, rfl⟩
        · rw [show (t ++ (⟨#[0]⟩ : ByteArray)).data.toList = t.data.toList ++ [0] from by simp, Htl.out, pad_snoc]
        · rw [ByteArray.size_append, Htz.out]; rfl
      case measure =>
        rw [strLen_string, strLen_string, ByteArray.size_append, Htz.out]
        show m - (s.size + k + 1) < _
        omega
    · have hq : ¬ (t.size : Int) < (m : Int) - 4 := by omega
      have hkk : k = m - 4 - s.size := by omega
      have htp : t.data.toList = Crc.padL s.data.toList (m - 4) := by
        rw [htl, hkk]; unfold Crc.padL; simp
      have hfin : t ++ (⟨(Crc.fourL (Crc.more 0 t.data.toList)).toArray⟩ : ByteArray) = Crc.sealB s m := by
        apply ByteArray.ext
        apply Array.toList_inj.1
        simp [Crc.sealB, Crc.sealL, htp]
      obtain ⟨q, hq2⟩ : ∃ q : ByteArray, q = ⟨(Crc.fourL (Crc.more 0 t.data.toList)).toArray⟩ := ⟨_, rfl⟩
      have hqs : q.size ≤ 4 := by rw [hq2]; exact Nat.le_refl _
      rw [← hq2] at hfin
      have Hq : Hid ((⟨(Crc.fourL (Crc.more 0 t.data.toList)).toArray⟩ : ByteArray) = q) := hq2.symm
      clear htl htz htp hkk hq2
      go_wp2_with fail
      refine (refSum_any t (by unfold maxLen; omega) _).mono ?_
      rintro e w' ⟨rfl, rfl⟩
      go_wp2_with fail
      refine (four_any _ (Crc.more_lt _ _) _).mono ?_
      rintro e w2 ⟨rfl, hb2⟩
      rw [Hq.out]
      go_wp2
      go_ret2
      exact ⟨rfl, hb2⟩

set_option maxRecDepth 100000 in
set_option maxHeartbeats 1000000 in
theorem refSeal_no (s : ByteArray) (m : Int) (h0 : -9223372036854775808 ≤ m) (h9 : m ≤ 9223372036854775807) (h : m < 4 ∨ 4096 < m ∨ m - 4 < (s.size : Int)) (w : World) :
    Calls Tryz.prog 86 #[.string s, .int .i64 m] w fun e w' => e = .returned (.tuple #[.string ⟨#[]⟩, .bool false]) ∧ w' = w := by
  by_cases h1 : m < 4
  · clear h
    go_enter Tryz.func86, Tryz.ntmps86
    go_wp2
    go_ret2
    exact ⟨rfl, rfl⟩
  · by_cases h2 : 4096 < m
    · clear h
      go_enter Tryz.func86, Tryz.ntmps86
      go_wp2
      go_ret2
      exact ⟨rfl, rfl⟩
    · have h3 : m - 4 < (s.size : Int) := by omega
      clear h
      go_enter Tryz.func86, Tryz.ntmps86
      go_wp2
      go_ret2
      exact ⟨rfl, rfl⟩
end Go.Proofs.YtjmeiifogblmoaaGreatDoor

namespace Go.Proofs.YtjmeiifogblmoaaGreatDoor
open Go.RowKit

set_option maxRecDepth 100000 in
set_option maxHeartbeats 1000000 in
theorem refOpen_yes (s : ByteArray) (hs : s.size ≤ 1048576) (h : Crc.opens s.data.toList = true) (w : World) :
    Calls Tryz.prog 54 #[.string s] w fun e w' => e = .returned (.tuple #[.string (Crc.headB s), .bool true]) ∧ Below w.heap.size w w' := by
  have h4 : 4 ≤ s.size := by
    unfold Crc.opens at h
    rw [Bool.and_eq_true, decide_eq_true_eq] at h
    simpa using h.1
  obtain ⟨k, hk⟩ : ∃ k : Nat, k = s.size - 4 := ⟨_, rfl⟩
  have hq := (opens_iff s h4 k hk).trans h
  have hki : (s.size : Int) - 4 = (k : Int) := by omega
  have hkl : (k : Int) ≤ (s.size : Int) := by omega
  have hwr : IntKind.i64.wrap (k : Int) = (k : Int) := by rw [IntKind.wrap_i64]; omega
  have hz : (s.extract 0 k).size ≤ 1048576 := by simp; omega
  have hh : s.extract 0 k = Crc.headB s := by rw [hk]; rfl
  have ht : (s.extract 0 k).data.toList = s.data.toList.take k := by
    rw [ByteArray.data_extract, Array.toList_extract, List.extract_eq_take_drop, List.drop_zero, Nat.sub_zero]
  rw [← ht] at hq
  obtain ⟨t, hte⟩ : ∃ t, t = s.extract 0 k := ⟨_, rfl⟩
  rw [← hte] at hq hz hh
  have Hte : Hid (s.extract 0 k = t) := hte.symm
  have hte' : s.extract 0 k = t := hte.symm
  have Hh : Hid (t = Crc.headB s) := hh
  have h4' : ¬ (s.size : Int) < 4 := by omega
  clear hk hh ht hte h4
  go_enter Tryz.func54, Tryz.ntmps54
  go_wp2
  go_region_held3 (fun _ => True) (trivial) (first | (go_at_call 96; refine (refSum_any t (Nat.le_trans hz (by decide)) _).mono ?_; rintro e w1 ⟨rfl, rfl⟩) | (go_at_call 95; refine (four_any _ (Crc.more_lt _ _) _).mono ?_; rintro e w2 ⟨rfl, hb2⟩))
  go_wp2
  go_ret2
  exact ⟨ret_two (by rw [← Hh.out]; rfl) rfl, (Below.refl _ _).drew.trans hb2⟩

set_option maxRecDepth 100000 in
set_option maxHeartbeats 1000000 in
theorem refOpen_no (s : ByteArray) (hs : s.size ≤ 1048576) (h : Crc.opens s.data.toList = false) (w : World) :
    Calls Tryz.prog 54 #[.string s] w fun e w' => e = .returned (.tuple #[.string ⟨#[]⟩, .bool false]) ∧ Below w.heap.size w w' := by
  by_cases h4 : 4 ≤ s.size
  · obtain ⟨k, hk⟩ : ∃ k : Nat, k = s.size - 4 := ⟨_, rfl⟩
    have hq := (opens_iff s h4 k hk).trans h
    have hki : (s.size : Int) - 4 = (k : Int) := by omega
    have hkl : (k : Int) ≤ (s.size : Int) := by omega
    have hwr : IntKind.i64.wrap (k : Int) = (k : Int) := by rw [IntKind.wrap_i64]; omega
    have hz : (s.extract 0 k).size ≤ 1048576 := by simp; omega
    have ht : (s.extract 0 k).data.toList = s.data.toList.take k := by
      rw [ByteArray.data_extract, Array.toList_extract, List.extract_eq_take_drop, List.drop_zero, Nat.sub_zero]
    rw [← ht] at hq
    obtain ⟨t, hte⟩ : ∃ t, t = s.extract 0 k := ⟨_, rfl⟩
    rw [← hte] at hq hz
    have hte' : s.extract 0 k = t := hte.symm
    have h4' : ¬ (s.size : Int) < 4 := by omega
    clear hk ht hte h4
    go_enter Tryz.func54, Tryz.ntmps54
    go_wp2
    go_region_held3 (fun _ => True) (trivial) (first | (go_at_call 96; refine (refSum_any t (Nat.le_trans hz (by decide)) _).mono ?_; rintro e w1 ⟨rfl, rfl⟩) | (go_at_call 95; refine (four_any _ (Crc.more_lt _ _) _).mono ?_; rintro e w2 ⟨rfl, hb2⟩))
    go_wp2
    go_ret2
    exact ⟨rfl, (Below.refl _ _).drew.trans hb2⟩
  · have h4' : (s.size : Int) < 4 := by omega
    go_enter Tryz.func54, Tryz.ntmps54
    go_wp2
    go_ret2
    exact ⟨rfl, Below.refl _ _⟩
end Go.Proofs.YtjmeiifogblmoaaGreatDoor
