/- Several texts in one. The walks of crc: sealing, and opening. The walks of crc: opening. -/
import Derived.Test.YtjmeiifogblmoaaGreatDoorCrcWalk
import Derived.Test.YtjmeiifogblmoaaGreatDoorShelf
import Derived.RegionTactic
import Derived.ChangeAlike
import Derived.BigRegion
import Derived.Deep.RegionHeld3
namespace Go.Proofs.YtjmeiifogblmoaaGreatDoor
open Go.RowKit

set_option maxRecDepth 100000 in
set_option maxHeartbeats 1000000 in
theorem ending_any (s : ByteArray) (hs : s.size ≤ maxLen) (w : World) :
    Calls Tryz.prog 110 #[.string s] w fun e w' => e = .returned (.string ⟨(Crc.fourL (Crc.more 0 s.data.toList)).toArray⟩) ∧ Below w.heap.size w w' := by
  have hl := Crc.more_lt 0 s.data.toList
  obtain ⟨n, hn⟩ : ∃ n, n = Crc.more 0 s.data.toList := ⟨_, rfl⟩
  have hcv : ∀ W : World, (convert 44 9 (.slice (some ⟨W.heap.size, 0, none⟩) 4 4)).run Tryz.prog (W.alloc (.cells #[.int .u8 ((n : Int) % 256), .int .u8 ((n : Int) / 256 % 256), .int .u8 ((n : Int) / 65536 % 256), .int .u8 ((n : Int) / 16777216)] 5)) = .ok (.string ⟨(Crc.fourL n).toArray⟩) (W.alloc (.cells #[.int .u8 ((n : Int) % 256), .int .u8 ((n : Int) / 256 % 256), .int .u8 ((n : Int) / 65536 % 256), .int .u8 ((n : Int) / 16777216)] 5)) := by
    intro W
    refine run_convert_bytes_back _ _ _ 5 _ 4 (Crc.fourL n) Tryz.underlying44 Tryz.underlying5 Tryz.underlying9 fun j hj => ?_
    rw [Crc.fourL_length] at hj
    have hadd : (⟨W.heap.size, 0, none⟩ : Addr).add j = ⟨W.heap.size, j, none⟩ := by unfold Addr.add; split <;> simp_all
    rw [hadd, World.cell?_alloc_mark]
    have hl' : n < 4294967296 := by rw [hn]; exact hl
    rcases (by omega : j = 0 ∨ j = 1 ∨ j = 2 ∨ j = 3) with rfl | rfl | rfl | rfl <;> simp [Crc.fourL] <;> omega
  rw [← hn]
  have Hn : Hid (n = Crc.more 0 s.data.toList) := hn
  rw [← hn] at hl
  clear hn
  go_enter Tryz.func110, Tryz.ntmps110
  go_wp2_with fail
  refine (Sum_any s hs _).mono ?_
  rintro e w' ⟨rfl, hb⟩
  rw [← Hn.out]
  go_wp2
  go_ret
  exact ⟨rfl, below2 hb ((Below.refl _ _).alloc (Nat.le_refl _) _)⟩

set_option maxRecDepth 100000 in
set_option maxHeartbeats 400000 in
theorem Clone_any (s : ByteArray) (hs : s.size ≤ 281474976710656) (w : World) :
    Calls Tryz.prog 106 #[.string s] w fun e w' => e = .returned (.string s) ∧ Below w.heap.size w w' := by
  go_enter Tryz.func106, Tryz.ntmps106
  go_wp2_with fail
  refine (Tryz.stringslite_Clone s _ hs).mono ?_
  rintro e w' ⟨rfl, hb⟩
  go_wp2
  go_ret
  exact ⟨rfl, hb⟩

theorem repeat_zero (c : Nat) : Lib.repeatL [0] c = List.replicate c 0 := by
  induction c with
  | zero => rfl
  | succ c ih => show [0] ++ Lib.repeatL [0] c = _; rw [ih]; rfl

set_option maxRecDepth 100000 in
set_option maxHeartbeats 1000000 in
theorem Seal_yes (s : ByteArray) (m : Nat) (h1 : 4 ≤ m) (h2 : m ≤ 4096) (h3 : s.size ≤ m - 4) (w : World) :
    Calls Tryz.prog 74 #[.string s, .int .i64 m] w fun e w' => e = .returned (.tuple #[.string (Crc.sealB s m), .bool true]) ∧ Below w.heap.size w w' := by
  obtain ⟨c, hc⟩ : ∃ c : Nat, c = m - 4 - s.size := ⟨_, rfl⟩
  have hci : (m : Int) - 4 - (s.size : Int) = (c : Int) := by omega
  have hsl : s.data.toList.length = s.size := by simp
  have hpad : s ++ (⟨(Lib.repeatL [0] c).toArray⟩ : ByteArray) = ⟨(Crc.padL s.data.toList (m - 4)).toArray⟩ := by
    apply ByteArray.ext
    apply Array.toList_inj.1
    rw [repeat_zero]
    simp [Crc.padL, hsl, hc]
  have hps : (⟨(Crc.padL s.data.toList (m - 4)).toArray⟩ : ByteArray).size = m - 4 := by
    show (Crc.padL _ _).toArray.size = _
    rw [List.size_toArray, Crc.padL_length _ _ (by omega)]
  have hfin : (⟨(Crc.padL s.data.toList (m - 4)).toArray⟩ : ByteArray) ++ (⟨(Crc.fourL (Crc.more 0 (Crc.padL s.data.toList (m - 4)))).toArray⟩ : ByteArray) = Crc.sealB s m := by
    apply ByteArray.ext
    apply Array.toList_inj.1
    simp [Crc.sealB, Crc.sealL]
  obtain ⟨z, hz⟩ : ∃ z : ByteArray, z = ⟨(Lib.repeatL [0] c).toArray⟩ := ⟨_, rfl⟩
  obtain ⟨p, hp⟩ : ∃ p : ByteArray, p = ⟨(Crc.padL s.data.toList (m - 4)).toArray⟩ := ⟨_, rfl⟩
  obtain ⟨q, hq⟩ : ∃ q : ByteArray, q = ⟨(Crc.fourL (Crc.more 0 (Crc.padL s.data.toList (m - 4)))).toArray⟩ := ⟨_, rfl⟩
  have hpl : Crc.padL s.data.toList (m - 4) = p.data.toList := by rw [hp]
  rw [← hz, ← hp] at hpad
  rw [← hp] at hps
  rw [← hp, ← hq] at hfin
  have hzs : z.size ≤ 4096 := by
    rw [hz, repeat_zero]; show (List.replicate c (0 : UInt8)).toArray.size ≤ _; simp; omega
  have hqs : q.size ≤ 4 := by rw [hq]; exact Nat.le_refl _
  have hss : s.size ≤ 4096 := by omega
  have hpz : p.size ≤ 4096 := by omega
  have Hq : Hid (⟨(Crc.fourL (Crc.more 0 p.data.toList)).toArray⟩ = q) := by show _ = q; rw [hq, hpl]
  have Hz : Hid ((⟨(Lib.repeatL [0] c).toArray⟩ : ByteArray) = z) := hz.symm
  have hc4 : c ≤ 4096 := by omega
  clear hc hsl hps hz hp hq hpl
  go_enter Tryz.func74, Tryz.ntmps74
  go_wp2_with fail
  refine (Tryz.strings_Repeat ⟨#[0]⟩ c _ (by omega) (by show 1 * c ≤ _; omega)).mono ?_
  rintro e w1 ⟨rfl, hb1⟩
  rw [show (ByteArray.mk #[0]).data.toList = [0] from rfl, Hz.out]
  go_wp2_with fail
  refine (ending_any p (by unfold maxLen; omega) _).mono ?_
  rintro e w2 ⟨rfl, hb2⟩
  rw [Hq.out]
  go_wp2
  go_ret2
  exact ⟨rfl, below2 hb1 hb2⟩

set_option maxRecDepth 100000 in
set_option maxHeartbeats 1000000 in
theorem Seal_no (s : ByteArray) (m : Int) (h0 : -9223372036854775808 ≤ m) (h9 : m ≤ 9223372036854775807) (h : m < 4 ∨ 4096 < m ∨ m - 4 < (s.size : Int)) (w : World) :
    Calls Tryz.prog 74 #[.string s, .int .i64 m] w fun e w' => e = .returned (.tuple #[.string ⟨#[]⟩, .bool false]) ∧ w' = w := by
  by_cases h1 : m < 4
  · clear h
    go_enter Tryz.func74, Tryz.ntmps74
    go_wp2
    go_ret2
    exact ⟨rfl, rfl⟩
  · by_cases h2 : 4096 < m
    · clear h
      go_enter Tryz.func74, Tryz.ntmps74
      go_wp2
      go_ret2
      exact ⟨rfl, rfl⟩
    · have h3 : m - 4 < (s.size : Int) := by omega
      clear h
      go_enter Tryz.func74, Tryz.ntmps74
      go_wp2
      go_ret2
      exact ⟨rfl, rfl⟩
end Go.Proofs.YtjmeiifogblmoaaGreatDoor

namespace Go.Proofs.YtjmeiifogblmoaaGreatDoor
open Go.RowKit

set_option maxRecDepth 100000 in
set_option maxHeartbeats 1000000 in
theorem Open_short (s : ByteArray) (h : s.size < 4) (w : World) :
    Calls Tryz.prog 88 #[.string s] w fun e w' => e = .returned (.tuple #[.string ⟨#[]⟩, .bool false]) ∧ Below w.heap.size w w' := by
  have hd : decide ((s.size : Int) - 4 < 0) = true := by rw [decide_eq_true_eq]; omega
  go_enter Tryz.func88, Tryz.ntmps88
  go_wp2
  go_region
  all_goals go_wp2
  all_goals go_ret2
  all_goals exact ⟨rfl, (Below.refl _ _).drew⟩

theorem opens_iff (s : ByteArray) (h : 4 ≤ s.size) (k : Nat) (hk : k = s.size - 4) : ((s.extract k s.size).toList == Crc.fourL (Crc.more 0 (s.data.toList.take k))) = Crc.opens s.data.toList := by
  have hl : s.data.toList.length = s.size := by simp
  unfold Crc.opens
  rw [hl, ← hk, decide_eq_true h, Bool.true_and]
  have e : (s.extract k s.size).toList = s.data.toList.drop k := by
    rw [ByteArray.toList_eq, ByteArray.data_extract, Array.toList_extract, List.extract_eq_take_drop]
    exact List.take_of_length_le (by rw [List.length_drop, hl]; omega)
  rw [e]

set_option maxRecDepth 100000 in
set_option maxHeartbeats 1000000 in
theorem Open_yes (s : ByteArray) (hs : s.size ≤ 1048576) (h : Crc.opens s.data.toList = true) (w : World) :
    Calls Tryz.prog 88 #[.string s] w fun e w' => e = .returned (.tuple #[.string (Crc.headB s), .bool true]) ∧ Below w.heap.size w w' := by
  have h4 : 4 ≤ s.size := by
    unfold Crc.opens at h
    rw [Bool.and_eq_true, decide_eq_true_eq] at h
    simpa using h.1
  obtain ⟨k, hk⟩ : ∃ k : Nat, k = s.size - 4 := ⟨_, rfl⟩
  have hq := (opens_iff s h4 k hk).trans h
  have hki : (s.size : Int) - 4 = (k : Int) := by omega
  have hkl : (k : Int) ≤ (s.size : Int) := by omega
  have hd : ¬ (k : Int) < 0 := by omega
  have hz : (s.extract 0 k).size ≤ 1048576 := by simp; omega
  have hh : s.extract 0 k = Crc.headB s := by rw [hk]; rfl
  have Hh : Hid (s.extract 0 k = Crc.headB s) := hh
  have Hz : Hid ((s.extract 0 k).size ≤ 1048576) := hz
  clear hk hz hh
  go_enter Tryz.func88, Tryz.ntmps88
  go_wp2
  go_region_held3 (fun _ => True) (trivial) (first | (go_at_call 110; refine (ending_any (s.extract 0 k) (Nat.le_trans Hz.out (by decide)) _).mono ?_; rintro e w1 ⟨rfl, hb1⟩))
  go_wp2_with fail
  refine (Clone_any (s.extract 0 k) (Nat.le_trans Hz.out (by decide)) _).mono ?_
  rintro e w2 ⟨rfl, hb2⟩
  go_wp2
  go_ret2
  exact ⟨ret_two (by rw [← Hh.out]; rfl) rfl, below2 ((Below.refl _ _).drew.trans hb1) hb2⟩

set_option maxRecDepth 100000 in
set_option maxHeartbeats 1000000 in
theorem Open_no (s : ByteArray) (hs : s.size ≤ 1048576) (h : Crc.opens s.data.toList = false) (w : World) :
    Calls Tryz.prog 88 #[.string s] w fun e w' => e = .returned (.tuple #[.string ⟨#[]⟩, .bool false]) ∧ Below w.heap.size w w' := by
  by_cases h4 : 4 ≤ s.size
  · obtain ⟨k, hk⟩ : ∃ k : Nat, k = s.size - 4 := ⟨_, rfl⟩
    have hq := (opens_iff s h4 k hk).trans h
    have hki : (s.size : Int) - 4 = (k : Int) := by omega
    have hkl : (k : Int) ≤ (s.size : Int) := by omega
    have hd : ¬ (k : Int) < 0 := by omega
    have hz : (s.extract 0 k).size ≤ 1048576 := by simp; omega
    have Hz : Hid ((s.extract 0 k).size ≤ 1048576) := hz
    clear hk hz
    go_enter Tryz.func88, Tryz.ntmps88
    go_wp2
    go_region_held3 (fun _ => True) (trivial) (first | (go_at_call 110; refine (ending_any (s.extract 0 k) (Nat.le_trans Hz.out (by decide)) _).mono ?_; rintro e w1 ⟨rfl, hb1⟩))
    go_wp2
    go_ret2
    exact ⟨rfl, (Below.refl _ _).drew.trans hb1⟩
  · exact Open_short s (by omega) w
end Go.Proofs.YtjmeiifogblmoaaGreatDoor
