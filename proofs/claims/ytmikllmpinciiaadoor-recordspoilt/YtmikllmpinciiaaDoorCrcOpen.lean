/- The walks of crc: opening. -/
import Derived.Test.YtmikllmpinciiaaDoorCrcSeal
import Derived.RegionTactic
import Derived.ChangeAlike
import Derived.BigRegion
import Derived.Deep.RegionHeld3
namespace Go.Proofs.YtmikllmpinciiaaDoor
open Go.RowKit

set_option maxRecDepth 100000 in
set_option maxHeartbeats 1000000 in
theorem Open_short (s : ByteArray) (h : s.size < 4) (w : World) :
    Calls Tryd.prog 30 #[.string s] w fun e w' => e = .returned (.tuple #[.string ⟨#[]⟩, .bool false]) ∧ Below w.heap.size w w' := by
  have hd : decide ((s.size : Int) - 4 < 0) = true := by rw [decide_eq_true_eq]; omega
  go_enter Tryd.func30, Tryd.ntmps30
  go_wp2
  go_region
  all_goals go_wp2
  all_goals go_ret2
  all_goals exact ⟨rfl, (Below.refl _ _).drew⟩

theorem opens_iff (s : ByteArray) (h : 4 ≤ s.size) (k : Nat) (hk : k = s.size - 4) : ((s.extract k s.size).toList == Crc.fourL (Crc.more 0 (s.data.toList.take k))) = Crc.opens s.data.toList := by
  have hl : s.data.toList.length = s.size := by simp
  unfold Crc.opens
  rw [hl, ← hk, decide_eq_true h, Bool.true_and]
  have e : (s.extract k s.size).toList = s.data.toList.drop k := by
    rw [ByteArray.toList_eq, ByteArray.data_extract, Array.toList_extract, List.extract_eq_take_drop]
    exact List.take_of_length_le (by rw [List.length_drop, hl]; omega)
  rw [e]

set_option maxRecDepth 100000 in
set_option maxHeartbeats 1000000 in
theorem Open_yes (s : ByteArray) (hs : s.size ≤ 1048576) (h : Crc.opens s.data.toList = true) (w : World) :
    Calls Tryd.prog 30 #[.string s] w fun e w' => e = .returned (.tuple #[.string (Crc.headB s), .bool true]) ∧ Below w.heap.size w w' := by
  have h4 : 4 ≤ s.size := by
    unfold Crc.opens at h
    rw [Bool.and_eq_true, decide_eq_true_eq] at h
    simpa using h.1
  obtain ⟨k, hk⟩ : ∃ k : Nat, k = s.size - 4 := ⟨_, rfl⟩
  have hq := (opens_iff s h4 k hk).trans h
  have hki : (s.size : Int) - 4 = (k : Int) := by omega
  have hkl : (k : Int) ≤ (s.size : Int) := by omega
  have hd : ¬ (k : Int) < 0 := by omega
  have hz : (s.extract 0 k).size ≤ 1048576 := by simp; omega
  have hh : s.extract 0 k = Crc.headB s := by rw [hk]; rfl
  have Hh : Hid (s.extract 0 k = Crc.headB s) := hh
  have Hz : Hid ((s.extract 0 k).size ≤ 1048576) := hz
  clear hk hz hh
  go_enter Tryd.func30, Tryd.ntmps30
  go_wp2
  go_region_held3 (fun _ => True) (trivial) (first | (go_at_call 45; refine (ending_any (s.extract 0 k) (Nat.le_trans Hz.out (by decide)) _).mono ?_; rintro e w1 ⟨rfl, hb1⟩))
  go_wp2_with fail
  refine (Clone_any (s.extract 0 k) (Nat.le_trans Hz.out (by decide)) _).mono ?_
  rintro e w2 ⟨rfl, hb2⟩
  go_wp2
  go_ret2
  exact ⟨ret_two (by rw [← Hh.out]; rfl) rfl, below2 ((Below.refl _ _).drew.trans hb1) hb2⟩

set_option maxRecDepth 100000 in
set_option maxHeartbeats 1000000 in
theorem Open_no (s : ByteArray) (hs : s.size ≤ 1048576) (h : Crc.opens s.data.toList = false) (w : World) :
    Calls Tryd.prog 30 #[.string s] w fun e w' => e = .returned (.tuple #[.string ⟨#[]⟩, .bool false]) ∧ Below w.heap.size w w' := by
  by_cases h4 : 4 ≤ s.size
  · obtain ⟨k, hk⟩ : ∃ k : Nat, k = s.size - 4 := ⟨_, rfl⟩
    have hq := (opens_iff s h4 k hk).trans h
    have hki : (s.size : Int) - 4 = (k : Int) := by omega
    have hkl : (k : Int) ≤ (s.size : Int) := by omega
    have hd : ¬ (k : Int) < 0 := by omega
    have hz : (s.extract 0 k).size ≤ 1048576 := by simp; omega
    have Hz : Hid ((s.extract 0 k).size ≤ 1048576) := hz
    clear hk hz
    go_enter Tryd.func30, Tryd.ntmps30
    go_wp2
    go_region_held3 (fun _ => True) (trivial) (first | (go_at_call 45; refine (ending_any (s.extract 0 k) (Nat.le_trans Hz.out (by decide)) _).mono ?_; rintro e w1 ⟨rfl, hb1⟩))
    go_wp2
    go_ret2
    exact ⟨rfl, (Below.refl _ _).drew.trans hb1⟩
  · exact Open_short s (by omega) w
end Go.Proofs.YtmikllmpinciiaaDoor
