/- The walk of the document's own answer for crc: opening. -/
import Derived.Test.YtmikllmpinciiaaDoorCrcOpen
import Derived.Test.YtmikllmpinciiaaDoorRef02
namespace Go.Proofs.YtmikllmpinciiaaDoor
open Go.RowKit

set_option maxRecDepth 100000 in
set_option maxHeartbeats 1000000 in
theorem refOpen_yes (s : ByteArray) (hs : s.size ≤ 1048576) (h : Crc.opens s.data.toList = true) (w : World) :
    Calls Tryd.prog 33 #[.string s] w fun e w' => e = .returned (.tuple #[.string (Crc.headB s), .bool true]) ∧ Below w.heap.size w w' := by
  have h4 : 4 ≤ s.size := by
    unfold Crc.opens at h
    rw [Bool.and_eq_true, decide_eq_true_eq] at h
    simpa using h.1
  obtain ⟨k, hk⟩ : ∃ k : Nat, k = s.size - 4 := ⟨_, rfl⟩
  have hq := (opens_iff s h4 k hk).trans h
  have hki : (s.size : Int) - 4 = (k : Int) := by omega
  have hkl : (k : Int) ≤ (s.size : Int) := by omega
  have hwr : IntKind.i64.wrap (k : Int) = (k : Int) := by rw [IntKind.wrap_i64]; omega
  have hz : (s.extract 0 k).size ≤ 1048576 := by simp; omega
  have hh : s.extract 0 k = Crc.headB s := by rw [hk]; rfl
  have ht : (s.extract 0 k).data.toList = s.data.toList.take k := by
    rw [ByteArray.data_extract, Array.toList_extract, List.extract_eq_take_drop, List.drop_zero, Nat.sub_zero]
  rw [← ht] at hq
  obtain ⟨t, hte⟩ : ∃ t, t = s.extract 0 k := ⟨_, rfl⟩
  rw [← hte] at hq hz hh
  have Hte : Hid (s.extract 0 k = t) := hte.symm
  have hte' : s.extract 0 k = t := hte.symm
  have Hh : Hid (t = Crc.headB s) := hh
  have h4' : ¬ (s.size : Int) < 4 := by omega
  clear hk hh ht hte h4
  go_enter Tryd.func33, Tryd.ntmps33
  go_wp2
  go_region_held3 (fun _ => True) (trivial) (first | (go_at_call 29; refine (refSum_any t (Nat.le_trans hz (by decide)) _).mono ?_; rintro e w1 ⟨rfl, rfl⟩) | (go_at_call 54; refine (four_any _ (Crc.more_lt _ _) _).mono ?_; rintro e w2 ⟨rfl, hb2⟩))
  go_wp2
  go_ret2
  exact ⟨ret_two (by rw [← Hh.out]; rfl) rfl, (Below.refl _ _).drew.trans hb2⟩

set_option maxRecDepth 100000 in
set_option maxHeartbeats 1000000 in
theorem refOpen_no (s : ByteArray) (hs : s.size ≤ 1048576) (h : Crc.opens s.data.toList = false) (w : World) :
    Calls Tryd.prog 33 #[.string s] w fun e w' => e = .returned (.tuple #[.string ⟨#[]⟩, .bool false]) ∧ Below w.heap.size w w' := by
  by_cases h4 : 4 ≤ s.size
  · obtain ⟨k, hk⟩ : ∃ k : Nat, k = s.size - 4 := ⟨_, rfl⟩
    have hq := (opens_iff s h4 k hk).trans h
    have hki : (s.size : Int) - 4 = (k : Int) := by omega
    have hkl : (k : Int) ≤ (s.size : Int) := by omega
    have hwr : IntKind.i64.wrap (k : Int) = (k : Int) := by rw [IntKind.wrap_i64]; omega
    have hz : (s.extract 0 k).size ≤ 1048576 := by simp; omega
    have ht : (s.extract 0 k).data.toList = s.data.toList.take k := by
      rw [ByteArray.data_extract, Array.toList_extract, List.extract_eq_take_drop, List.drop_zero, Nat.sub_zero]
    rw [← ht] at hq
    obtain ⟨t, hte⟩ : ∃ t, t = s.extract 0 k := ⟨_, rfl⟩
    rw [← hte] at hq hz
    have hte' : s.extract 0 k = t := hte.symm
    have h4' : ¬ (s.size : Int) < 4 := by omega
    clear hk ht hte h4
    go_enter Tryd.func33, Tryd.ntmps33
    go_wp2
    go_region_held3 (fun _ => True) (trivial) (first | (go_at_call 29; refine (refSum_any t (Nat.le_trans hz (by decide)) _).mono ?_; rintro e w1 ⟨rfl, rfl⟩) | (go_at_call 54; refine (four_any _ (Crc.more_lt _ _) _).mono ?_; rintro e w2 ⟨rfl, hb2⟩))
    go_wp2
    go_ret2
    exact ⟨rfl, (Below.refl _ _).drew.trans hb2⟩
  · have h4' : (s.size : Int) < 4 := by omega
    go_enter Tryd.func33, Tryd.ntmps33
    go_wp2
    go_ret2
    exact ⟨rfl, Below.refl _ _⟩
end Go.Proofs.YtmikllmpinciiaaDoor
