/- The walks of crc: sealing, and opening. -/
import Derived.Test.YtmikllmpinciiaaDoorCrcWalk
import Derived.Test.YtmikllmpinciiaaDoorShelf
namespace Go.Proofs.YtmikllmpinciiaaDoor
open Go.RowKit

set_option maxRecDepth 100000 in
set_option maxHeartbeats 1000000 in
theorem ending_any (s : ByteArray) (hs : s.size ≤ maxLen) (w : World) :
    Calls Tryd.prog 45 #[.string s] w fun e w' => e = .returned (.string ⟨(Crc.fourL (Crc.more 0 s.data.toList)).toArray⟩) ∧ Below w.heap.size w w' := by
  have hl := Crc.more_lt 0 s.data.toList
  obtain ⟨n, hn⟩ : ∃ n, n = Crc.more 0 s.data.toList := ⟨_, rfl⟩
  have hcv : ∀ W : World, (convert 55 9 (.slice (some ⟨W.heap.size, 0, none⟩) 4 4)).run Tryd.prog (W.alloc (.cells #[.int .u8 ((n : Int) % 256), .int .u8 ((n : Int) / 256 % 256), .int .u8 ((n : Int) / 65536 % 256), .int .u8 ((n : Int) / 16777216)] 5)) = .ok (.string ⟨(Crc.fourL n).toArray⟩) (W.alloc (.cells #[.int .u8 ((n : Int) % 256), .int .u8 ((n : Int) / 256 % 256), .int .u8 ((n : Int) / 65536 % 256), .int .u8 ((n : Int) / 16777216)] 5)) := by
    intro W
    refine run_convert_bytes_back _ _ _ 5 _ 4 (Crc.fourL n) Tryd.underlying55 Tryd.underlying5 Tryd.underlying9 fun j hj => ?_
    rw [Crc.fourL_length] at hj
    have hadd : (⟨W.heap.size, 0, none⟩ : Addr).add j = ⟨W.heap.size, j, none⟩ := by unfold Addr.add; split <;> simp_all
    rw [hadd, World.cell?_alloc_mark]
    have hl' : n < 4294967296 := by rw [hn]; exact hl
    rcases (by omega : j = 0 ∨ j = 1 ∨ j = 2 ∨ j = 3) with rfl | rfl | rfl | rfl <;> simp [Crc.fourL] <;> omega
  rw [← hn]
  have Hn : Hid (n = Crc.more 0 s.data.toList) := hn
  rw [← hn] at hl
  clear hn
  go_enter Tryd.func45, Tryd.ntmps45
  go_wp2_with fail
  refine (Sum_any s hs _).mono ?_
  rintro e w' ⟨rfl, hb⟩
  rw [← Hn.out]
  go_wp2
  go_ret
  exact ⟨rfl, below2 hb ((Below.refl _ _).alloc (Nat.le_refl _) _)⟩

set_option maxRecDepth 100000 in
set_option maxHeartbeats 400000 in
theorem Clone_any (s : ByteArray) (hs : s.size ≤ 281474976710656) (w : World) :
    Calls Tryd.prog 37 #[.string s] w fun e w' => e = .returned (.string s) ∧ Below w.heap.size w w' := by
  go_enter Tryd.func37, Tryd.ntmps37
  go_wp2_with fail
  refine (Tryd.stringslite_Clone s _ hs).mono ?_
  rintro e w' ⟨rfl, hb⟩
  go_wp2
  go_ret
  exact ⟨rfl, hb⟩

theorem repeat_zero (c : Nat) : Lib.repeatL [0] c = List.replicate c 0 := by
  induction c with
  | zero => rfl
  | succ c ih => show [0] ++ Lib.repeatL [0] c = _; rw [ih]; rfl

set_option maxRecDepth 100000 in
set_option maxHeartbeats 1000000 in
theorem Seal_yes (s : ByteArray) (m : Nat) (h1 : 4 ≤ m) (h2 : m ≤ 4096) (h3 : s.size ≤ m - 4) (w : World) :
    Calls Tryd.prog 27 #[.string s, .int .i64 m] w fun e w' => e = .returned (.tuple #[.string (Crc.sealB s m), .bool true]) ∧ Below w.heap.size w w' := by
  obtain ⟨c, hc⟩ : ∃ c : Nat, c = m - 4 - s.size := ⟨_, rfl⟩
  have hci : (m : Int) - 4 - (s.size : Int) = (c : Int) := by omega
  have hsl : s.data.toList.length = s.size := by simp
  have hpad : s ++ (⟨(Lib.repeatL [0] c).toArray⟩ : ByteArray) = ⟨(Crc.padL s.data.toList (m - 4)).toArray⟩ := by
    apply ByteArray.ext
    apply Array.toList_inj.1
    rw [repeat_zero]
    simp [Crc.padL, hsl, hc]
  have hps : (⟨(Crc.padL s.data.toList (m - 4)).toArray⟩ : ByteArray).size = m - 4 := by
    show (Crc.padL _ _).toArray.size = _
    rw [List.size_toArray, Crc.padL_length _ _ (by omega)]
  have hfin : (⟨(Crc.padL s.data.toList (m - 4)).toArray⟩ : ByteArray) ++ (⟨(Crc.fourL (Crc.more 0 (Crc.padL s.data.toList (m - 4)))).toArray⟩ : ByteArray) = Crc.sealB s m := by
    apply ByteArray.ext
    apply Array.toList_inj.1
    simp [Crc.sealB, Crc.sealL]
  obtain ⟨z, hz⟩ : ∃ z : ByteArray, z = ⟨(Lib.repeatL [0] c).toArray⟩ := ⟨_, rfl⟩
  obtain ⟨p, hp⟩ : ∃ p : ByteArray, p = ⟨(Crc.padL s.data.toList (m - 4)).toArray⟩ := ⟨_, rfl⟩
  obtain ⟨q, hq⟩ : ∃ q : ByteArray, q = ⟨(Crc.fourL (Crc.more 0 (Crc.padL s.data.toList (m - 4)))).toArray⟩ := ⟨_, rfl⟩
  have hpl : Crc.padL s.data.toList (m - 4) = p.data.toList := by rw [hp]
  rw [← hz, ← hp] at hpad
  rw [← hp] at hps
  rw [← hp, ← hq] at hfin
  have hzs : z.size ≤ 4096 := by
    rw [hz, repeat_zero]; show (List.replicate c (0 : UInt8)).toArray.size ≤ _; simp; omega
  have hqs : q.size ≤ 4 := by rw [hq]; exact Nat.le_refl _
  have hss : s.size ≤ 4096 := by omega
  have hpz : p.size ≤ 4096 := by omega
  have Hq : Hid (⟨(Crc.fourL (Crc.more 0 p.data.toList)).toArray⟩ = q) := by show _ = q; rw [hq, hpl]
  have Hz : Hid ((⟨(Lib.repeatL [0] c).toArray⟩ : ByteArray) = z) := hz.symm
  have hc4 : c ≤ 4096 := by omega
  clear hc hsl hps hz hp hq hpl
  go_enter Tryd.func27, Tryd.ntmps27
  go_wp2_with fail
  refine (Tryd.strings_Repeat ⟨#[0]⟩ c _ (by omega) (by show 1 * c ≤ _; omega)).mono ?_
  rintro e w1 ⟨rfl, hb1⟩
  rw [show (ByteArray.mk #[0]).data.toList = [0] from rfl, Hz.out]
  go_wp2_with fail
  refine (ending_any p (by unfold maxLen; omega) _).mono ?_
  rintro e w2 ⟨rfl, hb2⟩
  rw [Hq.out]
  go_wp2
  go_ret2
  exact ⟨rfl, below2 hb1 hb2⟩

set_option maxRecDepth 100000 in
set_option maxHeartbeats 1000000 in
theorem Seal_no (s : ByteArray) (m : Int) (h0 : -9223372036854775808 ≤ m) (h9 : m ≤ 9223372036854775807) (h : m < 4 ∨ 4096 < m ∨ m - 4 < (s.size : Int)) (w : World) :
    Calls Tryd.prog 27 #[.string s, .int .i64 m] w fun e w' => e = .returned (.tuple #[.string ⟨#[]⟩, .bool false]) ∧ w' = w := by
  by_cases h1 : m < 4
  · clear h
    go_enter Tryd.func27, Tryd.ntmps27
    go_wp2
    go_ret2
    exact ⟨rfl, rfl⟩
  · by_cases h2 : 4096 < m
    · clear h
      go_enter Tryd.func27, Tryd.ntmps27
      go_wp2
      go_ret2
      exact ⟨rfl, rfl⟩
    · have h3 : m - 4 < (s.size : Int) := by omega
      clear h
      go_enter Tryd.func27, Tryd.ntmps27
      go_wp2
      go_ret2
      exact ⟨rfl, rfl⟩
end Go.Proofs.YtmikllmpinciiaaDoor
