/- The walk of gf.Xor. -/
import Derived.Test.YtjephdeolifbpaaRows
import Derived.Test.YtjephdeolifbpaaKit
import Derived.Test.YtjephdeolifbpaaGfBytes
import Derived.RegionTactic
import Derived.ChangeAlike
namespace Go.Proofs.Ytjephdeolifbpaa
open Go.RowKit

set_option maxHeartbeats 1000000 in
theorem Xor_long (s t : ByteArray) (hs : s.size ≤ maxLen) (h : t.size ≤ s.size) (w : World) :
    Calls Try.prog 70 #[.string s, .string t] w fun e w' => e = .returned (.string (Gfm.xorB s t)) ∧ Below w.heap.size w w' := by
  unfold maxLen at hs
  have hlt : ¬ (s.size : Int) < (t.size : Int) := by omega
  have hconv := fun w => run_bytes_of_string (P := Try.prog) w 9 36 5 s Try.underlying9 Try.underlying36 Try.underlying5
  have hcap := grownCap_ge w s.size 0 5
  have hrow := rowU_conv w s 5 _ hcap
  have hsl : s.data.toList.length = s.size := by simp
  have htl : t.data.toList.length = t.size := by simp
  have Hsl : Hid (s.data.toList.length = s.size) := hsl
  have Htl : Hid (t.data.toList.length = t.size) := htl
  clear hsl htl
  go_enter Try.func70, Try.ntmps70
  go_wp2
  go_loopw [18] (fun i wr => ∃ k : Nat, k ≤ t.size ∧ i = .int .i64 k ∧ rowU wr w.heap.size (Gfm.xorL s.data.toList (t.data.toList.take k)) ∧ Below w.heap.size w wr) (fun i _ => t.size - (intOf i).toNat)
  case atStart => exact ⟨0, by omega, rfl, by rw [List.take_zero, Gfm.xorL_nil]; exact hrow.drew, ((Below.refl _ _).alloc (Nat.le_refl _) _).drew⟩
  case round =>
    obtain ⟨k, hk, rfl, hr, hb⟩ := hrel
    clear hconv hrow
    by_cases hkt : k < t.size
    · have hl : (Gfm.xorL s.data.toList (t.data.toList.take k)).length = s.size := by
        rw [Gfm.xorL_length, List.length_take, Hsl.out, Htl.out]; omega
      obtain ⟨hc, hf⟩ := hr k (by omega)
      rw [Gfm.xorL_at] at hc
      obtain ⟨x, hx⟩ : ∃ x, x = s.data.toList.getD k 0 := ⟨_, rfl⟩
      rw [← hx] at hc
      have Hx : Hid (x = s.data.toList.getD k 0) := hx
      have Hr : Hid (rowU wr w.heap.size (Gfm.xorL s.data.toList (t.data.toList.take k))) := hr
      have Hl : Hid ((Gfm.xorL s.data.toList (t.data.toList.take k)).length = s.size) := hl
      have Hb : Hid (Below w.heap.size w wr) := hb
      clear hx hr hl hb
      go_wp2
      go_region
      go_wp2
      go_roundw
      case rel =>
        have hz : t.data.toList.getD k 0 = t[k] := by
          have hk' : k < t.data.toList.length := by rw [Htl.out]; exact hkt
          rw [List.getD_eq_getElem?_getD, List.getElem?_eq_getElem hk']; rfl
        refine ⟨k + 1, by omega, by go_num, ?_, (Hb.out.setCell (p := ⟨w.heap.size, k, none⟩) (Nat.le_refl _) _).drew⟩
        rw [← Gfm.xorL_step _ _ k (by rw [Htl.out]; exact hkt) (by rw [Hsl.out, Htl.out]; exact h), hz, ← Hx.out, u8_xor_nat _ _ x.toNat_lt t[k].toNat_lt, ← UInt8.toNat_xor]
        exact (Hr.out.set k (by rw [Hl.out]; omega) _).drew
      case measure => simp [intOf]; omega
    · have hkk : k = t.size := by omega
      have hl : (Gfm.xorL s.data.toList t.data.toList).length = s.size := by
        rw [Gfm.xorL_length, Hsl.out, Htl.out]; omega
      rw [hkk, List.take_of_length_le (by rw [Htl.out]; exact Nat.le_refl _)] at hr
      have hback := hr.back (P := Try.prog) 36 9 5 s.size (grownCap w s.size 0 5) hl Try.underlying36 Try.underlying5 Try.underlying9
      have Hb : Hid (Below w.heap.size w wr) := hb
      clear hr hl hb hkk
      go_wp2
      go_ret
      exact ⟨rfl, Hb.out⟩
set_option maxHeartbeats 1000000 in
theorem Xor_short (s t : ByteArray) (hs : s.size ≤ maxLen) (h : t.size < s.size) (w : World) :
    Calls Try.prog 70 #[.string t, .string s] w fun e w' => e = .returned (.string (Gfm.xorB s t)) ∧ Below w.heap.size w w' := by
  unfold maxLen at hs
  have hlt : (t.size : Int) < (s.size : Int) := by omega
  have hconv := fun w => run_bytes_of_string (P := Try.prog) w 9 36 5 s Try.underlying9 Try.underlying36 Try.underlying5
  have hcap := grownCap_ge w s.size 0 5
  have hrow := rowU_conv w s 5 _ hcap
  have hsl : s.data.toList.length = s.size := by simp
  have htl : t.data.toList.length = t.size := by simp
  have Hsl : Hid (s.data.toList.length = s.size) := hsl
  have Htl : Hid (t.data.toList.length = t.size) := htl
  clear hsl htl
  go_enter Try.func70, Try.ntmps70
  go_wp2
  go_loopw [18] (fun i wr => ∃ k : Nat, k ≤ t.size ∧ i = .int .i64 k ∧ rowU wr w.heap.size (Gfm.xorL s.data.toList (t.data.toList.take k)) ∧ Below w.heap.size w wr) (fun i _ => t.size - (intOf i).toNat)
  case atStart => exact ⟨0, by omega, rfl, by rw [List.take_zero, Gfm.xorL_nil]; exact hrow.drew, ((Below.refl _ _).alloc (Nat.le_refl _) _).drew⟩
  case round =>
    obtain ⟨k, hk, rfl, hr, hb⟩ := hrel
    clear hconv hrow
    by_cases hkt : k < t.size
    · have hl : (Gfm.xorL s.data.toList (t.data.toList.take k)).length = s.size := by
        rw [Gfm.xorL_length, List.length_take, Hsl.out, Htl.out]; omega
      obtain ⟨hc, hf⟩ := hr k (by omega)
      rw [Gfm.xorL_at] at hc
      obtain ⟨x, hx⟩ : ∃ x, x = s.data.toList.getD k 0 := ⟨_, rfl⟩
      rw [← hx] at hc
      have Hx : Hid (x = s.data.toList.getD k 0) := hx
      have Hr : Hid (rowU wr w.heap.size (Gfm.xorL s.data.toList (t.data.toList.take k))) := hr
      have Hl : Hid ((Gfm.xorL s.data.toList (t.data.toList.take k)).length = s.size) := hl
      have Hb : Hid (Below w.heap.size w wr) := hb
      clear hx hr hl hb
      go_wp2
      go_region
      go_wp2
      go_roundw
      case rel =>
        have hz : t.data.toList.getD k 0 = t[k] := by
          have hk' : k < t.data.toList.length := by rw [Htl.out]; exact hkt
          rw [List.getD_eq_getElem?_getD, List.getElem?_eq_getElem hk']; rfl
        refine ⟨k + 1, by omega, by go_num, ?_, (Hb.out.setCell (p := ⟨w.heap.size, k, none⟩) (Nat.le_refl _) _).drew⟩
        rw [← Gfm.xorL_step _ _ k (by rw [Htl.out]; exact hkt) (by rw [Hsl.out, Htl.out]; omega), hz, ← Hx.out, u8_xor_nat _ _ x.toNat_lt t[k].toNat_lt, ← UInt8.toNat_xor]
        exact (Hr.out.set k (by rw [Hl.out]; omega) _).drew
      case measure => simp [intOf]; omega
    · have hkk : k = t.size := by omega
      have hl : (Gfm.xorL s.data.toList t.data.toList).length = s.size := by
        rw [Gfm.xorL_length, Hsl.out, Htl.out]; omega
      rw [hkk, List.take_of_length_le (by rw [Htl.out]; exact Nat.le_refl _)] at hr
      have hback := hr.back (P := Try.prog) 36 9 5 s.size (grownCap w s.size 0 5) hl Try.underlying36 Try.underlying5 Try.underlying9
      have Hb : Hid (Below w.heap.size w wr) := hb
      clear hr hl hb hkk
      go_wp2
      go_ret
      exact ⟨rfl, Hb.out⟩
theorem Xor_any (s t : ByteArray) (hs : s.size ≤ maxLen) (ht : t.size ≤ maxLen) (w : World) :
    Calls Try.prog 70 #[.string s, .string t] w fun e w' => e = .returned (.string (Gfm.xorB s t)) ∧ Below w.heap.size w w' := by
  by_cases h : t.size ≤ s.size
  · exact Xor_long s t hs h w
  · refine (Xor_short t s ht (by omega) w).mono ?_
    rintro e w' ⟨rfl, hb⟩
    refine ⟨ret_string ?_, hb⟩
    unfold Gfm.xorB; rw [Gfm.xorL_comm]
end Go.Proofs.Ytjephdeolifbpaa
