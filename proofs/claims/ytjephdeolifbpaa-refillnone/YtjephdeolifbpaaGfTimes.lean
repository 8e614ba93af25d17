/- The walk of gf.Times. -/
import Derived.Test.YtjephdeolifbpaaGfWalk
import Derived.Test.YtjephdeolifbpaaGfBytes
namespace Go.Proofs.Ytjephdeolifbpaa
open Go.RowKit

namespace Gfm
theorem timesL_length (a : List UInt8) (n : Nat) : (timesL a n).length = a.length := by unfold timesL; simp
/-- one place more -/
theorem timesL_step (a : List UInt8) (n k : Nat) (hk : k < a.length) :
    (timesL (a.take k) n ++ List.replicate (a.length - k) 0).set k (mulU (a.getD k 0) n) = timesL (a.take (k + 1)) n ++ List.replicate (a.length - (k + 1)) 0 := by
  have hl : (timesL (a.take k) n).length = k := by rw [timesL_length, List.length_take]; omega
  rw [List.set_append_right _ _ (by omega), hl, Nat.sub_self]
  have e1 : a.take (k + 1) = a.take k ++ [a.getD k 0] := by
    rw [List.take_succ_eq_append_getElem hk]; simp [List.getElem?_eq_getElem hk]
  have e2 : List.replicate (a.length - k) (0 : UInt8) = 0 :: List.replicate (a.length - (k + 1)) 0 := by
    rw [show a.length - k = (a.length - (k + 1)) + 1 from by omega, List.replicate_succ]
  rw [e1, e2]
  unfold timesL
  simp
end Gfm

set_option maxHeartbeats 1000000 in
theorem Times_any (s : ByteArray) (b : Nat) (hs : s.size ≤ 281474976710656) (hb : b < 256) (w : World) :
    Calls Try.prog 42 #[.string s, .int .u8 b] w fun e w' => e = .returned (.string (Gfm.timesB s b)) ∧ Below w.heap.size w w' := by
  have hmk := run_make_u8 s.size hs
  have hrow := rowU_made w s.size 5
  have Hsl : Hid (s.data.toList.length = s.size) := by show _ = _; simp
  go_enter Try.func42, Try.ntmps42
  go_wp2
  go_loopw [12] (fun i wr => ∃ k : Nat, k ≤ s.size ∧ i = .int .i64 k ∧ rowU wr w.heap.size (Gfm.timesL (s.data.toList.take k) b ++ List.replicate (s.data.toList.length - k) 0) ∧ Below w.heap.size w wr) (fun i _ => s.size - (intOf i).toNat)
  case atStart => exact ⟨0, by omega, rfl, by rw [Hsl.out]; exact hrow, (Below.refl _ _).alloc (Nat.le_refl _) _⟩
  case round =>
    obtain ⟨k, hk, rfl, hr, hbl⟩ := hrel
    clear hmk hrow
    have hl : (Gfm.timesL (s.data.toList.take k) b ++ List.replicate (s.data.toList.length - k) 0).length = s.size := by
      rw [List.length_append, Gfm.timesL_length, List.length_take, List.length_replicate, Hsl.out]; omega
    by_cases hkt : k < s.size
    · obtain ⟨hc, hf⟩ := hr k (by omega)
      generalize (Gfm.timesL (s.data.toList.take k) b ++ List.replicate (s.data.toList.length - k) 0).getD k 0 = old at hc
      have Hr : Hid (rowU wr w.heap.size (Gfm.timesL (s.data.toList.take k) b ++ List.replicate (s.data.toList.length - k) 0)) := hr
      have Hl : Hid ((Gfm.timesL (s.data.toList.take k) b ++ List.replicate (s.data.toList.length - k) 0).length = s.size) := hl
      have Hb : Hid (Below w.heap.size w wr) := hbl
      clear hr hl hbl
      have hx := s[k].toNat_lt
      go_wp2_with fail
      refine (product_any _ b hx hb _).mono ?_
      rintro e w' ⟨rfl, rfl⟩
      go_wp2
      go_roundw
      case rel =>
        have hz : s.data.toList.getD k 0 = s[k] := by
          have hk' : k < s.data.toList.length := by rw [Hsl.out]; exact hkt
          rw [List.getD_eq_getElem?_getD, List.getElem?_eq_getElem hk']; rfl
        refine ⟨k + 1, by omega, by go_num, ?_, Hb.out.setCell (p := ⟨w.heap.size, k, none⟩) (Nat.le_refl _) _⟩
        rw [← Gfm.timesL_step _ _ k (by rw [Hsl.out]; exact hkt), hz, ← Gfm.mulU_toNat]
        exact Hr.out.set k (by rw [Hl.out]; omega) _
      case measure => simp [intOf]; omega
    · have hkk : k = s.size := by omega
      rw [hkk, List.take_of_length_le (by rw [Hsl.out]; exact Nat.le_refl _), Hsl.out, Nat.sub_self] at hr
      have hr : rowU wr w.heap.size (Gfm.timesL s.data.toList b) := by simpa using hr
      have hl : (Gfm.timesL s.data.toList b).length = s.size := by rw [Gfm.timesL_length, Hsl.out]
      have hback := hr.back (P := Try.prog) 36 9 5 s.size s.size hl Try.underlying36 Try.underlying5 Try.underlying9
      have Hb : Hid (Below w.heap.size w wr) := hbl
      clear hr hl hbl hkk
      go_wp2
      go_ret
      exact ⟨rfl, Hb.out⟩
end Go.Proofs.Ytjephdeolifbpaa
