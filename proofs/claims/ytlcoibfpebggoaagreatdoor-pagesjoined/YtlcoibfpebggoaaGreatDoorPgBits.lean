/- Eight bytes of a text, as the statements of layer 11 take them. -/
import Derived.Test.YtlcoibfpebggoaaGreatDoorKit
namespace Go.Proofs.YtlcoibfpebggoaaGreatDoor
open Go.RowKit

/-- eight bytes of a text, filled up -/
def bits8 (s : ByteArray) : ByteArray := (s ++ ⟨#[0, 0, 0, 0, 0, 0, 0, 0]⟩).extract 0 8
set_option maxRecDepth 100000 in
set_option maxHeartbeats 400000 in
theorem bits_any (s : ByteArray) (h : s.size ≤ 100) (w : World) : Calls Tryz.prog 24 #[.string s] w fun e w' => e = .returned (.string (bits8 s)) ∧ w' = w := by
  obtain ⟨q, hq⟩ : ∃ q, q = bits8 s := ⟨_, rfl⟩
  have hx : (s ++ ⟨#[0, 0, 0, 0, 0, 0, 0, 0]⟩).extract 0 8 = q := hq.symm
  have hts : (s ++ ⟨#[0, 0, 0, 0, 0, 0, 0, 0]⟩).size = s.size + 8 := by rw [ByteArray.size_append]; rfl
  have hm2 : ¬ 9223372036854775807 < s.size + 8 := by omega
  have hm5 : (8 : Int) ≤ (s.size : Int) + 8 := by omega
  rw [← hq]
  clear hq
  go_enter Tryz.func24, Tryz.ntmps24
  go_wp2
  go_ret
  exact ⟨rfl, rfl⟩
theorem bits8_size (s : ByteArray) : (bits8 s).size = 8 := by
  unfold bits8
  rw [ByteArray.size_extract, ByteArray.size_append]
  show min 8 (s.size + 8) - 0 = 8
  omega
end Go.Proofs.YtlcoibfpebggoaaGreatDoor
