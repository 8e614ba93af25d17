/- A drive of one sector that holds "first", flushed: how the statements on it begin. -/
import Derived.Test.YtpflfdbkndomfaaDrvSolo
namespace Go.Proofs.Ytpflfdbkndomfaa
open Go.RowKit Go.Maps

def firstB : ByteArray := fullB ⟨#[102, 105, 114, 115, 116]⟩
theorem first_any (w : World) : Calls Try.prog 11 #[.string ⟨#[102, 105, 114, 115, 116]⟩] w fun e w' => e = .returned (.string firstB) ∧ w' = w := full_any _ (by decide) w
theorem first_size : firstB.size = 64 := fullB_size _
/-- the texts that came in, each short enough -/
def Shorts (l : List ByteArray) (k : Nat) : Prop := ∀ j, j < k → (l.getD j ByteArray.empty).size ≤ 100
/-- the drive that is there when 'first' was flushed -/
def St0 : Dr := ((Dr.fresh 1).put 0 firstB.data.toList).settle fun _ c => c
theorem st0_solo : St0.Solo firstB.data.toList [] := Dr.Solo.first _
theorem st0_live : St0.Live 1 := ((Dr.Live.fresh 1).put _ _).settle _
theorem one_lens (s : List UInt8) (j : Nat) : (((Dr.fresh 1).put 0 s).writes j).length ≤ 1000000 := by
  by_cases e : j = 0
  · subst e; rw [Dr.put_same]; simp [Dr.fresh]
  · rw [Dr.put_other _ _ e]; simp [Dr.fresh]
end Go.Proofs.Ytpflfdbkndomfaa
