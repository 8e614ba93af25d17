/- Columns that are turned by one, or stand the other way round: their P and Q. -/
import Derived.Test.YtekpamadimachaaSynAdd
import Derived.Test.YtekpamadimachaaKitJoin
namespace Go.Proofs.Ytekpamadimachaa
namespace Gfm
theorem join_zero (f g : Nat → ByteArray) : joinF 1 f g 0 = f 0 := rfl
theorem join_succ (f g : Nat → ByteArray) (i : Nat) : joinF 1 f g (i + 1) = g i := by
  unfold joinF; rw [if_neg (by omega)]; rfl
theorem addF_turn (m : Nat) (f : Nat → ByteArray) : addF (m + 1) (joinF 1 (fun _ => f m) f) = addF (m + 1) f := by
  refine byt_ext ?_ fun j => ?_
  · rw [addF_size, addF_size]
    refine maxN_turn (fun i hi => ?_) (fun i hi => ?_)
    · cases i with
      | zero => exact ⟨m, by omega, rfl⟩
      | succ i => exact ⟨i, by omega, by rw [join_succ]⟩
    · by_cases e : i = m
      · subst e; exact ⟨0, by omega, rfl⟩
      · exact ⟨i + 1, by omega, by rw [join_succ]⟩
  · rw [byt_addF, byt_addF, xorN_head, xorN_succ, UInt8.xor_comm]
    simp only [join_succ, join_zero]
theorem addF_back (n : Nat) (f : Nat → ByteArray) : addF n (fun i => f (n - 1 - i)) = addF n f := by
  refine byt_ext ?_ fun j => ?_
  · rw [addF_size, addF_size]
    refine maxN_turn (fun i hi => ⟨n - 1 - i, by omega, rfl⟩) (fun i hi => ⟨n - 1 - i, by omega, ?_⟩)
    show (f i).size = (f (n - 1 - (n - 1 - i))).size
    congr 2; omega
  · rw [byt_addF, byt_addF]
    exact xorN_back n fun i => byt (f i) j
theorem addQ_turn (m : Nat) (f : Nat → ByteArray) : zeroS (xorB (addF (m + 1) (qT (joinF 1 (fun _ => f m) f))) (xorB (f m) (timesB (addF m (qT f)) 2))) = true := by
  refine zeroS_of fun j => ?_
  rw [byt_xor, byt_xor, byt_addQ, byt_times, byt_addQ, xorN_head, ← xorN_mulU]
  simp only [join_succ, join_zero, pE_zero, mulU_one, mulU_pE_succ, UInt8.xor_self]
end Gfm
theorem Fits.join {B m : Nat} {f : Nat → ByteArray} (h : Fits B (m + 1) f) : Fits B (m + 1) (joinF 1 (fun _ => f m) f) := fun i hi => by
  cases i with
  | zero => exact h m (by omega)
  | succ i => rw [Gfm.join_succ]; exact h i (by omega)
theorem Fits.back {B n : Nat} {f : Nat → ByteArray} (h : Fits B n f) : Fits B n (fun i => f (n - 1 - i)) := fun i hi => h (n - 1 - i) (by omega)
end Go.Proofs.Ytekpamadimachaa
