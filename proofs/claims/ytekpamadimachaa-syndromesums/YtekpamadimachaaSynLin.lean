/- P and Q of columns that are added; of one column. -/
import Derived.Test.YtekpamadimachaaSynAdd
namespace Go.Proofs.Ytekpamadimachaa
namespace Gfm
theorem maxN_max (n : Nat) (f g : Nat → Nat) : maxN n (fun i => max (f i) (g i)) = max (maxN n f) (maxN n g) := by
  induction n with
  | zero => rfl
  | succ n ih => show max (maxN n fun i => max (f i) (g i)) (max (f n) (g n)) = max (max (maxN n f) (f n)) (max (maxN n g) (g n)); rw [ih]; omega
theorem addF_xor (n : Nat) (f g : Nat → ByteArray) : addF n (fun i => xorB (f i) (g i)) = xorB (addF n f) (addF n g) := by
  refine byt_ext ?_ fun j => ?_
  · rw [addF_size, xorB_size, addF_size, addF_size, ← maxN_max]
    simp only [xorB_size]
  · rw [byt_addF, byt_xor, byt_addF, byt_addF, ← xorN_xor]
    simp only [byt_xor]
theorem qT_xor (f g : Nat → ByteArray) (i : Nat) : qT (fun i => xorB (f i) (g i)) i = xorB (qT f i) (qT g i) := by
  refine byt_ext ?_ fun j => ?_
  · rw [qT_size, xorB_size, xorB_size, qT_size, qT_size]
  · rw [byt_qT, byt_xor, byt_xor, byt_qT, byt_qT, mulU_xor]
theorem addQ_xor (n : Nat) (f g : Nat → ByteArray) : addF n (qT fun i => xorB (f i) (g i)) = xorB (addF n (qT f)) (addF n (qT g)) := by
  rw [← addF_xor]
  exact addF_congr fun i _ => qT_xor f g i
theorem addQ_one (f : Nat → ByteArray) : addF 1 (qT f) = f 0 := by
  refine byt_ext ?_ fun j => ?_
  · rw [addF_size]; show max 0 (qT f 0).size = _; rw [qT_size]; omega
  · rw [byt_addQ]; show 0 ^^^ mulU (byt (f 0) j) (pE 0) = _; rw [pE_zero, mulU_one, UInt8.zero_xor]
end Gfm
theorem Fits.xor {B n : Nat} {f g : Nat → ByteArray} (hf : Fits B n f) (hg : Fits B n g) : Fits B n (fun i => Gfm.xorB (f i) (g i)) := fun i hi => by
  have h1 := hf i hi
  have h2 := hg i hi
  rw [Gfm.xorB_size]; omega
end Go.Proofs.Ytekpamadimachaa
