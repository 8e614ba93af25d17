/- The walk of settle: the sectors that have writes are gone through in order, then the map is cleared. -/
import Derived.Test.YtdgkhjgnjfgnlaaGreatDrvWrite
import Derived.Test.YtdgkhjgnjfgnlaaGreatSorted
namespace Go.Proofs.YtdgkhjgnjfgnlaaGreat
open Go.RowKit Go.Maps Go.ChangeMaps

/-- what is safe behind k steps -/
def Dr.at_ (D : Dr) (K : Nat → Nat → Nat) (k : Nat) : Dr := { D with safe := D.safeAt K k }
/-- the closure that tells how many are kept -/
def KeepsAt (f : Nat) (cs : Array Value) (K : Nat → Nat → Nat) (G : World → Prop) : Prop :=
  ∀ (W : World), G W → ∀ k c : Nat, k < 4096 → c ≤ 1000000 → Calls Tryz.prog f (#[.int .i64 (k : Nat), .int .i64 (c : Nat)] ++ cs) W fun e w' => e = .returned (.int .i64 (K k c : Nat)) ∧ Below W.heap.size W w'

end Go.Proofs.YtdgkhjgnjfgnlaaGreat
