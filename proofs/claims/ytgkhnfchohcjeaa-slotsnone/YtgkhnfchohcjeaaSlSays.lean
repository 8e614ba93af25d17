/- What slots asks of super: Encode's and Decode's contracts. -/
import Derived.Test.YtgkhnfchohcjeaaSlKit
import Derived.Test.YtgkhnfchohcjeaaSlMath
namespace Go.Proofs.Ytgkhnfchohcjeaa
open Go.RowKit

structure SupSays : Prop where
  dec : ∀ (b : ByteArray) (w : World), Calls Try.prog 34 #[.string b] w fun e w' => e = .returned (.tuple #[.agg (supL (Sup.decS b)).toArray, .int .i64 (Sup.decE b)]) ∧ Below w.heap.size w w'
  enc : ∀ (s : Su) (_ : s.uu < 18446744073709551616) (_ : s.ev < 18446744073709551616) (_ : s.c ≤ 9223372036854775807) (_ : s.nw ≤ 9223372036854775807) (w : World), Calls Try.prog 14 #[.agg (supL s).toArray] w fun e w' => e = .returned (.tuple #[.string (Sup.encT s), .int .i64 (Sup.encE s)]) ∧ Below w.heap.size w w'
end Go.Proofs.Ytgkhnfchohcjeaa
