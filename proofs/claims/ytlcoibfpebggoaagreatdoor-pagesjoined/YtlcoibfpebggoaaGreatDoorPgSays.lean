/- What is asked of the program's own Encode and Decode of a page; two pages compared. -/
import Derived.Test.YtlcoibfpebggoaaGreatDoorPgDr
import Derived.Test.YtlcoibfpebggoaaGreatDoorKitRet
namespace Go.Proofs.YtlcoibfpebggoaaGreatDoor
open Go.RowKit

structure PgSays : Prop where
  enc : ∀ (p : Pge), p.ev < 18446744073709551616 → ∀ (w : World), Calls Tryz.prog 8 #[pgV p] w fun e w' => e = .returned (.tuple #[.string (Pg.encT p), .int .i64 (Pg.encE p : Nat)]) ∧ Below w.heap.size w w'
  dec : ∀ (b : ByteArray) (w : World), Calls Tryz.prog 10 #[.string b] w fun e w' => e = .returned (.tuple #[pgV (Pg.decS b), .int .i64 (Pg.decE b : Nat)]) ∧ Below w.heap.size w w'
theorem eq_page (t : TypeId) (ht : t = 24) (p : Pge) (w : World) : (Op.equalIn 10000 t (.agg #[.int .u64 (p.ev : Int), .string p.bits]) (.agg #[.int .u64 (p.ev : Int), .string p.bits])).run Tryz.prog w = .ok true w := by
  subst ht
  rw [run_equalIn_struct w 9999 24 _ _ (by kernel_rfl) (by kernel_rfl)]
  go_simp
theorem eq_rpage (p : Pge) (w : World) : (Op.equalIn 10000 30 (.agg #[.int .u64 (p.ev : Int), .string p.bits]) (.agg #[.int .u64 (p.ev : Int), .string p.bits])).run Tryz.prog w = .ok true w := by
  rw [run_equalIn_struct w 9999 30 _ _ (by kernel_rfl) (by kernel_rfl)]
  go_simp
end Go.Proofs.YtlcoibfpebggoaaGreatDoor
