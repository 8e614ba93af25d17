/- The walk of the document's own head of a record. -/
import Derived.Test.YtmikllmpinciiaaRef12May
import Derived.Test.YtmikllmpinciiaaRef03Dec
import Derived.Test.YtmikllmpinciiaaRef02Open
import Derived.Test.YtmikllmpinciiaaKitRound
namespace Go.Proofs.Ytmikllmpinciiaa
open Go.RowKit

/-- the two rows that head hands on: the record's numbers, and their widths -/
theorem rows12 (w : World) (a0 a1 a2 a3 : Nat) (P : Obj) (t u : TypeId) : RowI .u64 (((w.alloc P).alloc (.cells #[.int .u64 (a0 : Int), .int .u64 (a1 : Int), .int .u64 (a2 : Int), .int .u64 (a3 : Int)] t)).alloc (.cells #[.int .i64 8, .int .i64 2, .int .i64 1, .int .i64 4] u)) (some ⟨w.heap.size + 1, 0, none⟩) 4 (fun j => (([a0, a1, a2, a3].getD j 0 : Nat) : Int)) ∧
    RowI .i64 (((w.alloc P).alloc (.cells #[.int .u64 (a0 : Int), .int .u64 (a1 : Int), .int .u64 (a2 : Int), .int .u64 (a3 : Int)] t)).alloc (.cells #[.int .i64 8, .int .i64 2, .int .i64 1, .int .i64 4] u)) (some ⟨w.heap.size + 1 + 1, 0, none⟩) 4 (fun j => Rc.ws.getD j 0) := by
  have h1 := (RowI.newN .u64 (w.alloc P) [a0, a1, a2, a3] #[.int .u64 (a0 : Int), .int .u64 (a1 : Int), .int .u64 (a2 : Int), .int .u64 (a3 : Int)] t rfl).below ((Below.refl _ _).alloc (Nat.le_refl _) (.cells #[.int .i64 8, .int .i64 2, .int .i64 1, .int .i64 4] u))
  have h2 := RowI.new .i64 ((w.alloc P).alloc (.cells #[.int .u64 (a0 : Int), .int .u64 (a1 : Int), .int .u64 (a2 : Int), .int .u64 (a3 : Int)] t)) [8, 2, 1, 4] #[.int .i64 8, .int .i64 2, .int .i64 1, .int .i64 4] u rfl
  rw [World.size_alloc] at h1
  rw [World.size_alloc, World.size_alloc] at h2
  exact ⟨h1, h2⟩
end Go.Proofs.Ytmikllmpinciiaa
