/- The document's own drive, whatever it holds, also while its power is about to go, or gone: may, Read, Spoil, Write, Flush, Off. -/
import Derived.Test.YtdgkhjgnjfgnlaaGreatMRefB
namespace Go.Proofs.YtdgkhjgnjfgnlaaGreat
open Go.RowKit Go.Maps

section
variable {w w' : World} {rp : Nat} {vS vW vP : Value} {hd : Nat → Value} {R : Dr} {G : Nat → Prop}
/-- whether its power is gone -/
def Dr.isOff (R : Dr) : Bool := R.goes && R.left == 0
theorem RefSt.turned (h : RefSt w rp vS vW vP hd R) {w' : World} {Q : Dr} (hq : Q.safe = R.safe) (hs : Q.spoilt = R.spoilt) (hw : Q.writes = R.writes) (ok : Q.Ok) (hg : Only (One rp) w w')
    (hn : w'.heap[rp]? = some (.cells #[vS, vW, vP, .bool Q.dead, .bool Q.goes, .int .i64 (Q.left : Int)] 73 (0, 0))) : RefSt w' rp vS vW vP hd Q := by
  have hr := h.at_.turn (gone' := Q.dead) (cut' := Q.goes) (left' := (Q.left : Int)) hg hn
  refine ⟨by rw [hq, hs]; exact hr, ok, fun i => ?_, h.off, fun i hi => h.nil i (by rw [← hw]; exact hi)⟩
  rw [hw]
  refine ownsRow_only hg (h.rows i) (fun k hk e => ?_)
  obtain ⟨c1, q1⟩ := row_type (h.rows i) hk
  have q2 := h.at_.self
  rw [show k = rp from e] at q1
  rw [q2] at q1; simp at q1
end
end Go.Proofs.YtdgkhjgnjfgnlaaGreat
