/-
  No cell of these rows narrows 'for every input' (looked for: loops, veiled, ifaces, maps, wideKeys, modest, calm, conditions, laid).
  DERIVED. THE GIVEN ROWS OF THIS SEAT. 4 by the template 'for every input the law returns true; each argument reads behind the call as it read before'; 0 by the template 'total and deterministic' (their statements: YtdgkhjgnjfgnlaaGreatTotals.lean).
  GIVEN WITH THE SEED: the statements are not yours to turn. If you find one false, say at which input.
  Laid BY PROGRAM, IN A SANDBOX (cutbox-rows.mjs): the forced cells as the released guide's own fill.sh prints them over the translation f7ca98e3592cdbf9… (all of the seat's roots in one cut). By AI agents, Wed Nov 11 2026. No macro, syntax, notation, axiom, sorry.
-/
import Derived.Test.YtdgkhjgnjfgnlaaGreatChecked
import GoSem.Claim
import GoSem.ClaimJoined
import GoSem.ClaimMapViews
import Derived.JoinedTies
import Derived.KernelRfl
namespace Go.Proofs.YtdgkhjgnjfgnlaaGreat
/- THE CELL 'sum', in the pinned program and in every row, IS THE sha256 OF THE DUMP (.gsa) THAT YtdgkhjgnjfgnlaaGreatProg.lean LOADS. Nothing in Lean hashes anything: it is a label: what it is worth is what the hold of that sum in a sandbox is worth. -/
noncomputable def Tryz.pinned : Pinned := { name := "ytdgkhjgnjfgnlaagreat", sum := "f7ca98e3592cdbf9e483904d107b3e3fade49e417c2989113823468a634344fb", checked := Tryz.checked }
namespace Rows
def none {H : Type} : Left H := { results := [], args := [] }

/-- 'revetmentlaw16.RowActs': WHATEVER THE INPUT: true; the input reads as it did. -/
def rowActsSpec : ChangeSpec := { name := "rowActs", fn := fun _ => fun
  | [d1, d2, d3, d4, d5] => { results := [.lit (.bool true)], args := [d1, d2, d3, d4, d5] }
  | _ => none }
def rowActsRow : OpenClaim := { program := "ytdgkhjgnjfgnlaagreat", sum := "f7ca98e3592cdbf9e483904d107b3e3fade49e417c2989113823468a634344fb", func := "revetment/revetmentlaw16.RowActs", spec := "rowActs", inPlace := ["internal/abi.NoEscape", "internal/bytealg.MakeNoZero"], unfollowed := true, recurses := true, apart := false }
def RowActsSaid : Prop := rowActsRow.holds Tryz.pinned (OpenSpec.ofChange rowActsSpec)

/-- ITS FALSE NEIGHBOUR: 'it returns false'. Refute it at one input. -/
def rowActsWrong : ChangeSpec := { name := "rowActs", fn := fun _ => fun
  | [d1, d2, d3, d4, d5] => { results := [.lit (.bool false)], args := [d1, d2, d3, d4, d5] }
  | _ => none }
def RowActsWrongFalsely : Prop := rowActsRow.holds Tryz.pinned (OpenSpec.ofChange rowActsWrong)

/-- 'revetmentlaw16.RowFound': WHATEVER THE INPUT: true; the input reads as it did. -/
def rowFoundSpec : ChangeSpec := { name := "rowFound", fn := fun _ => fun
  | [d1, d2, d3, d4, d5, d6, d7, d8] => { results := [.lit (.bool true)], args := [d1, d2, d3, d4, d5, d6, d7, d8] }
  | _ => none }
def rowFoundRow : OpenClaim := { program := "ytdgkhjgnjfgnlaagreat", sum := "f7ca98e3592cdbf9e483904d107b3e3fade49e417c2989113823468a634344fb", func := "revetment/revetmentlaw16.RowFound", spec := "rowFound", inPlace := ["internal/abi.NoEscape", "internal/bytealg.MakeNoZero"], unfollowed := true, recurses := true, apart := false }
def RowFoundSaid : Prop := rowFoundRow.holds Tryz.pinned (OpenSpec.ofChange rowFoundSpec)

/-- ITS FALSE NEIGHBOUR: 'it returns false'. Refute it at one input. -/
def rowFoundWrong : ChangeSpec := { name := "rowFound", fn := fun _ => fun
  | [d1, d2, d3, d4, d5, d6, d7, d8] => { results := [.lit (.bool false)], args := [d1, d2, d3, d4, d5, d6, d7, d8] }
  | _ => none }
def RowFoundWrongFalsely : Prop := rowFoundRow.holds Tryz.pinned (OpenSpec.ofChange rowFoundWrong)

/-- 'revetmentlaw16.RowWrites': WHATEVER THE INPUT: true; the input reads as it did. -/
def rowWritesSpec : ChangeSpec := { name := "rowWrites", fn := fun _ => fun
  | [d1, d2, d3, d4, d5, d6, d7, d8] => { results := [.lit (.bool true)], args := [d1, d2, d3, d4, d5, d6, d7, d8] }
  | _ => none }
def rowWritesRow : OpenClaim := { program := "ytdgkhjgnjfgnlaagreat", sum := "f7ca98e3592cdbf9e483904d107b3e3fade49e417c2989113823468a634344fb", func := "revetment/revetmentlaw16.RowWrites", spec := "rowWrites", inPlace := ["internal/abi.NoEscape", "internal/bytealg.MakeNoZero"], unfollowed := true, recurses := true, apart := false }
def RowWritesSaid : Prop := rowWritesRow.holds Tryz.pinned (OpenSpec.ofChange rowWritesSpec)

/-- ITS FALSE NEIGHBOUR: 'it returns false'. Refute it at one input. -/
def rowWritesWrong : ChangeSpec := { name := "rowWrites", fn := fun _ => fun
  | [d1, d2, d3, d4, d5, d6, d7, d8] => { results := [.lit (.bool false)], args := [d1, d2, d3, d4, d5, d6, d7, d8] }
  | _ => none }
def RowWritesWrongFalsely : Prop := rowWritesRow.holds Tryz.pinned (OpenSpec.ofChange rowWritesWrong)

/-- 'revetmentlaw16.RowArgs': WHATEVER THE INPUT: true; the input reads as it did. -/
def rowArgsSpec : ChangeSpec := { name := "rowArgs", fn := fun _ => fun
  | [d1, d2, d3, d4, d5, d6] => { results := [.lit (.bool true)], args := [d1, d2, d3, d4, d5, d6] }
  | _ => none }
def rowArgsRow : OpenClaim := { program := "ytdgkhjgnjfgnlaagreat", sum := "f7ca98e3592cdbf9e483904d107b3e3fade49e417c2989113823468a634344fb", func := "revetment/revetmentlaw16.RowArgs", spec := "rowArgs", inPlace := ["internal/abi.NoEscape", "internal/bytealg.MakeNoZero"], unfollowed := true, recurses := true, apart := false }
def RowArgsSaid : Prop := rowArgsRow.holds Tryz.pinned (OpenSpec.ofChange rowArgsSpec)

/-- ITS FALSE NEIGHBOUR: 'it returns false'. Refute it at one input. -/
def rowArgsWrong : ChangeSpec := { name := "rowArgs", fn := fun _ => fun
  | [d1, d2, d3, d4, d5, d6] => { results := [.lit (.bool false)], args := [d1, d2, d3, d4, d5, d6] }
  | _ => none }
def RowArgsWrongFalsely : Prop := rowArgsRow.holds Tryz.pinned (OpenSpec.ofChange rowArgsWrong)

/- THE SECOND FORM. 'bulk': how many values and letters a reading holds, each counted each time it is reached (what is shared counts as often as it is met; a slice's spare places count too). A statement '..UptoSaid' is the law's where the arguments, and the package variables that the reading takes, are together of bulk at most 1048576: NARROWER than '..Said'. Prove '..Said' where nothing that the law and all that it calls make is longer than what came in: it says more and counts as full. Else prove '..UptoSaid'. A law counts once. -/
mutual
def uptoBulk {H : Type} : DataW H → Nat
  | .lit (.string bytes) => bytes.length + 1
  | .lit _ => 1
  | .nil => 1
  | .ptr d => uptoBulk d + 1
  | .slice elems spare => uptoBulkAll elems + uptoBulkAll spare + 1
  | .agg parts => uptoBulkAll parts + 1
  | .iface _ d => uptoBulk d + 1
  | .map entries => uptoBulkEntries entries + 1
  | .held _ => 1
def uptoBulkAll {H : Type} : List (DataW H) → Nat
  | [] => 0
  | d :: r => uptoBulk d + uptoBulkAll r
def uptoBulkEntries {H : Type} : List (Lit × DataW H) → Nat
  | [] => 0
  | x :: r => uptoBulkEntry x + uptoBulkEntries r
def uptoBulkEntry {H : Type} : Lit × DataW H → Nat
  | (.string bytes, d) => bytes.length + uptoBulk d + 1
  | (_, d) => uptoBulk d + 1
 end
def uptoSmall : (H : Type) → List (DataW H) → Bool := fun _ ds => decide (uptoBulkAll ds ≤ 1048576)
def OpenSpec.upto (s : _root_.Go.ChangeSpec) : _root_.Go.OpenSpec := { _root_.Go.OpenSpec.ofChange s with cond := some uptoSmall }

/-- 'revetmentlaw16.RowActs', WHERE WHAT IT READS IS OF BULK AT MOST 1048576: true; the input reads as it did. -/
def rowActsUptoRow : OpenClaim := { program := "ytdgkhjgnjfgnlaagreat", sum := "f7ca98e3592cdbf9e483904d107b3e3fade49e417c2989113823468a634344fb", func := "revetment/revetmentlaw16.RowActs", spec := "rowActs", inPlace := ["internal/abi.NoEscape", "internal/bytealg.MakeNoZero"], unfollowed := true, recurses := true, apart := false, narrowed := true }
def RowActsUptoSaid : Prop := rowActsUptoRow.holds Tryz.pinned (OpenSpec.upto rowActsSpec)

/-- 'revetmentlaw16.RowFound', WHERE WHAT IT READS IS OF BULK AT MOST 1048576: true; the input reads as it did. -/
def rowFoundUptoRow : OpenClaim := { program := "ytdgkhjgnjfgnlaagreat", sum := "f7ca98e3592cdbf9e483904d107b3e3fade49e417c2989113823468a634344fb", func := "revetment/revetmentlaw16.RowFound", spec := "rowFound", inPlace := ["internal/abi.NoEscape", "internal/bytealg.MakeNoZero"], unfollowed := true, recurses := true, apart := false, narrowed := true }
def RowFoundUptoSaid : Prop := rowFoundUptoRow.holds Tryz.pinned (OpenSpec.upto rowFoundSpec)

/-- 'revetmentlaw16.RowWrites', WHERE WHAT IT READS IS OF BULK AT MOST 1048576: true; the input reads as it did. -/
def rowWritesUptoRow : OpenClaim := { program := "ytdgkhjgnjfgnlaagreat", sum := "f7ca98e3592cdbf9e483904d107b3e3fade49e417c2989113823468a634344fb", func := "revetment/revetmentlaw16.RowWrites", spec := "rowWrites", inPlace := ["internal/abi.NoEscape", "internal/bytealg.MakeNoZero"], unfollowed := true, recurses := true, apart := false, narrowed := true }
def RowWritesUptoSaid : Prop := rowWritesUptoRow.holds Tryz.pinned (OpenSpec.upto rowWritesSpec)

/-- 'revetmentlaw16.RowArgs', WHERE WHAT IT READS IS OF BULK AT MOST 1048576: true; the input reads as it did. -/
def rowArgsUptoRow : OpenClaim := { program := "ytdgkhjgnjfgnlaagreat", sum := "f7ca98e3592cdbf9e483904d107b3e3fade49e417c2989113823468a634344fb", func := "revetment/revetmentlaw16.RowArgs", spec := "rowArgs", inPlace := ["internal/abi.NoEscape", "internal/bytealg.MakeNoZero"], unfollowed := true, recurses := true, apart := false, narrowed := true }
def RowArgsUptoSaid : Prop := rowArgsUptoRow.holds Tryz.pinned (OpenSpec.upto rowArgsSpec)

end Rows
end Go.Proofs.YtdgkhjgnjfgnlaaGreat
