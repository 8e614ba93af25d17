/-
  No cell of these rows narrows 'for every input' (looked for: loops, veiled, ifaces, maps, wideKeys, modest, calm, conditions, laid).
  DERIVED. THE GIVEN ROWS OF THIS SEAT. 6 by the template 'for every input the law returns true; each argument reads behind the call as it read before'; 0 by the template 'total and deterministic' (their statements: YtjephdeolifbpaaTotals.lean).
  GIVEN WITH THE SEED: the statements are not yours to turn. If you find one false, say at which input.
  Laid BY PROGRAM, IN A SANDBOX (cutbox-rows.mjs): the forced cells as the released guide's own fill.sh prints them over the translation 1ebdd9078adf8950… (all of the seat's roots in one cut). By AI agents, Wed Nov 11 2026. No macro, syntax, notation, axiom, sorry.
-/
import Derived.Test.YtjephdeolifbpaaChecked
import GoSem.Claim
import GoSem.ClaimJoined
import GoSem.ClaimMapViews
import Derived.JoinedTies
import Derived.KernelRfl
namespace Go.Proofs.Ytjephdeolifbpaa
/- THE CELL 'sum', in the pinned program and in every row, IS THE sha256 OF THE DUMP (.gsa) THAT YtjephdeolifbpaaProg.lean LOADS. Nothing in Lean hashes anything: it is a label: what it is worth is what the hold of that sum in a sandbox is worth. -/
noncomputable def Try.pinned : Pinned := { name := "ytjephdeolifbpaa", sum := "1ebdd9078adf89509b794ef588f50d4b34407b9919d92131e3a30ff3f1c5cfc7", checked := Try.checked }
namespace Rows
def none {H : Type} : Left H := { results := [], args := [] }

/-- 'revetmentlaw06.RefillTells': WHATEVER THE INPUT: true; the input reads as it did. -/
def refillTellsSpec : ChangeSpec := { name := "refillTells", fn := fun _ => fun
  | [d1, d2] => { results := [.lit (.bool true)], args := [d1, d2] }
  | _ => none }
def refillTellsRow : OpenClaim := { program := "ytjephdeolifbpaa", sum := "1ebdd9078adf89509b794ef588f50d4b34407b9919d92131e3a30ff3f1c5cfc7", func := "revetment/revetmentlaw06.RefillTells", spec := "refillTells", inPlace := ["internal/abi.NoEscape", "internal/bytealg.MakeNoZero"], unfollowed := true, recurses := true, apart := false }
def RefillTellsSaid : Prop := refillTellsRow.holds Try.pinned (OpenSpec.ofChange refillTellsSpec)

/-- ITS FALSE NEIGHBOUR: 'it returns false'. Refute it at one input. -/
def refillTellsWrong : ChangeSpec := { name := "refillTells", fn := fun _ => fun
  | [d1, d2] => { results := [.lit (.bool false)], args := [d1, d2] }
  | _ => none }
def RefillTellsWrongFalsely : Prop := refillTellsRow.holds Try.pinned (OpenSpec.ofChange refillTellsWrong)

/-- 'revetmentlaw06.RefillTwo': WHATEVER THE INPUT: true; the input reads as it did. -/
def refillTwoSpec : ChangeSpec := { name := "refillTwo", fn := fun _ => fun
  | [d1, d2, d3, d4, d5] => { results := [.lit (.bool true)], args := [d1, d2, d3, d4, d5] }
  | _ => none }
def refillTwoRow : OpenClaim := { program := "ytjephdeolifbpaa", sum := "1ebdd9078adf89509b794ef588f50d4b34407b9919d92131e3a30ff3f1c5cfc7", func := "revetment/revetmentlaw06.RefillTwo", spec := "refillTwo", inPlace := ["internal/abi.NoEscape", "internal/bytealg.MakeNoZero"], unfollowed := true, recurses := true, apart := false }
def RefillTwoSaid : Prop := refillTwoRow.holds Try.pinned (OpenSpec.ofChange refillTwoSpec)

/-- ITS FALSE NEIGHBOUR: 'it returns false'. Refute it at one input. -/
def refillTwoWrong : ChangeSpec := { name := "refillTwo", fn := fun _ => fun
  | [d1, d2, d3, d4, d5] => { results := [.lit (.bool false)], args := [d1, d2, d3, d4, d5] }
  | _ => none }
def RefillTwoWrongFalsely : Prop := refillTwoRow.holds Try.pinned (OpenSpec.ofChange refillTwoWrong)

/-- 'revetmentlaw06.RefillGood': WHATEVER THE INPUT: true; the input reads as it did. -/
def refillGoodSpec : ChangeSpec := { name := "refillGood", fn := fun _ => fun
  | [d1, d2, d3, d4] => { results := [.lit (.bool true)], args := [d1, d2, d3, d4] }
  | _ => none }
def refillGoodRow : OpenClaim := { program := "ytjephdeolifbpaa", sum := "1ebdd9078adf89509b794ef588f50d4b34407b9919d92131e3a30ff3f1c5cfc7", func := "revetment/revetmentlaw06.RefillGood", spec := "refillGood", inPlace := ["internal/abi.NoEscape", "internal/bytealg.MakeNoZero"], unfollowed := true, recurses := true, apart := false }
def RefillGoodSaid : Prop := refillGoodRow.holds Try.pinned (OpenSpec.ofChange refillGoodSpec)

/-- ITS FALSE NEIGHBOUR: 'it returns false'. Refute it at one input. -/
def refillGoodWrong : ChangeSpec := { name := "refillGood", fn := fun _ => fun
  | [d1, d2, d3, d4] => { results := [.lit (.bool false)], args := [d1, d2, d3, d4] }
  | _ => none }
def RefillGoodWrongFalsely : Prop := refillGoodRow.holds Try.pinned (OpenSpec.ofChange refillGoodWrong)

/-- 'revetmentlaw06.RefillMore': WHATEVER THE INPUT: true; the input reads as it did. -/
def refillMoreSpec : ChangeSpec := { name := "refillMore", fn := fun _ => fun
  | [d1, d2, d3] => { results := [.lit (.bool true)], args := [d1, d2, d3] }
  | _ => none }
def refillMoreRow : OpenClaim := { program := "ytjephdeolifbpaa", sum := "1ebdd9078adf89509b794ef588f50d4b34407b9919d92131e3a30ff3f1c5cfc7", func := "revetment/revetmentlaw06.RefillMore", spec := "refillMore", inPlace := ["internal/abi.NoEscape", "internal/bytealg.MakeNoZero"], unfollowed := true, recurses := true, apart := false }
def RefillMoreSaid : Prop := refillMoreRow.holds Try.pinned (OpenSpec.ofChange refillMoreSpec)

/-- ITS FALSE NEIGHBOUR: 'it returns false'. Refute it at one input. -/
def refillMoreWrong : ChangeSpec := { name := "refillMore", fn := fun _ => fun
  | [d1, d2, d3] => { results := [.lit (.bool false)], args := [d1, d2, d3] }
  | _ => none }
def RefillMoreWrongFalsely : Prop := refillMoreRow.holds Try.pinned (OpenSpec.ofChange refillMoreWrong)

/-- 'revetmentlaw06.RefillOrder': WHATEVER THE INPUT: true; the input reads as it did. -/
def refillOrderSpec : ChangeSpec := { name := "refillOrder", fn := fun _ => fun
  | [d1, d2, d3, d4, d5, d6] => { results := [.lit (.bool true)], args := [d1, d2, d3, d4, d5, d6] }
  | _ => none }
def refillOrderRow : OpenClaim := { program := "ytjephdeolifbpaa", sum := "1ebdd9078adf89509b794ef588f50d4b34407b9919d92131e3a30ff3f1c5cfc7", func := "revetment/revetmentlaw06.RefillOrder", spec := "refillOrder", inPlace := ["internal/abi.NoEscape", "internal/bytealg.MakeNoZero"], unfollowed := true, recurses := true, apart := false }
def RefillOrderSaid : Prop := refillOrderRow.holds Try.pinned (OpenSpec.ofChange refillOrderSpec)

/-- ITS FALSE NEIGHBOUR: 'it returns false'. Refute it at one input. -/
def refillOrderWrong : ChangeSpec := { name := "refillOrder", fn := fun _ => fun
  | [d1, d2, d3, d4, d5, d6] => { results := [.lit (.bool false)], args := [d1, d2, d3, d4, d5, d6] }
  | _ => none }
def RefillOrderWrongFalsely : Prop := refillOrderRow.holds Try.pinned (OpenSpec.ofChange refillOrderWrong)

/-- 'revetmentlaw06.RefillNone': WHATEVER THE INPUT: true; the input reads as it did. -/
def refillNoneSpec : ChangeSpec := { name := "refillNone", fn := fun _ => fun
  | [d1, d2] => { results := [.lit (.bool true)], args := [d1, d2] }
  | _ => none }
def refillNoneRow : OpenClaim := { program := "ytjephdeolifbpaa", sum := "1ebdd9078adf89509b794ef588f50d4b34407b9919d92131e3a30ff3f1c5cfc7", func := "revetment/revetmentlaw06.RefillNone", spec := "refillNone", inPlace := ["internal/abi.NoEscape", "internal/bytealg.MakeNoZero"], unfollowed := true, recurses := true, apart := false }
def RefillNoneSaid : Prop := refillNoneRow.holds Try.pinned (OpenSpec.ofChange refillNoneSpec)

/-- ITS FALSE NEIGHBOUR: 'it returns false'. Refute it at one input. -/
def refillNoneWrong : ChangeSpec := { name := "refillNone", fn := fun _ => fun
  | [d1, d2] => { results := [.lit (.bool false)], args := [d1, d2] }
  | _ => none }
def RefillNoneWrongFalsely : Prop := refillNoneRow.holds Try.pinned (OpenSpec.ofChange refillNoneWrong)

/- THE SECOND FORM. 'bulk': how many values and letters a reading holds, each counted each time it is reached (what is shared counts as often as it is met; a slice's spare places count too). A statement '..UptoSaid' is the law's where the arguments, and the package variables that the reading takes, are together of bulk at most 1048576: NARROWER than '..Said'. Prove '..Said' where nothing that the law and all that it calls make is longer than what came in: it says more and counts as full. Else prove '..UptoSaid'. A law counts once. -/
mutual
def uptoBulk {H : Type} : DataW H → Nat
  | .lit (.string bytes) => bytes.length + 1
  | .lit _ => 1
  | .nil => 1
  | .ptr d => uptoBulk d + 1
  | .slice elems spare => uptoBulkAll elems + uptoBulkAll spare + 1
  | .agg parts => uptoBulkAll parts + 1
  | .iface _ d => uptoBulk d + 1
  | .map entries => uptoBulkEntries entries + 1
  | .held _ => 1
def uptoBulkAll {H : Type} : List (DataW H) → Nat
  | [] => 0
  | d :: r => uptoBulk d + uptoBulkAll r
def uptoBulkEntries {H : Type} : List (Lit × DataW H) → Nat
  | [] => 0
  | x :: r => uptoBulkEntry x + uptoBulkEntries r
def uptoBulkEntry {H : Type} : Lit × DataW H → Nat
  | (.string bytes, d) => bytes.length + uptoBulk d + 1
  | (_, d) => uptoBulk d + 1
 end
def uptoSmall : (H : Type) → List (DataW H) → Bool := fun _ ds => decide (uptoBulkAll ds ≤ 1048576)
def OpenSpec.upto (s : _root_.Go.ChangeSpec) : _root_.Go.OpenSpec := { _root_.Go.OpenSpec.ofChange s with cond := some uptoSmall }

/-- 'revetmentlaw06.RefillTells', WHERE WHAT IT READS IS OF BULK AT MOST 1048576: true; the input reads as it did. -/
def refillTellsUptoRow : OpenClaim := { program := "ytjephdeolifbpaa", sum := "1ebdd9078adf89509b794ef588f50d4b34407b9919d92131e3a30ff3f1c5cfc7", func := "revetment/revetmentlaw06.RefillTells", spec := "refillTells", inPlace := ["internal/abi.NoEscape", "internal/bytealg.MakeNoZero"], unfollowed := true, recurses := true, apart := false, narrowed := true }
def RefillTellsUptoSaid : Prop := refillTellsUptoRow.holds Try.pinned (OpenSpec.upto refillTellsSpec)

/-- 'revetmentlaw06.RefillTwo', WHERE WHAT IT READS IS OF BULK AT MOST 1048576: true; the input reads as it did. -/
def refillTwoUptoRow : OpenClaim := { program := "ytjephdeolifbpaa", sum := "1ebdd9078adf89509b794ef588f50d4b34407b9919d92131e3a30ff3f1c5cfc7", func := "revetment/revetmentlaw06.RefillTwo", spec := "refillTwo", inPlace := ["internal/abi.NoEscape", "internal/bytealg.MakeNoZero"], unfollowed := true, recurses := true, apart := false, narrowed := true }
def RefillTwoUptoSaid : Prop := refillTwoUptoRow.holds Try.pinned (OpenSpec.upto refillTwoSpec)

/-- 'revetmentlaw06.RefillGood', WHERE WHAT IT READS IS OF BULK AT MOST 1048576: true; the input reads as it did. -/
def refillGoodUptoRow : OpenClaim := { program := "ytjephdeolifbpaa", sum := "1ebdd9078adf89509b794ef588f50d4b34407b9919d92131e3a30ff3f1c5cfc7", func := "revetment/revetmentlaw06.RefillGood", spec := "refillGood", inPlace := ["internal/abi.NoEscape", "internal/bytealg.MakeNoZero"], unfollowed := true, recurses := true, apart := false, narrowed := true }
def RefillGoodUptoSaid : Prop := refillGoodUptoRow.holds Try.pinned (OpenSpec.upto refillGoodSpec)

/-- 'revetmentlaw06.RefillMore', WHERE WHAT IT READS IS OF BULK AT MOST 1048576: true; the input reads as it did. -/
def refillMoreUptoRow : OpenClaim := { program := "ytjephdeolifbpaa", sum := "1ebdd9078adf89509b794ef588f50d4b34407b9919d92131e3a30ff3f1c5cfc7", func := "revetment/revetmentlaw06.RefillMore", spec := "refillMore", inPlace := ["internal/abi.NoEscape", "internal/bytealg.MakeNoZero"], unfollowed := true, recurses := true, apart := false, narrowed := true }
def RefillMoreUptoSaid : Prop := refillMoreUptoRow.holds Try.pinned (OpenSpec.upto refillMoreSpec)

/-- 'revetmentlaw06.RefillOrder', WHERE WHAT IT READS IS OF BULK AT MOST 1048576: true; the input reads as it did. -/
def refillOrderUptoRow : OpenClaim := { program := "ytjephdeolifbpaa", sum := "1ebdd9078adf89509b794ef588f50d4b34407b9919d92131e3a30ff3f1c5cfc7", func := "revetment/revetmentlaw06.RefillOrder", spec := "refillOrder", inPlace := ["internal/abi.NoEscape", "internal/bytealg.MakeNoZero"], unfollowed := true, recurses := true, apart := false, narrowed := true }
def RefillOrderUptoSaid : Prop := refillOrderUptoRow.holds Try.pinned (OpenSpec.upto refillOrderSpec)

/-- 'revetmentlaw06.RefillNone', WHERE WHAT IT READS IS OF BULK AT MOST 1048576: true; the input reads as it did. -/
def refillNoneUptoRow : OpenClaim := { program := "ytjephdeolifbpaa", sum := "1ebdd9078adf89509b794ef588f50d4b34407b9919d92131e3a30ff3f1c5cfc7", func := "revetment/revetmentlaw06.RefillNone", spec := "refillNone", inPlace := ["internal/abi.NoEscape", "internal/bytealg.MakeNoZero"], unfollowed := true, recurses := true, apart := false, narrowed := true }
def RefillNoneUptoSaid : Prop := refillNoneUptoRow.holds Try.pinned (OpenSpec.upto refillNoneSpec)

end Rows
end Go.Proofs.Ytjephdeolifbpaa
