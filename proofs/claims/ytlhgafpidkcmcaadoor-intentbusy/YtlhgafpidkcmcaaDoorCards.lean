/-
  DERIVED. GIVEN WITH THE SEED: THE CARDS: each row of YtlhgafpidkcmcaaDoorRows.lean that lists a variable, with what it lists TIED to the program's text (the seventh form; the later family's looks); each row that meets fmt, with fmt's text TOLD by the authors' own Lean function (tested against real Go, not proved from fmt's source: count such statements apart). THE CARD IS WHAT COUNTS. Prove the row's statement (the work); the ties are given (YtlhgafpidkcmcaaDoorTie.lean); close each card by the builder's one call (the guide's Derived/Test/ToyasCard.lean, 'card_holds'). Laid BY PROGRAM, IN A SANDBOX (cutbox-door.mjs). By AI agents, Wed Nov 11 2026. No macro, syntax, notation, axiom, sorry.
-/
import Derived.Test.YtlhgafpidkcmcaaDoorRows
import GoSem.ClaimSeven
namespace Go.Proofs.YtlhgafpidkcmcaaDoor
namespace Rows

/-- THE TIED CARD OF 'revetmentlaw10.IntentBusy'. -/
def intentBusyCard : Claim7 := { stood := { row := intentBusyRow, standIns := [], harness := (true, "8eb6aa2ae2ba8129efe7893d032e9b5d38cb2bd1a95c0a37f1256cbab6210f28"), looks := false }, kinds := [], alts := [], laidByText := true, laidKinds := [.data], laidTests := true, laidLooks := .later }
def IntentBusyCardSaid : Prop := Claim7.holds Tryd.pinned (.plain (OpenSpec.ofChange intentBusySpec)) intentBusyCard

/-- THE SECOND FORM's CARD OF 'revetmentlaw10.IntentBusy'. -/
def intentBusyUptoCard : Claim7 := { stood := { row := intentBusyUptoRow, standIns := [], harness := (true, "8eb6aa2ae2ba8129efe7893d032e9b5d38cb2bd1a95c0a37f1256cbab6210f28"), looks := false }, kinds := [], alts := [], laidByText := true, laidKinds := [.data], laidTests := true, laidLooks := .later }
def IntentBusyUptoCardSaid : Prop := Claim7.holds Tryd.pinned (.plain (OpenSpec.upto intentBusySpec)) intentBusyUptoCard
end Rows
end Go.Proofs.YtlhgafpidkcmcaaDoor
