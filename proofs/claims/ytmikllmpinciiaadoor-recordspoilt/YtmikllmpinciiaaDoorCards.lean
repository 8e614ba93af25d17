/-
  DERIVED. GIVEN WITH THE SEED: THE CARDS: each row of YtmikllmpinciiaaDoorRows.lean that lists a variable, with what it lists TIED to the program's text (the seventh form; the later family's looks); each row that meets fmt, with fmt's text TOLD by the authors' own Lean function (tested against real Go, not proved from fmt's source: count such statements apart). THE CARD IS WHAT COUNTS. Prove the row's statement (the work); the ties are given (YtmikllmpinciiaaDoorTie.lean); close each card by the builder's one call (the guide's Derived/Test/ToyasCard.lean, 'card_holds'). Laid BY PROGRAM, IN A SANDBOX (cutbox-door.mjs). By AI agents, Wed Nov 11 2026. No macro, syntax, notation, axiom, sorry.
-/
import Derived.Test.YtmikllmpinciiaaDoorRows
import GoSem.ClaimSeven
namespace Go.Proofs.YtmikllmpinciiaaDoor
namespace Rows

/-- THE TIED CARD OF 'revetmentlaw12.RecordTells'. -/
def recordTellsCard : Claim7 := { stood := { row := recordTellsRow, standIns := [], harness := (true, "1ae6a37698d2e24b5c769eff56949aa43403232362c262ec4616dca1f2bd7c63"), looks := false }, kinds := [], alts := [], laidByText := true, laidKinds := [.data, .pinned], laidTests := true, laidLooks := .later }
def RecordTellsCardSaid : Prop := Claim7.holds Tryd.pinned (.plain (OpenSpec.ofChange recordTellsSpec)) recordTellsCard

/-- THE TIED CARD OF 'revetmentlaw12.RecordBack'. -/
def recordBackCard : Claim7 := { stood := { row := recordBackRow, standIns := [], harness := (true, "1ae6a37698d2e24b5c769eff56949aa43403232362c262ec4616dca1f2bd7c63"), looks := false }, kinds := [], alts := [], laidByText := true, laidKinds := [.data, .pinned], laidTests := true, laidLooks := .later }
def RecordBackCardSaid : Prop := Claim7.holds Tryd.pinned (.plain (OpenSpec.ofChange recordBackSpec)) recordBackCard

/-- THE TIED CARD OF 'revetmentlaw12.RecordSpoilt'. -/
def recordSpoiltCard : Claim7 := { stood := { row := recordSpoiltRow, standIns := [], harness := (true, "1ae6a37698d2e24b5c769eff56949aa43403232362c262ec4616dca1f2bd7c63"), looks := false }, kinds := [], alts := [], laidByText := true, laidKinds := [.data, .pinned], laidTests := true, laidLooks := .later }
def RecordSpoiltCardSaid : Prop := Claim7.holds Tryd.pinned (.plain (OpenSpec.ofChange recordSpoiltSpec)) recordSpoiltCard

/-- THE TIED CARD OF 'revetmentlaw12.RecordHeads'. -/
def recordHeadsCard : Claim7 := { stood := { row := recordHeadsRow, standIns := [], harness := (true, "1ae6a37698d2e24b5c769eff56949aa43403232362c262ec4616dca1f2bd7c63"), looks := false }, kinds := [], alts := [], laidByText := true, laidKinds := [.data, .pinned], laidTests := true, laidLooks := .later }
def RecordHeadsCardSaid : Prop := Claim7.holds Tryd.pinned (.plain (OpenSpec.ofChange recordHeadsSpec)) recordHeadsCard

/-- THE SECOND FORM's CARD OF 'revetmentlaw12.RecordTells'. -/
def recordTellsUptoCard : Claim7 := { stood := { row := recordTellsUptoRow, standIns := [], harness := (true, "1ae6a37698d2e24b5c769eff56949aa43403232362c262ec4616dca1f2bd7c63"), looks := false }, kinds := [], alts := [], laidByText := true, laidKinds := [.data, .pinned], laidTests := true, laidLooks := .later }
def RecordTellsUptoCardSaid : Prop := Claim7.holds Tryd.pinned (.plain (OpenSpec.upto recordTellsSpec)) recordTellsUptoCard

/-- THE SECOND FORM's CARD OF 'revetmentlaw12.RecordBack'. -/
def recordBackUptoCard : Claim7 := { stood := { row := recordBackUptoRow, standIns := [], harness := (true, "1ae6a37698d2e24b5c769eff56949aa43403232362c262ec4616dca1f2bd7c63"), looks := false }, kinds := [], alts := [], laidByText := true, laidKinds := [.data, .pinned], laidTests := true, laidLooks := .later }
def RecordBackUptoCardSaid : Prop := Claim7.holds Tryd.pinned (.plain (OpenSpec.upto recordBackSpec)) recordBackUptoCard

/-- THE SECOND FORM's CARD OF 'revetmentlaw12.RecordSpoilt'. -/
def recordSpoiltUptoCard : Claim7 := { stood := { row := recordSpoiltUptoRow, standIns := [], harness := (true, "1ae6a37698d2e24b5c769eff56949aa43403232362c262ec4616dca1f2bd7c63"), looks := false }, kinds := [], alts := [], laidByText := true, laidKinds := [.data, .pinned], laidTests := true, laidLooks := .later }
def RecordSpoiltUptoCardSaid : Prop := Claim7.holds Tryd.pinned (.plain (OpenSpec.upto recordSpoiltSpec)) recordSpoiltUptoCard

/-- THE SECOND FORM's CARD OF 'revetmentlaw12.RecordHeads'. -/
def recordHeadsUptoCard : Claim7 := { stood := { row := recordHeadsUptoRow, standIns := [], harness := (true, "1ae6a37698d2e24b5c769eff56949aa43403232362c262ec4616dca1f2bd7c63"), looks := false }, kinds := [], alts := [], laidByText := true, laidKinds := [.data, .pinned], laidTests := true, laidLooks := .later }
def RecordHeadsUptoCardSaid : Prop := Claim7.holds Tryd.pinned (.plain (OpenSpec.upto recordHeadsSpec)) recordHeadsUptoCard
end Rows
end Go.Proofs.YtmikllmpinciiaaDoor
