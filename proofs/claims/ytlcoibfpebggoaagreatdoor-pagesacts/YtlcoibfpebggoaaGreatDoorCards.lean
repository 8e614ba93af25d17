/-
  DERIVED. GIVEN WITH THE SEED: THE CARDS: each row of YtlcoibfpebggoaaGreatDoorRows.lean that lists a variable, with what it lists TIED to the program's text (the seventh form; the later family's looks); each row that meets fmt, with fmt's text TOLD by the authors' own Lean function (tested against real Go, not proved from fmt's source: count such statements apart). THE CARD IS WHAT COUNTS. Prove the row's statement (the work); the ties are given (YtlcoibfpebggoaaGreatDoorTie.lean); close each card by the builder's one call (the guide's Derived/Test/ToyasCard.lean, 'card_holds'). Laid BY PROGRAM, IN A SANDBOX (cutbox-door.mjs). By AI agents, Wed Nov 11 2026. No macro, syntax, notation, axiom, sorry.
-/
import Derived.Test.YtlcoibfpebggoaaGreatDoorRows
import GoSem.ClaimSeven
namespace Go.Proofs.YtlcoibfpebggoaaGreatDoor
namespace Rows

/-- THE TIED CARD OF 'revetmentlaw11.PagesTells'. -/
def pagesTellsCard : Claim7 := { stood := { row := pagesTellsRow, standIns := [], harness := (true, "517d6080fa90421d27ef2ef93c386dcf76469a6045d9f472575822940872c396"), looks := false }, kinds := [], alts := [], laidByText := true, laidKinds := [.data, .pinned], laidTests := true, laidLooks := .later }
def PagesTellsCardSaid : Prop := Claim7.holds Tryz.pinned (.plain (OpenSpec.ofChange pagesTellsSpec)) pagesTellsCard

/-- THE TIED CARD OF 'revetmentlaw11.PagesActs'. -/
def pagesActsCard : Claim7 := { stood := { row := pagesActsRow, standIns := [], harness := (true, "517d6080fa90421d27ef2ef93c386dcf76469a6045d9f472575822940872c396"), looks := false }, kinds := [], alts := [], laidByText := true, laidKinds := [.data, .pinned], laidTests := true, laidLooks := .later }
def PagesActsCardSaid : Prop := Claim7.holds Tryz.pinned (.plain (OpenSpec.ofChange pagesActsSpec)) pagesActsCard

/-- THE TIED CARD OF 'revetmentlaw11.PagesJoined'. -/
def pagesJoinedCard : Claim7 := { stood := { row := pagesJoinedRow, standIns := [], harness := (true, "517d6080fa90421d27ef2ef93c386dcf76469a6045d9f472575822940872c396"), looks := false }, kinds := [], alts := [], laidByText := true, laidKinds := [.data, .pinned], laidTests := true, laidLooks := .later }
def PagesJoinedCardSaid : Prop := Claim7.holds Tryz.pinned (.plain (OpenSpec.ofChange pagesJoinedSpec)) pagesJoinedCard

/-- THE TIED CARD OF 'revetmentlaw11.PagesAll'. -/
def pagesAllCard : Claim7 := { stood := { row := pagesAllRow, standIns := [], harness := (true, "517d6080fa90421d27ef2ef93c386dcf76469a6045d9f472575822940872c396"), looks := false }, kinds := [], alts := [], laidByText := true, laidKinds := [.data, .pinned], laidTests := true, laidLooks := .later }
def PagesAllCardSaid : Prop := Claim7.holds Tryz.pinned (.plain (OpenSpec.ofChange pagesAllSpec)) pagesAllCard

/-- THE SECOND FORM's CARD OF 'revetmentlaw11.PagesTells'. -/
def pagesTellsUptoCard : Claim7 := { stood := { row := pagesTellsUptoRow, standIns := [], harness := (true, "517d6080fa90421d27ef2ef93c386dcf76469a6045d9f472575822940872c396"), looks := false }, kinds := [], alts := [], laidByText := true, laidKinds := [.data, .pinned], laidTests := true, laidLooks := .later }
def PagesTellsUptoCardSaid : Prop := Claim7.holds Tryz.pinned (.plain (OpenSpec.upto pagesTellsSpec)) pagesTellsUptoCard

/-- THE SECOND FORM's CARD OF 'revetmentlaw11.PagesActs'. -/
def pagesActsUptoCard : Claim7 := { stood := { row := pagesActsUptoRow, standIns := [], harness := (true, "517d6080fa90421d27ef2ef93c386dcf76469a6045d9f472575822940872c396"), looks := false }, kinds := [], alts := [], laidByText := true, laidKinds := [.data, .pinned], laidTests := true, laidLooks := .later }
def PagesActsUptoCardSaid : Prop := Claim7.holds Tryz.pinned (.plain (OpenSpec.upto pagesActsSpec)) pagesActsUptoCard

/-- THE SECOND FORM's CARD OF 'revetmentlaw11.PagesJoined'. -/
def pagesJoinedUptoCard : Claim7 := { stood := { row := pagesJoinedUptoRow, standIns := [], harness := (true, "517d6080fa90421d27ef2ef93c386dcf76469a6045d9f472575822940872c396"), looks := false }, kinds := [], alts := [], laidByText := true, laidKinds := [.data, .pinned], laidTests := true, laidLooks := .later }
def PagesJoinedUptoCardSaid : Prop := Claim7.holds Tryz.pinned (.plain (OpenSpec.upto pagesJoinedSpec)) pagesJoinedUptoCard

/-- THE SECOND FORM's CARD OF 'revetmentlaw11.PagesAll'. -/
def pagesAllUptoCard : Claim7 := { stood := { row := pagesAllUptoRow, standIns := [], harness := (true, "517d6080fa90421d27ef2ef93c386dcf76469a6045d9f472575822940872c396"), looks := false }, kinds := [], alts := [], laidByText := true, laidKinds := [.data, .pinned], laidTests := true, laidLooks := .later }
def PagesAllUptoCardSaid : Prop := Claim7.holds Tryz.pinned (.plain (OpenSpec.upto pagesAllSpec)) pagesAllUptoCard
end Rows
end Go.Proofs.YtlcoibfpebggoaaGreatDoor
