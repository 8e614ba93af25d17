/-
  DERIVED. GIVEN WITH THE SEED: THE CARDS: each row of YtjmeiifogblmoaaGreatDoorRows.lean that lists a variable, with what it lists TIED to the program's text (the seventh form; the later family's looks); each row that meets fmt, with fmt's text TOLD by the authors' own Lean function (tested against real Go, not proved from fmt's source: count such statements apart). THE CARD IS WHAT COUNTS. Prove the row's statement (the work); the ties are given (YtjmeiifogblmoaaGreatDoorTie.lean); close each card by the builder's one call (the guide's Derived/Test/ToyasCard.lean, 'card_holds'). Laid BY PROGRAM, IN A SANDBOX (cutbox-door.mjs). By AI agents, Wed Nov 11 2026. No macro, syntax, notation, axiom, sorry.
-/
import Derived.Test.YtjmeiifogblmoaaGreatDoorRows
import GoSem.ClaimSeven
namespace Go.Proofs.YtjmeiifogblmoaaGreatDoor
namespace Rows

/-- THE TIED CARD OF 'revetmentlaw13.RingActs'. -/
def ringActsCard : Claim7 := { stood := { row := ringActsRow, standIns := [], harness := (true, "8b7f7a5a6bb0b7006261c93b02587f527727548a62dbb0075d5ca47a9d412caf"), looks := false }, kinds := [], alts := [], laidByText := true, laidKinds := [.data, .pinned], laidTests := true, laidLooks := .later }
def RingActsCardSaid : Prop := Claim7.holds Tryz.pinned (.plain (OpenSpec.ofChange ringActsSpec)) ringActsCard

/-- THE TIED CARD OF 'revetmentlaw13.RingFinds'. -/
def ringFindsCard : Claim7 := { stood := { row := ringFindsRow, standIns := [], harness := (true, "8b7f7a5a6bb0b7006261c93b02587f527727548a62dbb0075d5ca47a9d412caf"), looks := false }, kinds := [], alts := [], laidByText := true, laidKinds := [.data, .pinned], laidTests := true, laidLooks := .later }
def RingFindsCardSaid : Prop := Claim7.holds Tryz.pinned (.plain (OpenSpec.ofChange ringFindsSpec)) ringFindsCard

/-- THE TIED CARD OF 'revetmentlaw13.RingTorn'. -/
def ringTornCard : Claim7 := { stood := { row := ringTornRow, standIns := [], harness := (true, "8b7f7a5a6bb0b7006261c93b02587f527727548a62dbb0075d5ca47a9d412caf"), looks := false }, kinds := [], alts := [], laidByText := true, laidKinds := [.data, .pinned], laidTests := true, laidLooks := .later }
def RingTornCardSaid : Prop := Claim7.holds Tryz.pinned (.plain (OpenSpec.ofChange ringTornSpec)) ringTornCard

/-- THE TIED CARD OF 'revetmentlaw13.RingBusy'. -/
def ringBusyCard : Claim7 := { stood := { row := ringBusyRow, standIns := [], harness := (true, "8b7f7a5a6bb0b7006261c93b02587f527727548a62dbb0075d5ca47a9d412caf"), looks := false }, kinds := [], alts := [], laidByText := true, laidKinds := [.data, .pinned], laidTests := true, laidLooks := .later }
def RingBusyCardSaid : Prop := Claim7.holds Tryz.pinned (.plain (OpenSpec.ofChange ringBusySpec)) ringBusyCard

/-- THE TIED CARD OF 'revetmentlaw13.RingEmpty'. -/
def ringEmptyCard : Claim7 := { stood := { row := ringEmptyRow, standIns := [], harness := (true, "8b7f7a5a6bb0b7006261c93b02587f527727548a62dbb0075d5ca47a9d412caf"), looks := false }, kinds := [], alts := [], laidByText := true, laidKinds := [.data, .pinned], laidTests := true, laidLooks := .later }
def RingEmptyCardSaid : Prop := Claim7.holds Tryz.pinned (.plain (OpenSpec.ofChange ringEmptySpec)) ringEmptyCard

/-- THE SECOND FORM's CARD OF 'revetmentlaw13.RingActs'. -/
def ringActsUptoCard : Claim7 := { stood := { row := ringActsUptoRow, standIns := [], harness := (true, "8b7f7a5a6bb0b7006261c93b02587f527727548a62dbb0075d5ca47a9d412caf"), looks := false }, kinds := [], alts := [], laidByText := true, laidKinds := [.data, .pinned], laidTests := true, laidLooks := .later }
def RingActsUptoCardSaid : Prop := Claim7.holds Tryz.pinned (.plain (OpenSpec.upto ringActsSpec)) ringActsUptoCard

/-- THE SECOND FORM's CARD OF 'revetmentlaw13.RingFinds'. -/
def ringFindsUptoCard : Claim7 := { stood := { row := ringFindsUptoRow, standIns := [], harness := (true, "8b7f7a5a6bb0b7006261c93b02587f527727548a62dbb0075d5ca47a9d412caf"), looks := false }, kinds := [], alts := [], laidByText := true, laidKinds := [.data, .pinned], laidTests := true, laidLooks := .later }
def RingFindsUptoCardSaid : Prop := Claim7.holds Tryz.pinned (.plain (OpenSpec.upto ringFindsSpec)) ringFindsUptoCard

/-- THE SECOND FORM's CARD OF 'revetmentlaw13.RingTorn'. -/
def ringTornUptoCard : Claim7 := { stood := { row := ringTornUptoRow, standIns := [], harness := (true, "8b7f7a5a6bb0b7006261c93b02587f527727548a62dbb0075d5ca47a9d412caf"), looks := false }, kinds := [], alts := [], laidByText := true, laidKinds := [.data, .pinned], laidTests := true, laidLooks := .later }
def RingTornUptoCardSaid : Prop := Claim7.holds Tryz.pinned (.plain (OpenSpec.upto ringTornSpec)) ringTornUptoCard

/-- THE SECOND FORM's CARD OF 'revetmentlaw13.RingBusy'. -/
def ringBusyUptoCard : Claim7 := { stood := { row := ringBusyUptoRow, standIns := [], harness := (true, "8b7f7a5a6bb0b7006261c93b02587f527727548a62dbb0075d5ca47a9d412caf"), looks := false }, kinds := [], alts := [], laidByText := true, laidKinds := [.data, .pinned], laidTests := true, laidLooks := .later }
def RingBusyUptoCardSaid : Prop := Claim7.holds Tryz.pinned (.plain (OpenSpec.upto ringBusySpec)) ringBusyUptoCard

/-- THE SECOND FORM's CARD OF 'revetmentlaw13.RingEmpty'. -/
def ringEmptyUptoCard : Claim7 := { stood := { row := ringEmptyUptoRow, standIns := [], harness := (true, "8b7f7a5a6bb0b7006261c93b02587f527727548a62dbb0075d5ca47a9d412caf"), looks := false }, kinds := [], alts := [], laidByText := true, laidKinds := [.data, .pinned], laidTests := true, laidLooks := .later }
def RingEmptyUptoCardSaid : Prop := Claim7.holds Tryz.pinned (.plain (OpenSpec.upto ringEmptySpec)) ringEmptyUptoCard
end Rows
end Go.Proofs.YtjmeiifogblmoaaGreatDoor
