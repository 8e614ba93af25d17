/-
  DERIVED. GIVEN WITH THE SEED: THE CARDS: each row of YtlkbdhejfmljlaaDoorRows.lean that lists a variable, with what it lists TIED to the program's text (the seventh form; the later family's looks); each row that meets fmt, with fmt's text TOLD by the authors' own Lean function (tested against real Go, not proved from fmt's source: count such statements apart). THE CARD IS WHAT COUNTS. Prove the row's statement (the work); the ties are given (YtlkbdhejfmljlaaDoorTie.lean); close each card by the builder's one call (the guide's Derived/Test/ToyasCard.lean, 'card_holds'). Laid BY PROGRAM, IN A SANDBOX (cutbox-door.mjs). By AI agents, Wed Nov 11 2026. No macro, syntax, notation, axiom, sorry.
-/
import Derived.Test.YtlkbdhejfmljlaaDoorRows
import GoSem.ClaimSeven
namespace Go.Proofs.YtlkbdhejfmljlaaDoor
namespace Rows

/-- THE TIED CARD OF 'revetmentlaw15.PlanTells'. -/
def planTellsCard : Claim7 := { stood := { row := planTellsRow, standIns := [], harness := (true, "65e393f82ee14f3df1e4123bc7aa51a679beae8f37d2e3d83b17c040bedf844c"), looks := false }, kinds := [], alts := [], laidByText := true, laidKinds := [.data, .data], laidTests := true, laidLooks := .later }
def PlanTellsCardSaid : Prop := Claim7.holds Tryd.pinned (.plain (OpenSpec.ofChange planTellsSpec)) planTellsCard

/-- THE TIED CARD OF 'revetmentlaw15.PlanLost'. -/
def planLostCard : Claim7 := { stood := { row := planLostRow, standIns := [], harness := (true, "65e393f82ee14f3df1e4123bc7aa51a679beae8f37d2e3d83b17c040bedf844c"), looks := false }, kinds := [], alts := [], laidByText := true, laidKinds := [.data, .data], laidTests := true, laidLooks := .later }
def PlanLostCardSaid : Prop := Claim7.holds Tryd.pinned (.plain (OpenSpec.ofChange planLostSpec)) planLostCard

/-- THE TIED CARD OF 'revetmentlaw15.PlanEnough'. -/
def planEnoughCard : Claim7 := { stood := { row := planEnoughRow, standIns := [], harness := (true, "65e393f82ee14f3df1e4123bc7aa51a679beae8f37d2e3d83b17c040bedf844c"), looks := false }, kinds := [], alts := [], laidByText := true, laidKinds := [.data, .data], laidTests := true, laidLooks := .later }
def PlanEnoughCardSaid : Prop := Claim7.holds Tryd.pinned (.plain (OpenSpec.ofChange planEnoughSpec)) planEnoughCard

/-- THE TIED CARD OF 'revetmentlaw15.PlanRead'. -/
def planReadCard : Claim7 := { stood := { row := planReadRow, standIns := [], harness := (true, "65e393f82ee14f3df1e4123bc7aa51a679beae8f37d2e3d83b17c040bedf844c"), looks := false }, kinds := [], alts := [], laidByText := true, laidKinds := [.data, .data], laidTests := true, laidLooks := .later }
def PlanReadCardSaid : Prop := Claim7.holds Tryd.pinned (.plain (OpenSpec.ofChange planReadSpec)) planReadCard

/-- THE TIED CARD OF 'revetmentlaw15.PlanFull'. -/
def planFullCard : Claim7 := { stood := { row := planFullRow, standIns := [], harness := (true, "65e393f82ee14f3df1e4123bc7aa51a679beae8f37d2e3d83b17c040bedf844c"), looks := false }, kinds := [], alts := [], laidByText := true, laidKinds := [.data, .data], laidTests := true, laidLooks := .later }
def PlanFullCardSaid : Prop := Claim7.holds Tryd.pinned (.plain (OpenSpec.ofChange planFullSpec)) planFullCard

/-- THE SECOND FORM's CARD OF 'revetmentlaw15.PlanTells'. -/
def planTellsUptoCard : Claim7 := { stood := { row := planTellsUptoRow, standIns := [], harness := (true, "65e393f82ee14f3df1e4123bc7aa51a679beae8f37d2e3d83b17c040bedf844c"), looks := false }, kinds := [], alts := [], laidByText := true, laidKinds := [.data, .data], laidTests := true, laidLooks := .later }
def PlanTellsUptoCardSaid : Prop := Claim7.holds Tryd.pinned (.plain (OpenSpec.upto planTellsSpec)) planTellsUptoCard

/-- THE SECOND FORM's CARD OF 'revetmentlaw15.PlanLost'. -/
def planLostUptoCard : Claim7 := { stood := { row := planLostUptoRow, standIns := [], harness := (true, "65e393f82ee14f3df1e4123bc7aa51a679beae8f37d2e3d83b17c040bedf844c"), looks := false }, kinds := [], alts := [], laidByText := true, laidKinds := [.data, .data], laidTests := true, laidLooks := .later }
def PlanLostUptoCardSaid : Prop := Claim7.holds Tryd.pinned (.plain (OpenSpec.upto planLostSpec)) planLostUptoCard

/-- THE SECOND FORM's CARD OF 'revetmentlaw15.PlanEnough'. -/
def planEnoughUptoCard : Claim7 := { stood := { row := planEnoughUptoRow, standIns := [], harness := (true, "65e393f82ee14f3df1e4123bc7aa51a679beae8f37d2e3d83b17c040bedf844c"), looks := false }, kinds := [], alts := [], laidByText := true, laidKinds := [.data, .data], laidTests := true, laidLooks := .later }
def PlanEnoughUptoCardSaid : Prop := Claim7.holds Tryd.pinned (.plain (OpenSpec.upto planEnoughSpec)) planEnoughUptoCard

/-- THE SECOND FORM's CARD OF 'revetmentlaw15.PlanRead'. -/
def planReadUptoCard : Claim7 := { stood := { row := planReadUptoRow, standIns := [], harness := (true, "65e393f82ee14f3df1e4123bc7aa51a679beae8f37d2e3d83b17c040bedf844c"), looks := false }, kinds := [], alts := [], laidByText := true, laidKinds := [.data, .data], laidTests := true, laidLooks := .later }
def PlanReadUptoCardSaid : Prop := Claim7.holds Tryd.pinned (.plain (OpenSpec.upto planReadSpec)) planReadUptoCard

/-- THE SECOND FORM's CARD OF 'revetmentlaw15.PlanFull'. -/
def planFullUptoCard : Claim7 := { stood := { row := planFullUptoRow, standIns := [], harness := (true, "65e393f82ee14f3df1e4123bc7aa51a679beae8f37d2e3d83b17c040bedf844c"), looks := false }, kinds := [], alts := [], laidByText := true, laidKinds := [.data, .data], laidTests := true, laidLooks := .later }
def PlanFullUptoCardSaid : Prop := Claim7.holds Tryd.pinned (.plain (OpenSpec.upto planFullSpec)) planFullUptoCard
end Rows
end Go.Proofs.YtlkbdhejfmljlaaDoor
