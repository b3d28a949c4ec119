/-
  DERIVED. GIVEN WITH THE SEED: THE CARDS: each row of YtgdkjkfbknbgkaaGreatDoorRows.lean that lists a variable, with what it lists TIED to the program's text (the seventh form; the later family's looks); each row that meets fmt, with fmt's text TOLD by the authors' own Lean function (tested against real Go, not proved from fmt's source: count such statements apart). THE CARD IS WHAT COUNTS. Prove the row's statement (the work); the ties are given (YtgdkjkfbknbgkaaGreatDoorTie.lean); close each card by the builder's one call (the guide's Derived/Test/ToyasCard.lean, 'card_holds'). Laid BY PROGRAM, IN A SANDBOX (cutbox-door.mjs). By AI agents, Wed Nov 11 2026. No macro, syntax, notation, axiom, sorry.
-/
import Derived.Test.YtgdkjkfbknbgkaaGreatDoorRows
import GoSem.ClaimSeven
namespace Go.Proofs.YtgdkjkfbknbgkaaGreatDoor
namespace Rows

/-- THE TIED CARD OF 'ossuarylaw14.ShowValues'. -/
def showValuesCard : Claim7 := { stood := { row := showValuesRow, standIns := [], harness := (true, "60bf8c98462634c3b074722bdc68b171aeaea1ed434394e796b87e1b431bcde6"), looks := true }, kinds := [], alts := [], laidByText := true, laidKinds := [.data, .data, .data, .data, .pinned], laidTests := true, laidLooks := .later }
def ShowValuesCardSaid : Prop := Claim7.holds Tryz.pinned (.plain (OpenSpec.ofChange showValuesSpec)) showValuesCard

/-- THE TIED CARD OF 'ossuarylaw14.ShowWoes'. -/
def showWoesCard : Claim7 := { stood := { row := showWoesRow, standIns := [], harness := (true, "60bf8c98462634c3b074722bdc68b171aeaea1ed434394e796b87e1b431bcde6"), looks := true }, kinds := [], alts := [], laidByText := true, laidKinds := [.data, .data, .data], laidTests := true, laidLooks := .later }
def ShowWoesCardSaid : Prop := Claim7.holds Tryz.pinned (.plain (OpenSpec.ofChange showWoesSpec)) showWoesCard

/-- THE TIED CARD OF 'ossuarylaw14.ShowFunctions'. -/
def showFunctionsCard : Claim7 := { stood := { row := showFunctionsRow, standIns := [], harness := (true, "60bf8c98462634c3b074722bdc68b171aeaea1ed434394e796b87e1b431bcde6"), looks := true }, kinds := [], alts := [], laidByText := true, laidKinds := [.data, .data, .data], laidTests := true, laidLooks := .later }
def ShowFunctionsCardSaid : Prop := Claim7.holds Tryz.pinned (.plain (OpenSpec.ofChange showFunctionsSpec)) showFunctionsCard

/-- THE TIED CARD OF 'ossuarylaw14.ShowKinds'. -/
def showKindsCard : Claim7 := { stood := { row := showKindsRow, standIns := [], harness := (true, "60bf8c98462634c3b074722bdc68b171aeaea1ed434394e796b87e1b431bcde6"), looks := true }, kinds := [], alts := [], laidByText := true, laidKinds := [.data, .data, .data, .data, .pinned], laidTests := true, laidLooks := .later }
def ShowKindsCardSaid : Prop := Claim7.holds Tryz.pinned (.plain (OpenSpec.ofChange showKindsSpec)) showKindsCard

/-- THE SECOND FORM's CARD OF 'ossuarylaw14.ShowValues'. -/
def showValuesUptoCard : Claim7 := { stood := { row := showValuesUptoRow, standIns := [], harness := (true, "60bf8c98462634c3b074722bdc68b171aeaea1ed434394e796b87e1b431bcde6"), looks := true }, kinds := [], alts := [], laidByText := true, laidKinds := [.data, .data, .data, .data, .pinned], laidTests := true, laidLooks := .later }
def ShowValuesUptoCardSaid : Prop := Claim7.holds Tryz.pinned (.plain (OpenSpec.upto showValuesSpec)) showValuesUptoCard

/-- THE SECOND FORM's CARD OF 'ossuarylaw14.ShowWoes'. -/
def showWoesUptoCard : Claim7 := { stood := { row := showWoesUptoRow, standIns := [], harness := (true, "60bf8c98462634c3b074722bdc68b171aeaea1ed434394e796b87e1b431bcde6"), looks := true }, kinds := [], alts := [], laidByText := true, laidKinds := [.data, .data, .data], laidTests := true, laidLooks := .later }
def ShowWoesUptoCardSaid : Prop := Claim7.holds Tryz.pinned (.plain (OpenSpec.upto showWoesSpec)) showWoesUptoCard

/-- THE SECOND FORM's CARD OF 'ossuarylaw14.ShowFunctions'. -/
def showFunctionsUptoCard : Claim7 := { stood := { row := showFunctionsUptoRow, standIns := [], harness := (true, "60bf8c98462634c3b074722bdc68b171aeaea1ed434394e796b87e1b431bcde6"), looks := true }, kinds := [], alts := [], laidByText := true, laidKinds := [.data, .data, .data], laidTests := true, laidLooks := .later }
def ShowFunctionsUptoCardSaid : Prop := Claim7.holds Tryz.pinned (.plain (OpenSpec.upto showFunctionsSpec)) showFunctionsUptoCard

/-- THE SECOND FORM's CARD OF 'ossuarylaw14.ShowKinds'. -/
def showKindsUptoCard : Claim7 := { stood := { row := showKindsUptoRow, standIns := [], harness := (true, "60bf8c98462634c3b074722bdc68b171aeaea1ed434394e796b87e1b431bcde6"), looks := true }, kinds := [], alts := [], laidByText := true, laidKinds := [.data, .data, .data, .data, .pinned], laidTests := true, laidLooks := .later }
def ShowKindsUptoCardSaid : Prop := Claim7.holds Tryz.pinned (.plain (OpenSpec.upto showKindsSpec)) showKindsUptoCard
end Rows
end Go.Proofs.YtgdkjkfbknbgkaaGreatDoor
