/-
  DERIVED. GIVEN WITH THE SEED: THE CARDS: each row of YtbeapojjbgkalaaGreatDoorRows.lean that lists a variable, with what it lists TIED to the program's text (the seventh form; the later family's looks); each row that meets fmt, with fmt's text TOLD by the authors' own Lean function (tested against real Go, not proved from fmt's source: count such statements apart). THE CARD IS WHAT COUNTS. Prove the row's statement (the work); the ties are given (YtbeapojjbgkalaaGreatDoorTie.lean); close each card by the builder's one call (the guide's Derived/Test/ToyasCard.lean, 'card_holds'). Laid BY PROGRAM, IN A SANDBOX (cutbox-door.mjs). By AI agents, Wed Nov 11 2026. No macro, syntax, notation, axiom, sorry.
-/
import Derived.Test.YtbeapojjbgkalaaGreatDoorRows
import GoSem.ClaimSeven
namespace Go.Proofs.YtbeapojjbgkalaaGreatDoor
namespace Rows

/-- THE TIED CARD OF 'ossuarylaw10.HeapRuns'. -/
def heapRunsCard : Claim7 := { stood := { row := heapRunsRow, standIns := [], harness := (true, "f633542c0cb3998e24f4c2125584b651a3c65790a8fd12f50b4b7a892d9a4063"), looks := true }, kinds := [], alts := [], laidByText := true, laidKinds := [.data, .data, .data, .data, .pinned], laidTests := true, laidLooks := .later }
def HeapRunsCardSaid : Prop := Claim7.holds Tryz.pinned (.plain (OpenSpec.ofChange heapRunsSpec)) heapRunsCard

/-- THE TIED CARD OF 'ossuarylaw10.HeapScopes'. -/
def heapScopesCard : Claim7 := { stood := { row := heapScopesRow, standIns := [], harness := (true, "f633542c0cb3998e24f4c2125584b651a3c65790a8fd12f50b4b7a892d9a4063"), looks := true }, kinds := [], alts := [], laidByText := true, laidKinds := [.data, .data, .data], laidTests := true, laidLooks := .later }
def HeapScopesCardSaid : Prop := Claim7.holds Tryz.pinned (.plain (OpenSpec.ofChange heapScopesSpec)) heapScopesCard

/-- THE SECOND FORM's CARD OF 'ossuarylaw10.HeapRuns'. -/
def heapRunsUptoCard : Claim7 := { stood := { row := heapRunsUptoRow, standIns := [], harness := (true, "f633542c0cb3998e24f4c2125584b651a3c65790a8fd12f50b4b7a892d9a4063"), looks := true }, kinds := [], alts := [], laidByText := true, laidKinds := [.data, .data, .data, .data, .pinned], laidTests := true, laidLooks := .later }
def HeapRunsUptoCardSaid : Prop := Claim7.holds Tryz.pinned (.plain (OpenSpec.upto heapRunsSpec)) heapRunsUptoCard

/-- THE SECOND FORM's CARD OF 'ossuarylaw10.HeapScopes'. -/
def heapScopesUptoCard : Claim7 := { stood := { row := heapScopesUptoRow, standIns := [], harness := (true, "f633542c0cb3998e24f4c2125584b651a3c65790a8fd12f50b4b7a892d9a4063"), looks := true }, kinds := [], alts := [], laidByText := true, laidKinds := [.data, .data, .data], laidTests := true, laidLooks := .later }
def HeapScopesUptoCardSaid : Prop := Claim7.holds Tryz.pinned (.plain (OpenSpec.upto heapScopesSpec)) heapScopesUptoCard
end Rows
end Go.Proofs.YtbeapojjbgkalaaGreatDoor
