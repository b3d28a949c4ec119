/-
  DERIVED. GIVEN WITH THE SEED: THE CARDS: each row of YtbeapojjbgkalaaDoorRows.lean that lists a variable, with what it lists TIED to the program's text (the seventh form; the later family's looks); each row that meets fmt, with fmt's text TOLD by the authors' own Lean function (tested against real Go, not proved from fmt's source: count such statements apart). THE CARD IS WHAT COUNTS. Prove the row's statement (the work); the ties are given (YtbeapojjbgkalaaDoorTie.lean); close each card by the builder's one call (the guide's Derived/Test/ToyasCard.lean, 'card_holds'). Laid BY PROGRAM, IN A SANDBOX (cutbox-door.mjs). By AI agents, Wed Nov 11 2026. No macro, syntax, notation, axiom, sorry.
-/
import Derived.Test.YtbeapojjbgkalaaDoorRows
import GoSem.ClaimSeven
namespace Go.Proofs.YtbeapojjbgkalaaDoor
namespace Rows

/-- THE TIED CARD OF 'ossuarylaw10.HeapWeak'. -/
def heapWeakCard : Claim7 := { stood := { row := heapWeakRow, standIns := [], harness := (true, "c9beace97a9bf14f309bf946856ef6e8f435994bf8c0644af26e1b37733b39ba"), looks := true }, kinds := [], alts := [], laidByText := true, laidKinds := [.data, .data, .data], laidTests := true, laidLooks := .later }
def HeapWeakCardSaid : Prop := Claim7.holds Tryd.pinned (.plain (OpenSpec.ofChange heapWeakSpec)) heapWeakCard

/-- THE TIED CARD OF 'ossuarylaw10.HeapLengths'. -/
def heapLengthsCard : Claim7 := { stood := { row := heapLengthsRow, standIns := [], harness := (true, "c9beace97a9bf14f309bf946856ef6e8f435994bf8c0644af26e1b37733b39ba"), looks := true }, kinds := [], alts := [], laidByText := true, laidKinds := [.data, .data, .data], laidTests := true, laidLooks := .later }
def HeapLengthsCardSaid : Prop := Claim7.holds Tryd.pinned (.plain (OpenSpec.ofChange heapLengthsSpec)) heapLengthsCard

/-- THE TIED CARD OF 'ossuarylaw10.HeapChains'. -/
def heapChainsCard : Claim7 := { stood := { row := heapChainsRow, standIns := [], harness := (true, "c9beace97a9bf14f309bf946856ef6e8f435994bf8c0644af26e1b37733b39ba"), looks := true }, kinds := [], alts := [], laidByText := true, laidKinds := [.data, .data, .data], laidTests := true, laidLooks := .later }
def HeapChainsCardSaid : Prop := Claim7.holds Tryd.pinned (.plain (OpenSpec.ofChange heapChainsSpec)) heapChainsCard

/-- THE SECOND FORM's CARD OF 'ossuarylaw10.HeapWeak'. -/
def heapWeakUptoCard : Claim7 := { stood := { row := heapWeakUptoRow, standIns := [], harness := (true, "c9beace97a9bf14f309bf946856ef6e8f435994bf8c0644af26e1b37733b39ba"), looks := true }, kinds := [], alts := [], laidByText := true, laidKinds := [.data, .data, .data], laidTests := true, laidLooks := .later }
def HeapWeakUptoCardSaid : Prop := Claim7.holds Tryd.pinned (.plain (OpenSpec.upto heapWeakSpec)) heapWeakUptoCard

/-- THE SECOND FORM's CARD OF 'ossuarylaw10.HeapLengths'. -/
def heapLengthsUptoCard : Claim7 := { stood := { row := heapLengthsUptoRow, standIns := [], harness := (true, "c9beace97a9bf14f309bf946856ef6e8f435994bf8c0644af26e1b37733b39ba"), looks := true }, kinds := [], alts := [], laidByText := true, laidKinds := [.data, .data, .data], laidTests := true, laidLooks := .later }
def HeapLengthsUptoCardSaid : Prop := Claim7.holds Tryd.pinned (.plain (OpenSpec.upto heapLengthsSpec)) heapLengthsUptoCard

/-- THE SECOND FORM's CARD OF 'ossuarylaw10.HeapChains'. -/
def heapChainsUptoCard : Claim7 := { stood := { row := heapChainsUptoRow, standIns := [], harness := (true, "c9beace97a9bf14f309bf946856ef6e8f435994bf8c0644af26e1b37733b39ba"), looks := true }, kinds := [], alts := [], laidByText := true, laidKinds := [.data, .data, .data], laidTests := true, laidLooks := .later }
def HeapChainsUptoCardSaid : Prop := Claim7.holds Tryd.pinned (.plain (OpenSpec.upto heapChainsSpec)) heapChainsUptoCard
end Rows
end Go.Proofs.YtbeapojjbgkalaaDoor
