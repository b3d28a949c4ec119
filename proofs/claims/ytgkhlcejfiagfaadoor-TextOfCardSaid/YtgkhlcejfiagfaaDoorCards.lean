/-
  DERIVED. GIVEN WITH THE SEED: THE CARDS: each row of YtgkhlcejfiagfaaDoorRows.lean that lists a variable, with what it lists TIED to the program's text (the seventh form; the later family's looks); each row that meets fmt, with fmt's text TOLD by the authors' own Lean function (tested against real Go, not proved from fmt's source: count such statements apart). THE CARD IS WHAT COUNTS. Prove the row's statement (the work); the ties are given (YtgkhlcejfiagfaaDoorTie.lean); close each card by the builder's one call (the guide's Derived/Test/ToyasCard.lean, 'card_holds'). Laid BY PROGRAM, IN A SANDBOX (cutbox-door.mjs). By AI agents, Wed Nov 11 2026. No macro, syntax, notation, axiom, sorry.
-/
import Derived.Test.YtgkhlcejfiagfaaDoorRows
import GoSem.ClaimSeven
namespace Go.Proofs.YtgkhlcejfiagfaaDoor
namespace Rows

/-- THE TIED CARD OF 'ossuarylaw02.TextOf'. -/
def textOfCard : Claim7 := { stood := { row := textOfRow, standIns := [], harness := (true, "b39508b3ea103c4138fbf2bbdf114b964b9fe31f891067d52573a80d13c6f71d"), looks := false }, kinds := [], alts := [], laidByText := true, laidKinds := [.data, .pinned], laidTests := true, laidLooks := .later }
def TextOfCardSaid : Prop := Claim7.holds Tryd.pinned (.plain (OpenSpec.ofChange textOfSpec)) textOfCard

/-- THE SECOND FORM's CARD OF 'ossuarylaw02.TextOf'. -/
def textOfUptoCard : Claim7 := { stood := { row := textOfUptoRow, standIns := [], harness := (true, "b39508b3ea103c4138fbf2bbdf114b964b9fe31f891067d52573a80d13c6f71d"), looks := false }, kinds := [], alts := [], laidByText := true, laidKinds := [.data, .pinned], laidTests := true, laidLooks := .later }
def TextOfUptoCardSaid : Prop := Claim7.holds Tryd.pinned (.plain (OpenSpec.upto textOfSpec)) textOfUptoCard
end Rows
end Go.Proofs.YtgkhlcejfiagfaaDoor
