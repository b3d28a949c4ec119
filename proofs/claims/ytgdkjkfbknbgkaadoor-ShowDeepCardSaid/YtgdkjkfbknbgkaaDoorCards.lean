/-
  DERIVED. GIVEN WITH THE SEED: THE CARDS: each row of YtgdkjkfbknbgkaaDoorRows.lean that lists a variable, with what it lists TIED to the program's text (the seventh form; the later family's looks); each row that meets fmt, with fmt's text TOLD by the authors' own Lean function (tested against real Go, not proved from fmt's source: count such statements apart). THE CARD IS WHAT COUNTS. Prove the row's statement (the work); the ties are given (YtgdkjkfbknbgkaaDoorTie.lean); close each card by the builder's one call (the guide's Derived/Test/ToyasCard.lean, 'card_holds'). Laid BY PROGRAM, IN A SANDBOX (cutbox-door.mjs). By AI agents, Wed Nov 11 2026. No macro, syntax, notation, axiom, sorry.
-/
import Derived.Test.YtgdkjkfbknbgkaaDoorRows
import GoSem.ClaimSeven
namespace Go.Proofs.YtgdkjkfbknbgkaaDoor
namespace Rows

/-- THE TIED CARD OF 'ossuarylaw14.ShowDeep'. -/
def showDeepCard : Claim7 := { stood := { row := showDeepRow, standIns := [], harness := (true, "7a80f1f013bbbc1c42bba0bde30e5d656323d14a5ede792234aa3ab27aa26304"), looks := true }, kinds := [], alts := [], laidByText := true, laidKinds := [.data, .data, .data], laidTests := true, laidLooks := .later }
def ShowDeepCardSaid : Prop := Claim7.holds Tryd.pinned (.plain (OpenSpec.ofChange showDeepSpec)) showDeepCard

/-- THE SECOND FORM's CARD OF 'ossuarylaw14.ShowDeep'. -/
def showDeepUptoCard : Claim7 := { stood := { row := showDeepUptoRow, standIns := [], harness := (true, "7a80f1f013bbbc1c42bba0bde30e5d656323d14a5ede792234aa3ab27aa26304"), looks := true }, kinds := [], alts := [], laidByText := true, laidKinds := [.data, .data, .data], laidTests := true, laidLooks := .later }
def ShowDeepUptoCardSaid : Prop := Claim7.holds Tryd.pinned (.plain (OpenSpec.upto showDeepSpec)) showDeepUptoCard
end Rows
end Go.Proofs.YtgdkjkfbknbgkaaDoor
