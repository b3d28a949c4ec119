/-
  DERIVED. GIVEN WITH THE SEED: THE CARDS: each row of YtahkohfppakaiaaGreatDoorRows.lean that lists a variable, with what it lists TIED to the program's text (the seventh form; the later family's looks); each row that meets fmt, with fmt's text TOLD by the authors' own Lean function (tested against real Go, not proved from fmt's source: count such statements apart). THE CARD IS WHAT COUNTS. Prove the row's statement (the work); the ties are given (YtahkohfppakaiaaGreatDoorTie.lean); close each card by the builder's one call (the guide's Derived/Test/ToyasCard.lean, 'card_holds'). Laid BY PROGRAM, IN A SANDBOX (cutbox-door.mjs). By AI agents, Wed Nov 11 2026. No macro, syntax, notation, axiom, sorry.
-/
import Derived.Test.YtahkohfppakaiaaGreatDoorRows
import GoSem.ClaimSeven
namespace Go.Proofs.YtahkohfppakaiaaGreatDoor
namespace Rows

/-- THE TIED CARD OF 'ossuarylaw15.ListRuns'. -/
def listRunsCard : Claim7 := { stood := { row := listRunsRow, standIns := [], harness := (true, "337f0a9f37f6c5a1e5fe534aa6e60318332ba24817973b559617eca8dd68c7aa"), looks := true }, kinds := [], alts := [], laidByText := true, laidKinds := [.data, .data, .data, .data, .listed, .data, .pinned], laidTests := true, laidLooks := .later }
def ListRunsCardSaid : Prop := Claim7.holds Tryz.pinned (.plain (OpenSpec.ofChange listRunsSpec)) listRunsCard

/-- THE TIED CARD OF 'ossuarylaw15.ListSigns'. -/
def listSignsCard : Claim7 := { stood := { row := listSignsRow, standIns := [], harness := (true, "337f0a9f37f6c5a1e5fe534aa6e60318332ba24817973b559617eca8dd68c7aa"), looks := true }, kinds := [], alts := [], laidByText := true, laidKinds := [.data, .data, .data, .listed, .data], laidTests := true, laidLooks := .later }
def ListSignsCardSaid : Prop := Claim7.holds Tryz.pinned (.plain (OpenSpec.ofChange listSignsSpec)) listSignsCard

/-- THE TIED CARD OF 'ossuarylaw15.ListLive'. -/
def listLiveCard : Claim7 := { stood := { row := listLiveRow, standIns := [], harness := (true, "337f0a9f37f6c5a1e5fe534aa6e60318332ba24817973b559617eca8dd68c7aa"), looks := true }, kinds := [], alts := [], laidByText := true, laidKinds := [.data, .data, .data, .listed, .data], laidTests := true, laidLooks := .later }
def ListLiveCardSaid : Prop := Claim7.holds Tryz.pinned (.plain (OpenSpec.ofChange listLiveSpec)) listLiveCard

/-- THE TIED CARD OF 'ossuarylaw15.ListMakes'. -/
def listMakesCard : Claim7 := { stood := { row := listMakesRow, standIns := [], harness := (true, "337f0a9f37f6c5a1e5fe534aa6e60318332ba24817973b559617eca8dd68c7aa"), looks := true }, kinds := [], alts := [], laidByText := true, laidKinds := [.data, .data, .data, .listed, .data], laidTests := true, laidLooks := .later }
def ListMakesCardSaid : Prop := Claim7.holds Tryz.pinned (.plain (OpenSpec.ofChange listMakesSpec)) listMakesCard

/-- THE TIED CARD OF 'ossuarylaw15.ListNative'. -/
def listNativeCard : Claim7 := { stood := { row := listNativeRow, standIns := [], harness := (true, "337f0a9f37f6c5a1e5fe534aa6e60318332ba24817973b559617eca8dd68c7aa"), looks := true }, kinds := [], alts := [], laidByText := true, laidKinds := [.data, .data, .data, .listed, .data], laidTests := true, laidLooks := .later }
def ListNativeCardSaid : Prop := Claim7.holds Tryz.pinned (.plain (OpenSpec.ofChange listNativeSpec)) listNativeCard

/-- THE SECOND FORM's CARD OF 'ossuarylaw15.ListRuns'. -/
def listRunsUptoCard : Claim7 := { stood := { row := listRunsUptoRow, standIns := [], harness := (true, "337f0a9f37f6c5a1e5fe534aa6e60318332ba24817973b559617eca8dd68c7aa"), looks := true }, kinds := [], alts := [], laidByText := true, laidKinds := [.data, .data, .data, .data, .listed, .data, .pinned], laidTests := true, laidLooks := .later }
def ListRunsUptoCardSaid : Prop := Claim7.holds Tryz.pinned (.plain (OpenSpec.upto listRunsSpec)) listRunsUptoCard

/-- THE SECOND FORM's CARD OF 'ossuarylaw15.ListSigns'. -/
def listSignsUptoCard : Claim7 := { stood := { row := listSignsUptoRow, standIns := [], harness := (true, "337f0a9f37f6c5a1e5fe534aa6e60318332ba24817973b559617eca8dd68c7aa"), looks := true }, kinds := [], alts := [], laidByText := true, laidKinds := [.data, .data, .data, .listed, .data], laidTests := true, laidLooks := .later }
def ListSignsUptoCardSaid : Prop := Claim7.holds Tryz.pinned (.plain (OpenSpec.upto listSignsSpec)) listSignsUptoCard

/-- THE SECOND FORM's CARD OF 'ossuarylaw15.ListLive'. -/
def listLiveUptoCard : Claim7 := { stood := { row := listLiveUptoRow, standIns := [], harness := (true, "337f0a9f37f6c5a1e5fe534aa6e60318332ba24817973b559617eca8dd68c7aa"), looks := true }, kinds := [], alts := [], laidByText := true, laidKinds := [.data, .data, .data, .listed, .data], laidTests := true, laidLooks := .later }
def ListLiveUptoCardSaid : Prop := Claim7.holds Tryz.pinned (.plain (OpenSpec.upto listLiveSpec)) listLiveUptoCard

/-- THE SECOND FORM's CARD OF 'ossuarylaw15.ListMakes'. -/
def listMakesUptoCard : Claim7 := { stood := { row := listMakesUptoRow, standIns := [], harness := (true, "337f0a9f37f6c5a1e5fe534aa6e60318332ba24817973b559617eca8dd68c7aa"), looks := true }, kinds := [], alts := [], laidByText := true, laidKinds := [.data, .data, .data, .listed, .data], laidTests := true, laidLooks := .later }
def ListMakesUptoCardSaid : Prop := Claim7.holds Tryz.pinned (.plain (OpenSpec.upto listMakesSpec)) listMakesUptoCard

/-- THE SECOND FORM's CARD OF 'ossuarylaw15.ListNative'. -/
def listNativeUptoCard : Claim7 := { stood := { row := listNativeUptoRow, standIns := [], harness := (true, "337f0a9f37f6c5a1e5fe534aa6e60318332ba24817973b559617eca8dd68c7aa"), looks := true }, kinds := [], alts := [], laidByText := true, laidKinds := [.data, .data, .data, .listed, .data], laidTests := true, laidLooks := .later }
def ListNativeUptoCardSaid : Prop := Claim7.holds Tryz.pinned (.plain (OpenSpec.upto listNativeSpec)) listNativeUptoCard
end Rows
end Go.Proofs.YtahkohfppakaiaaGreatDoor
