/- The closed facts of the row of ListSigns, one by one. -/
import Derived.Test.YtahkohfppakaiaaGreatDoorPq
import Derived.SevenTiedAt
import Derived.ChangeMaps5
namespace Go.Proofs.YtahkohfppakaiaaGreatDoor
open Go.ChangeMaps Go.ChangeShapes Go.WideShapes Go.ChangeAt Go.WideMaps Go.WideElems Go.RowKit

theorem and2 {a b : Bool} (h : a = true) (h2 : b = true) : (a && b) = true := by rw [h, h2]; rfl
set_option maxRecDepth 100000
theorem listSigns_c0 : (Rows.listSignsRow.wf (OpenSpec.ofChange Rows.listSignsSpec)) = true := by kernel_rfl
theorem cf_rowed : mapsRowed Tryz.prog = true := by kernel_rfl
theorem listSigns_c3 : (Tryz.f4.params.all (Tryz.prog.readableRec ·)) = true := by kernel_rfl
theorem listSigns_c4 : (namedTie Tryz.prog Rows.listSignsRow.named Rows.listSignsSpec.vars) = true := by kernel_rfl
theorem listSigns_c5 : ((Rows.listSignsRow.stops == [])) = true := by kernel_rfl
theorem cf_stops : (Tryz.prog.stops == []) = true := by kernel_rfl
theorem listSigns_c7 : ((Rows.listSignsRow.knobs == [])) = true := by kernel_rfl
theorem cf_knobs : (Tryz.prog.stopKnobs == []) = true := by kernel_rfl
theorem listSigns_c9 : ((Rows.listSignsRow.inPlace == Tryz.prog.inPlace 4)) = true := by kernel_rfl
theorem listSigns_c10 : ((Rows.listSignsRow.unfollowed == Tryz.prog.unfollowed 4)) = true := by kernel_rfl
theorem listSigns_c11 : ((Rows.listSignsRow.recurses == Tryz.prog.recurses 4)) = true := by kernel_rfl
theorem listSigns_c12 : ((Rows.listSignsRow.named == Tryz.prog.varsNamed 4)) = true := by kernel_rfl
theorem listSigns_c13 : ((Rows.listSignsRow.maps == (Tryz.f4.params.toList ++ Rows.listSignsSpec.plain.varTypes Tryz.prog).any (Tryz.prog.mapsRec ·))) = true := by kernel_rfl
theorem listSigns_c14 : ((Rows.listSignsRow.ifaces == (Tryz.f4.params.toList ++ Rows.listSignsSpec.plain.varTypes Tryz.prog).any (Tryz.prog.ifacesRec ·))) = true := by kernel_rfl
theorem listSigns_c15 : ((Rows.listSignsRow.mapsOut == Tryz.prog.mapsAmong Tryz.f4.resultTypes.toList)) = true := by kernel_rfl
theorem listSigns_c16 : ((Rows.listSignsRow.loops == (Tryz.f4.params.toList ++ Rows.listSignsSpec.plain.varTypes Tryz.prog).any (Tryz.prog.loopsFrom ·))) = true := by kernel_rfl
theorem listSigns_c17 : ((Rows.listSignsRow.wideKeys == (Tryz.f4.params.toList ++ Rows.listSignsSpec.plain.varTypes Tryz.prog ++ Tryz.f4.resultTypes.toList).any (Tryz.prog.wideKeysFrom ·))) = true := by kernel_rfl
theorem listSigns_c18 : (Rows.listSignsSpec.vars.all (Tryz.prog.varReadable ·)) = true := by kernel_rfl
theorem listSigns_c19 : (Tryz.f4.resultTypes.all (fun t => Tryz.prog.readableRec t && decide (t < Tryz.prog.types.size))) = true := by kernel_rfl
theorem listSigns_c20 : ((Rows.listSignsRow.ifacesOut == Tryz.f4.resultTypes.toList.any (Tryz.prog.ifacesRec ·))) = true := by kernel_rfl
theorem listSigns_c21 : ((Rows.listSignsRow.loopsOut == Tryz.f4.resultTypes.toList.any (Tryz.prog.loopsFrom ·))) = true := by kernel_rfl
theorem listSigns_c22 : ((Rows.listSignsRow.plainKeys == Tryz.prog.plainKeys)) = true := by kernel_rfl
theorem listSigns_c23 : (Rows.listSignsRow.shortTexts.isNone) = true := by kernel_rfl
theorem cf_heard : Tryz.prog.stopsHeard = true := by kernel_rfl
theorem cf_enter : Tryz.prog.mayEnter = true := by kernel_rfl
theorem listSigns_c26 : ((Rows.listSignsRow.lifted == Tryz.prog.liftsFinal)) = true := by kernel_rfl
theorem listSigns_c27 : ((Tryz.prog.make == some Rows.listSignsRow.make)) = true := by kernel_rfl
theorem listSigns_c28 : ((Rows.listSignsRow.kinds == (if Rows.listSignsRow.domain.isEmpty then [] else Tryz.f4.params.toList.map fun t => match Tryz.prog.underlying t with | some (.int k) => some k | _ => none))) = true := by kernel_rfl
theorem listSigns_c29 : ((Rows.listSignsRow.pinned == Rows.listSignsRow.pinnedBy)) = true := by kernel_rfl
theorem listSigns_c30 : ((Rows.listSignsRow.veiled == (Tryz.f4.params.toList ++ Rows.listSignsSpec.plain.varTypes Tryz.prog ++ Tryz.f4.resultTypes.toList).any (Tryz.prog.veiledRec ·))) = true := by kernel_rfl
theorem listSigns_c31 : (Rows.listSignsRow.veiledFits Tryz.prog Tryz.f4.params.toList (Tryz.f4.params.toList ++ Rows.listSignsSpec.plain.varTypes Tryz.prog ++ Tryz.f4.resultTypes.toList)) = true := by kernel_rfl
theorem listSigns_facts : joinedFacts Tryz.prog 4 Tryz.f4 Rows.listSignsSpec Rows.listSignsRow = true := and2 (and2 (and2 (and2 (and2 (and2 (and2 (and2 (and2 (and2 (and2 (and2 (and2 (and2 (and2 (and2 (and2 (and2 (and2 (and2 (and2 (and2 (and2 (and2 (and2 (and2 (and2 (and2 (and2 (and2 (and2 (listSigns_c0) laidOutAll) cf_rowed) listSigns_c3) listSigns_c4) listSigns_c5) cf_stops) listSigns_c7) cf_knobs) listSigns_c9) listSigns_c10) listSigns_c11) listSigns_c12) listSigns_c13) listSigns_c14) listSigns_c15) listSigns_c16) listSigns_c17) listSigns_c18) listSigns_c19) listSigns_c20) listSigns_c21) listSigns_c22) listSigns_c23) cf_heard) cf_enter) listSigns_c26) listSigns_c27) listSigns_c28) listSigns_c29) listSigns_c30) listSigns_c31
theorem listSigns_text : Rows.listSignsRow.wfByText (OpenSpec.ofChange Rows.listSignsSpec) = true := by kernel_rfl
theorem listSigns_goes : false = Rows.listSignsRow.goesBy Tryz.prog := by kernel_rfl
theorem listSigns_named : Tryz.prog.funcNamed "ossuary/ossuarylaw15.ListSigns" = some 4 := by kernel_rfl
theorem listSigns_stand : (Tryz.f4.params.toList.all fun u => !Tryz.prog.wantsStandIn u) = true := by kernel_rfl
theorem listSigns_origin : Tryz.f4.isInstance Tryz.prog Rows.listSignsRow.origin Rows.listSignsRow.targs := of_decide_eq_true (by kernel_rfl)
theorem listSigns_wrap : Tryz.f4.isWrapper Tryz.prog Rows.listSignsRow.wrapper Rows.listSignsRow.mainSum := by unfold Func.isWrapper; first | (rw [if_pos (by decide +kernel)]; kernel_rfl) | (rw [if_neg (by decide +kernel)]; exact ⟨rfl, rfl⟩)
theorem cf_looks : true = Tryz.prog.looks [] := by kernel_rfl
theorem cf_main : Tryz.prog.mainIs = some (true, "337f0a9f37f6c5a1e5fe534aa6e60318332ba24817973b559617eca8dd68c7aa".toList) := by kernel_rfl
end Go.Proofs.YtahkohfppakaiaaGreatDoor
