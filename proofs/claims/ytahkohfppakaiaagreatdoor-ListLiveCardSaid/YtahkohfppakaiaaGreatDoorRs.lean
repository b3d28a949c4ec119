/- The closed facts of the row of ListLive, one by one. -/
import Derived.Test.YtahkohfppakaiaaGreatDoorRq
import Derived.SevenTiedAt
import Derived.ChangeMaps5
namespace Go.Proofs.YtahkohfppakaiaaGreatDoor
open Go.ChangeMaps Go.ChangeShapes Go.WideShapes Go.ChangeAt Go.WideMaps Go.WideElems Go.RowKit
theorem and2 {a b : Bool} (h : a = true) (h2 : b = true) : (a && b) = true := by rw [h, h2]; rfl
set_option maxRecDepth 100000
theorem listLive_c0 : (Rows.listLiveRow.wf (OpenSpec.ofChange Rows.listLiveSpec)) = true := by kernel_rfl
theorem cf_rowed : mapsRowed Tryz.prog = true := by kernel_rfl
theorem listLive_c3 : (Tryz.f5.params.all (Tryz.prog.readableRec ·)) = true := by kernel_rfl
theorem listLive_c4 : (namedTie Tryz.prog Rows.listLiveRow.named Rows.listLiveSpec.vars) = true := by kernel_rfl
theorem listLive_c5 : ((Rows.listLiveRow.stops == [])) = true := by kernel_rfl
theorem cf_stops : (Tryz.prog.stops == []) = true := by kernel_rfl
theorem listLive_c7 : ((Rows.listLiveRow.knobs == [])) = true := by kernel_rfl
theorem cf_knobs : (Tryz.prog.stopKnobs == []) = true := by kernel_rfl
theorem listLive_c9 : ((Rows.listLiveRow.inPlace == Tryz.prog.inPlace 5)) = true := by kernel_rfl
theorem listLive_c10 : ((Rows.listLiveRow.unfollowed == Tryz.prog.unfollowed 5)) = true := by kernel_rfl
theorem listLive_c11 : ((Rows.listLiveRow.recurses == Tryz.prog.recurses 5)) = true := by kernel_rfl
theorem listLive_c12 : ((Rows.listLiveRow.named == Tryz.prog.varsNamed 5)) = true := by kernel_rfl
theorem listLive_c13 : ((Rows.listLiveRow.maps == (Tryz.f5.params.toList ++ Rows.listLiveSpec.plain.varTypes Tryz.prog).any (Tryz.prog.mapsRec ·))) = true := by kernel_rfl
theorem listLive_c14 : ((Rows.listLiveRow.ifaces == (Tryz.f5.params.toList ++ Rows.listLiveSpec.plain.varTypes Tryz.prog).any (Tryz.prog.ifacesRec ·))) = true := by kernel_rfl
theorem listLive_c15 : ((Rows.listLiveRow.mapsOut == Tryz.prog.mapsAmong Tryz.f5.resultTypes.toList)) = true := by kernel_rfl
theorem listLive_c16 : ((Rows.listLiveRow.loops == (Tryz.f5.params.toList ++ Rows.listLiveSpec.plain.varTypes Tryz.prog).any (Tryz.prog.loopsFrom ·))) = true := by kernel_rfl
theorem listLive_c17 : ((Rows.listLiveRow.wideKeys == (Tryz.f5.params.toList ++ Rows.listLiveSpec.plain.varTypes Tryz.prog ++ Tryz.f5.resultTypes.toList).any (Tryz.prog.wideKeysFrom ·))) = true := by kernel_rfl
theorem listLive_c18 : (Rows.listLiveSpec.vars.all (Tryz.prog.varReadable ·)) = true := by kernel_rfl
theorem listLive_c19 : (Tryz.f5.resultTypes.all (fun t => Tryz.prog.readableRec t && decide (t < Tryz.prog.types.size))) = true := by kernel_rfl
theorem listLive_c20 : ((Rows.listLiveRow.ifacesOut == Tryz.f5.resultTypes.toList.any (Tryz.prog.ifacesRec ·))) = true := by kernel_rfl
theorem listLive_c21 : ((Rows.listLiveRow.loopsOut == Tryz.f5.resultTypes.toList.any (Tryz.prog.loopsFrom ·))) = true := by kernel_rfl
theorem listLive_c22 : ((Rows.listLiveRow.plainKeys == Tryz.prog.plainKeys)) = true := by kernel_rfl
theorem listLive_c23 : (Rows.listLiveRow.shortTexts.isNone) = true := by kernel_rfl
theorem cf_heard : Tryz.prog.stopsHeard = true := by kernel_rfl
theorem cf_enter : Tryz.prog.mayEnter = true := by kernel_rfl
theorem listLive_c26 : ((Rows.listLiveRow.lifted == Tryz.prog.liftsFinal)) = true := by kernel_rfl
theorem listLive_c27 : ((Tryz.prog.make == some Rows.listLiveRow.make)) = true := by kernel_rfl
theorem listLive_c28 : ((Rows.listLiveRow.kinds == (if Rows.listLiveRow.domain.isEmpty then [] else Tryz.f5.params.toList.map fun t => match Tryz.prog.underlying t with | some (.int k) => some k | _ => none))) = true := by kernel_rfl
theorem listLive_c29 : ((Rows.listLiveRow.pinned == Rows.listLiveRow.pinnedBy)) = true := by kernel_rfl
theorem listLive_c30 : ((Rows.listLiveRow.veiled == (Tryz.f5.params.toList ++ Rows.listLiveSpec.plain.varTypes Tryz.prog ++ Tryz.f5.resultTypes.toList).any (Tryz.prog.veiledRec ·))) = true := by kernel_rfl
theorem listLive_c31 : (Rows.listLiveRow.veiledFits Tryz.prog Tryz.f5.params.toList (Tryz.f5.params.toList ++ Rows.listLiveSpec.plain.varTypes Tryz.prog ++ Tryz.f5.resultTypes.toList)) = true := by kernel_rfl
theorem listLive_facts : joinedFacts Tryz.prog 5 Tryz.f5 Rows.listLiveSpec Rows.listLiveRow = true := and2 (and2 (and2 (and2 (and2 (and2 (and2 (and2 (and2 (and2 (and2 (and2 (and2 (and2 (and2 (and2 (and2 (and2 (and2 (and2 (and2 (and2 (and2 (and2 (and2 (and2 (and2 (and2 (and2 (and2 (and2 (listLive_c0) laidOutAll) cf_rowed) listLive_c3) listLive_c4) listLive_c5) cf_stops) listLive_c7) cf_knobs) listLive_c9) listLive_c10) listLive_c11) listLive_c12) listLive_c13) listLive_c14) listLive_c15) listLive_c16) listLive_c17) listLive_c18) listLive_c19) listLive_c20) listLive_c21) listLive_c22) listLive_c23) cf_heard) cf_enter) listLive_c26) listLive_c27) listLive_c28) listLive_c29) listLive_c30) listLive_c31
theorem listLive_text : Rows.listLiveRow.wfByText (OpenSpec.ofChange Rows.listLiveSpec) = true := by kernel_rfl
theorem listLive_goes : false = Rows.listLiveRow.goesBy Tryz.prog := by kernel_rfl
theorem listLive_named : Tryz.prog.funcNamed "ossuary/ossuarylaw15.ListLive" = some 5 := by kernel_rfl
theorem listLive_stand : (Tryz.f5.params.toList.all fun u => !Tryz.prog.wantsStandIn u) = true := by kernel_rfl
theorem listLive_origin : Tryz.f5.isInstance Tryz.prog Rows.listLiveRow.origin Rows.listLiveRow.targs := of_decide_eq_true (by kernel_rfl)
theorem listLive_wrap : Tryz.f5.isWrapper Tryz.prog Rows.listLiveRow.wrapper Rows.listLiveRow.mainSum := by unfold Func.isWrapper; first | (rw [if_pos (by decide +kernel)]; kernel_rfl) | (rw [if_neg (by decide +kernel)]; exact ⟨rfl, rfl⟩)
theorem cf_looks : true = Tryz.prog.looks [] := by kernel_rfl
theorem cf_main : Tryz.prog.mainIs = some (true, "337f0a9f37f6c5a1e5fe534aa6e60318332ba24817973b559617eca8dd68c7aa".toList) := by kernel_rfl
end Go.Proofs.YtahkohfppakaiaaGreatDoor
