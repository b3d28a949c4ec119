/- The closed facts of the row of ListNative, one by one. -/
import Derived.Test.YtahkohfppakaiaaGreatDoorBq
import Derived.SevenTiedAt
import Derived.ChangeMaps5
namespace Go.Proofs.YtahkohfppakaiaaGreatDoor
open Go.ChangeMaps Go.ChangeShapes Go.WideShapes Go.ChangeAt Go.WideMaps Go.WideElems Go.RowKit
theorem and2 {a b : Bool} (h : a = true) (h2 : b = true) : (a && b) = true := by rw [h, h2]; rfl
set_option maxRecDepth 100000
theorem listNative_c0 : (Rows.listNativeRow.wf (OpenSpec.ofChange Rows.listNativeSpec)) = true := by kernel_rfl
theorem cf_rowed : mapsRowed Tryz.prog = true := by kernel_rfl
theorem listNative_c3 : (Tryz.f7.params.all (Tryz.prog.readableRec ·)) = true := by kernel_rfl
theorem listNative_c4 : (namedTie Tryz.prog Rows.listNativeRow.named Rows.listNativeSpec.vars) = true := by kernel_rfl
theorem listNative_c5 : ((Rows.listNativeRow.stops == [])) = true := by kernel_rfl
theorem cf_stops : (Tryz.prog.stops == []) = true := by kernel_rfl
theorem listNative_c7 : ((Rows.listNativeRow.knobs == [])) = true := by kernel_rfl
theorem cf_knobs : (Tryz.prog.stopKnobs == []) = true := by kernel_rfl
theorem listNative_c9 : ((Rows.listNativeRow.inPlace == Tryz.prog.inPlace 7)) = true := by kernel_rfl
theorem listNative_c10 : ((Rows.listNativeRow.unfollowed == Tryz.prog.unfollowed 7)) = true := by kernel_rfl
theorem listNative_c11 : ((Rows.listNativeRow.recurses == Tryz.prog.recurses 7)) = true := by kernel_rfl
theorem listNative_c12 : ((Rows.listNativeRow.named == Tryz.prog.varsNamed 7)) = true := by kernel_rfl
theorem listNative_c13 : ((Rows.listNativeRow.maps == (Tryz.f7.params.toList ++ Rows.listNativeSpec.plain.varTypes Tryz.prog).any (Tryz.prog.mapsRec ·))) = true := by kernel_rfl
theorem listNative_c14 : ((Rows.listNativeRow.ifaces == (Tryz.f7.params.toList ++ Rows.listNativeSpec.plain.varTypes Tryz.prog).any (Tryz.prog.ifacesRec ·))) = true := by kernel_rfl
theorem listNative_c15 : ((Rows.listNativeRow.mapsOut == Tryz.prog.mapsAmong Tryz.f7.resultTypes.toList)) = true := by kernel_rfl
theorem listNative_c16 : ((Rows.listNativeRow.loops == (Tryz.f7.params.toList ++ Rows.listNativeSpec.plain.varTypes Tryz.prog).any (Tryz.prog.loopsFrom ·))) = true := by kernel_rfl
theorem listNative_c17 : ((Rows.listNativeRow.wideKeys == (Tryz.f7.params.toList ++ Rows.listNativeSpec.plain.varTypes Tryz.prog ++ Tryz.f7.resultTypes.toList).any (Tryz.prog.wideKeysFrom ·))) = true := by kernel_rfl
theorem listNative_c18 : (Rows.listNativeSpec.vars.all (Tryz.prog.varReadable ·)) = true := by kernel_rfl
theorem listNative_c19 : (Tryz.f7.resultTypes.all (fun t => Tryz.prog.readableRec t && decide (t < Tryz.prog.types.size))) = true := by kernel_rfl
theorem listNative_c20 : ((Rows.listNativeRow.ifacesOut == Tryz.f7.resultTypes.toList.any (Tryz.prog.ifacesRec ·))) = true := by kernel_rfl
theorem listNative_c21 : ((Rows.listNativeRow.loopsOut == Tryz.f7.resultTypes.toList.any (Tryz.prog.loopsFrom ·))) = true := by kernel_rfl
theorem listNative_c22 : ((Rows.listNativeRow.plainKeys == Tryz.prog.plainKeys)) = true := by kernel_rfl
theorem listNative_c23 : (Rows.listNativeRow.shortTexts.isNone) = true := by kernel_rfl
theorem cf_heard : Tryz.prog.stopsHeard = true := by kernel_rfl
theorem cf_enter : Tryz.prog.mayEnter = true := by kernel_rfl
theorem listNative_c26 : ((Rows.listNativeRow.lifted == Tryz.prog.liftsFinal)) = true := by kernel_rfl
theorem listNative_c27 : ((Tryz.prog.make == some Rows.listNativeRow.make)) = true := by kernel_rfl
theorem listNative_c28 : ((Rows.listNativeRow.kinds == (if Rows.listNativeRow.domain.isEmpty then [] else Tryz.f7.params.toList.map fun t => match Tryz.prog.underlying t with | some (.int k) => some k | _ => none))) = true := by kernel_rfl
theorem listNative_c29 : ((Rows.listNativeRow.pinned == Rows.listNativeRow.pinnedBy)) = true := by kernel_rfl
theorem listNative_c30 : ((Rows.listNativeRow.veiled == (Tryz.f7.params.toList ++ Rows.listNativeSpec.plain.varTypes Tryz.prog ++ Tryz.f7.resultTypes.toList).any (Tryz.prog.veiledRec ·))) = true := by kernel_rfl
theorem listNative_c31 : (Rows.listNativeRow.veiledFits Tryz.prog Tryz.f7.params.toList (Tryz.f7.params.toList ++ Rows.listNativeSpec.plain.varTypes Tryz.prog ++ Tryz.f7.resultTypes.toList)) = true := by kernel_rfl
theorem listNative_facts : joinedFacts Tryz.prog 7 Tryz.f7 Rows.listNativeSpec Rows.listNativeRow = true := and2 (and2 (and2 (and2 (and2 (and2 (and2 (and2 (and2 (and2 (and2 (and2 (and2 (and2 (and2 (and2 (and2 (and2 (and2 (and2 (and2 (and2 (and2 (and2 (and2 (and2 (and2 (and2 (and2 (and2 (and2 (listNative_c0) laidOutAll) cf_rowed) listNative_c3) listNative_c4) listNative_c5) cf_stops) listNative_c7) cf_knobs) listNative_c9) listNative_c10) listNative_c11) listNative_c12) listNative_c13) listNative_c14) listNative_c15) listNative_c16) listNative_c17) listNative_c18) listNative_c19) listNative_c20) listNative_c21) listNative_c22) listNative_c23) cf_heard) cf_enter) listNative_c26) listNative_c27) listNative_c28) listNative_c29) listNative_c30) listNative_c31
theorem listNative_text : Rows.listNativeRow.wfByText (OpenSpec.ofChange Rows.listNativeSpec) = true := by kernel_rfl
theorem listNative_goes : false = Rows.listNativeRow.goesBy Tryz.prog := by kernel_rfl
theorem listNative_named : Tryz.prog.funcNamed "ossuary/ossuarylaw15.ListNative" = some 7 := by kernel_rfl
theorem listNative_stand : (Tryz.f7.params.toList.all fun u => !Tryz.prog.wantsStandIn u) = true := by kernel_rfl
theorem listNative_origin : Tryz.f7.isInstance Tryz.prog Rows.listNativeRow.origin Rows.listNativeRow.targs := of_decide_eq_true (by kernel_rfl)
theorem listNative_wrap : Tryz.f7.isWrapper Tryz.prog Rows.listNativeRow.wrapper Rows.listNativeRow.mainSum := by unfold Func.isWrapper; first | (rw [if_pos (by decide +kernel)]; kernel_rfl) | (rw [if_neg (by decide +kernel)]; exact ⟨rfl, rfl⟩)
theorem cf_looks : true = Tryz.prog.looks [] := by kernel_rfl
theorem cf_main : Tryz.prog.mainIs = some (true, "337f0a9f37f6c5a1e5fe534aa6e60318332ba24817973b559617eca8dd68c7aa".toList) := by kernel_rfl
end Go.Proofs.YtahkohfppakaiaaGreatDoor
