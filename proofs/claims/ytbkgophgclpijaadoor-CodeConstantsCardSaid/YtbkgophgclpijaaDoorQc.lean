/- The listed tables of the laws over package code, as the program's start lays them, and the table of the blanks. -/
import Derived.Test.YtbkgophgclpijaaDoorVa
import Derived.Test.YtbkgophgclpijaaDoorQy
import Derived.Stop.LaidErr
namespace Go.Proofs.YtbkgophgclpijaaDoor
open Go.ChangeShapes Go.WideShapes Go.ChangeAt Go.WideMaps Go.WideElems Go.RowKit

/-- The tables that the rows list, with what they hold. -/
abbrev tabs2 {H : Type} : List (String × DataW H) := [("unicode.White_Space", Rows.laid_unicode_White_Space), ("strings.asciiSpace", Rows.laid_strings_asciiSpace)]
theorem door_met2 (os : Os) (args : Array Value) : laidMetH Tryd.prog tabs2 ((World.doorLaid Tryd.prog 4000 os).forCall (fun _ _ => 0) ⟨#[], args, []⟩).memory :=
  laidMetH_of_parts3 (fuel := 8) (laidMet_of_run' 8 (by kernel_rfl) (by kernel_rfl)) (by kernel_rfl) (by kernel_rfl)
theorem tab_named : Tryd.prog.globalNamed "strings.asciiSpace" = some 0 := by kernel_rfl
theorem tab_type : (Tryd.prog.globals[0]?).map (·.type) = some 106 := by kernel_rfl
theorem tab_data : (Rows.laid_strings_asciiSpace : DataW Unit) = Lib.tabData .u8 Lib.asciiSpaceTab := by kernel_rfl
theorem tb_of_head {W : World} (h3 : laidMet Tryd.prog [("strings.asciiSpace", Rows.laid_strings_asciiSpace)] W) : Tb W := by
  rw [tab_data] at h3
  exact Lib.tabBelow_of_tabIs (Lib.tabIs_of_head tab_named tab_type Tryd.underlying106 Tryd.underlying5 (by kernel_rfl) (by kernel_rfl) h3)
theorem tb_of2 {W : World} (h : laidMetH Tryd.prog tabs2 W) : Tb W := by
  rw [MakeChecks.laidMetH_plain _ _ _ (by kernel_rfl)] at h
  exact tb_of_head (laidMet.tail h)
end Go.Proofs.YtbkgophgclpijaaDoor
