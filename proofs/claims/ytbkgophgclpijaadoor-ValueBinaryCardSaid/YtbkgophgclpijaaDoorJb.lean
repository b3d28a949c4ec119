/- The tables of the laws over package value's texts: five, one of them pinned. -/
import Derived.Test.YtbkgophgclpijaaDoorJa
import Derived.Test.YtbkgophgclpijaaDoorMr
import Derived.PinnedBridge
import Derived.Lib.LaidU8
namespace Go.Proofs.YtbkgophgclpijaaDoor
open Go.ChangeShapes Go.WideShapes Go.ChangeAt Go.WideMaps Go.WideElems Go.RowKit

/-- The tables that the rows list, with what they hold. -/
abbrev tabs5 : List (String × DataW Unit) := [("math/bits.deBruijn32tab", Rows.laid_math_bits_deBruijn32tab), ("math/bits.deBruijn64tab", Rows.laid_math_bits_deBruijn64tab), ("internal/strconv.uint64pow10", Rows.laid_internal_strconv_uint64pow10), ("unicode/utf8.acceptRanges", Rows.laid_unicode_utf8_acceptRanges), ("unicode/utf8.first", Rows.laid_unicode_utf8_first)]
/-- The program's own start, with the pinned table in its block. -/
noncomputable def pinLaid (os : Os) : World :=
  { World.doorLaid Tryd.prog 4000 os with heap := (World.doorLaid Tryd.prog 4000 os).heap.modify 2 (fun o => match o with | .cells _ t f => .cells ((List.range 256).map fun c => Value.int .u8 (Lib.firstT c)).toArray t f | o => o) }
theorem door_met5 (os : Os) (args : Array Value) : laidMetH Tryd.prog tabs5 ((pinLaid os).forCall (fun _ _ => 0) ⟨#[], args, []⟩).memory :=
  laidMetH_of_parts3 (fuel := 8) (laidMet_of_run' 8 (by kernel_rfl) (by kernel_rfl)) (by kernel_rfl) (by kernel_rfl)
theorem pow_named : Tryd.prog.globalNamed "internal/strconv.uint64pow10" = some 5 := by kernel_rfl
theorem pow_type : (Tryd.prog.globals[5]?).map (·.type) = some 127 := by kernel_rfl
theorem pow_data : (Rows.laid_internal_strconv_uint64pow10 : DataW Unit) = Lib.tabData .u64 Lib.pow10Tab := by kernel_rfl
theorem pow_of {W : World} {r : List (String × DataW Unit)} (h3 : laidMet Tryd.prog (("internal/strconv.uint64pow10", Rows.laid_internal_strconv_uint64pow10) :: r) W) : M.Tb W := by
  rw [pow_data] at h3
  exact Lib.tabBelow_of_tabIs (Lib.tabIs_of_head pow_named pow_type Tryd.underlying127 Tryd.underlying112 (by kernel_rfl) (by kernel_rfl) h3)
theorem pow_of5 {W : World} (h : laidMetH Tryd.prog tabs5 W) : M.Tb W := by
  rw [MakeChecks.laidMetH_plain _ _ _ (by kernel_rfl)] at h
  exact pow_of (laidMet.tail (laidMet.tail h))
theorem pow_of3 {W : World} (h : laidMetH Tryd.prog tabs3 W) : M.Tb W := by
  rw [MakeChecks.laidMetH_plain _ _ _ (by kernel_rfl)] at h
  exact pow_of (laidMet.tail (laidMet.tail h))
end Go.Proofs.YtbkgophgclpijaaDoor
