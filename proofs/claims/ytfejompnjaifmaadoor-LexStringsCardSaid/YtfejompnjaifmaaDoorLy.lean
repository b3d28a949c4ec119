/- Stage 6's rows: what the row hands over (the sentinel, the integer of the library's own, the world's shape) is what the contracts ask. -/
import Derived.Test.YtfejompnjaifmaaDoorLf
import Derived.Test.YtfejompnjaifmaaDoorLg
import Derived.Test.YtfejompnjaifmaaDoorQy
import Derived.Stop.LaidErr
import Derived.Shelf.Vars
import Derived.MakeChecks
import Derived.Deep.DeepWitnessRowRef
namespace Go.Proofs.YtfejompnjaifmaaDoor
open Go Go.ChangeShapes Go.WideShapes Go.ChangeAt Go.WideMaps Go.WideElems Go.RowKit Go.Deep

theorem starErr : "*" ++ "errors.errorString" = "*errors.errorString" := by decide
theorem errName : ∀ u, Tryd.prog.typeName? 3 u = some "*errors.errorString" → u = 85 := by
  intro u h
  exact typeName_ptr_named (nm := "errors.errorString") (by rw [starErr]; kernel_rfl) (by kernel_rfl) (by decide) u (by rw [starErr]; exact h)
theorem gl_of {W : World} (hL : laidMetH Tryd.prog [("math/bits.deBruijn32tab", Rows.laid_math_bits_deBruijn32tab), ("math/bits.deBruijn64tab", Rows.laid_math_bits_deBruijn64tab), ("internal/strconv.uint64pow10", Rows.laid_internal_strconv_uint64pow10), ("strconv.ErrRange", Rows.laid_strconv_ErrRange), ("strconv.ErrSyntax", Rows.laid_strconv_ErrSyntax)] W) (hsh : W.ShapedOpen Tryd.prog) : Gl W := by
  rw [MakeChecks.laidMetH_plain _ _ _ (by kernel_rfl)] at hL
  refine ⟨?_, ?_, ?_⟩
  · exact cell_of_shapedOpen_int (g := 0) (t := 3) (zero := #[.int .i64 0]) hsh (of_decide_eq_true (by kernel_rfl)) (by kernel_rfl) rfl (by kernel_rfl) (by kernel_rfl) Tryd.underlying3
  · have h3 := laidMet.tail (laidMet.tail (laidMet.tail hL))
    obtain ⟨a, s, hv, _, _, _⟩ := laid_sentinel (g := 2) h3 (by kernel_rfl) (by kernel_rfl) Tryd.underlying52 errName Tryd.underlying85 Tryd.underlying87 rfl rfl Tryd.underlying9 (by kernel_rfl) (by kernel_rfl)
    have hc := World.var?_cell (g := 2) (by kernel_rfl) hv 0
    exact ⟨_, hc, .inr ⟨_, _, rfl⟩⟩
  · obtain ⟨cs, hh, _⟩ := hsh.1 5 (Array.replicate 64 (.int .u8 0)) 101 (of_decide_eq_true (by kernel_rfl)) (by kernel_rfl)
    exact lt_of_block hh
end Go.Proofs.YtfejompnjaifmaaDoor
