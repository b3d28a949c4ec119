/- Numbers that a row hands over read as such. -/
import Derived.Test.YthlhchaapdhbfaaTy
import Derived.Test.YthlhchaapdhbfaaGb
import Derived.Carry
import Derived.ChangeSlices
import Derived.Lib.SmallJoins
namespace Go.Proofs.Ythlhchaapdhbfaa
open Go.ChangeShapes Go.WideShapes Go.ChangeAt Go.WideMaps Go.WideElems Go.RowKit Go.Deep Go.Joins

theorem laidOutAll2 : laidOutB Try.prog = true := by kernel_rfl
theorem cellsI64 : Try.prog.cellsOf 3 = 1 := by kernel_rfl
section
variable {H : Type} {enc : TypeId × Value → H}
set_option maxRecDepth 100000 in
theorem ints_trod {WW : World} {v : Value} {fuel : Nat} {x : DataW H × List MemPlace} (hf : DataW.trod enc Try.prog WW 0 (fun _ => true) true fuel 22 [v] = some x) :
    ∃ (a : Option Addr) (n ca : Nat) (l : List Int), v = .slice a n ca ∧ Ints WW a n l := by
  rcases open_ints Try.underlying22 Try.underlying3 cellsI64 hf with ⟨hcs, hx⟩ | ⟨a, len, cap, zs, hcs, _, hl, hm, hz, hx, hcell, hwz⟩
  · obtain rfl : v = .slice none 0 0 := by simpa using hcs
    exact ⟨none, 0, 0, [], rfl, rfl, fun h0 => absurd h0 (by omega)⟩
  · obtain rfl : v = .slice (some a) len cap := by simpa using hcs
    simp only [if_true] at hz
    refine ⟨some a, len, cap, zs.take len, rfl, by rw [List.length_take]; omega, fun h0 => ?_⟩
    have h00 := hcell 0 (by omega)
    obtain ⟨b, off, spot⟩ := a
    have hspot : spot = none := by simpa [Addr.add] using World.cell?_spot h00
    subst hspot
    have hlt := World.block_lt_of_cell? WW _ h00
    refine ⟨b, off, rfl, by simpa [Addr.add] using hlt, fun i hi => ?_⟩
    have hci := hcell i (by omega)
    have hzi : zs.getD i 0 = (zs.take len)[i]?.getD 0 := by
      rw [List.getElem?_take, if_pos hi]
      simp [List.getD]
    rw [← hzi]
    have ea : (⟨b, off, none⟩ : Addr).add i = ⟨b, off + i, none⟩ := by
      unfold Addr.add; split <;> simp_all
    rw [ea] at hci
    exact hci
set_option maxRecDepth 100000 in
theorem ints_open {WW : World} {v : Value} {d : DataW H} {ps : List MemPlace} (hval : Value.okWide Try.prog WW .any 0 22 v) (h : DataW.Trod enc Try.prog WW 0 (fun _ => true) true 22 v d ps) :
    ∃ (a : Option Addr) (n ca : Nat) (l : List Int), v = .slice a n ca ∧ Ints WW a n l := by
  obtain ⟨a0, len, cap, rfl⟩ := okWide_slice Try.underlying22 hval
  obtain ⟨fuel, hf⟩ := h
  exact ints_trod (by simpa [Value.cells] using hf)
end
end Go.Proofs.Ythlhchaapdhbfaa
