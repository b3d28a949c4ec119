/- The listed tables of the stage's laws; the argument as it is handed in. -/
import Derived.Test.YtahkohfppakaiaaGreatDoorBo
import Derived.Test.YtahkohfppakaiaaGreatDoorBq
import Derived.Stop.LaidErr
import Derived.ChangeMaps5
import Derived.ChangeSlices
import Derived.Deep.Slices
namespace Go.Proofs.YtahkohfppakaiaaGreatDoor
open Go.ChangeMaps Go.ChangeShapes Go.WideShapes Go.ChangeAt Go.WideMaps Go.WideElems Go.RowKit Go.Deep
def IntsR (w : World) (a : Option Addr) (n : Nat) (l : List Int) : Prop := l.length = n ∧ (0 < n → ∃ b o, a = some ⟨b, o, none⟩ ∧ b < w.heap.size ∧ ∀ i, i < n → w.cell? ⟨b, o + i, none⟩ = some (.int .i64 (l[i]?.getD 0)))
theorem IntsR.on {w w1 : World} {a : Option Addr} {n : Nat} {l : List Int} (h : IntsR w a n l) (hb : Below w.heap.size w w1) : IntsR w1 a n l :=
 ⟨h.1, fun hp => by
  obtain ⟨b, o, e, hlt, hc⟩ := h.2 hp
  exact ⟨b, o, e, by have := hb.size; omega, fun i hi => by rw [hb.cell (p := ⟨b, o + i, none⟩) hlt]; exact hc i hi⟩⟩
abbrev tabs5 {H : Type} : List (String × DataW H) := [("math/bits.deBruijn32tab", Rows.laid_math_bits_deBruijn32tab), ("math/bits.deBruijn64tab", Rows.laid_math_bits_deBruijn64tab), ("internal/strconv.uint64pow10", Rows.laid_internal_strconv_uint64pow10), ("unicode.White_Space", Rows.laid_unicode_White_Space), ("strings.asciiSpace", Rows.laid_strings_asciiSpace)]
theorem door_met5 (os : Os) (args : Array Value) : laidMetH Tryz.prog tabs5 ((World.doorLaid Tryz.prog 4000 os).forCall (fun _ _ => 0) ⟨#[], args, []⟩).memory :=
 laidMetH_of_parts3 (fuel := 8) (laidMet_of_run' 8 (by kernel_rfl) (by kernel_rfl)) (by kernel_rfl) (by kernel_rfl)
theorem tab_named : Tryz.prog.globalNamed "strings.asciiSpace" = some 0 := by kernel_rfl
theorem tab_type : (Tryz.prog.globals[0]?).map (·.type) = some 206 := by kernel_rfl
theorem tab_data : (Rows.laid_strings_asciiSpace : DataW Unit) = Lib.tabData .u8 Lib.asciiSpaceTab := by kernel_rfl
theorem asc_of_head {w : World} (h3 : laidMet Tryz.prog [("strings.asciiSpace", Rows.laid_strings_asciiSpace)] w) : Lib.TabIs Tryz.prog w "strings.asciiSpace" .u8 Lib.asciiSpaceTab := by
 rw [tab_data] at h3
 exact Lib.tabIs_of_head tab_named tab_type Tryz.underlying206 Tryz.underlying5 (by kernel_rfl) (by kernel_rfl) h3
set_option maxRecDepth 100000 in
theorem asc_of5 {w : World} (h : laidMetH Tryz.prog tabs5 w) : Lib.TabIs Tryz.prog w "strings.asciiSpace" .u8 Lib.asciiSpaceTab := by
 rw [MakeChecks.laidMetH_plain _ _ _ (by kernel_rfl)] at h
 exact asc_of_head (laidMet.tail (laidMet.tail (laidMet.tail (laidMet.tail h))))
theorem pow_named : Tryz.prog.globalNamed "internal/strconv.uint64pow10" = some 4 := by kernel_rfl
theorem pow_type : (Tryz.prog.globals[4]?).map (·.type) = some 342 := by kernel_rfl
theorem pow_data : (Rows.laid_internal_strconv_uint64pow10 : DataW Unit) = Lib.tabData .u64 Lib.pow10Tab := by kernel_rfl
theorem pow_of_head {w : World} {r : List (String × DataW Unit)} (h3 : laidMet Tryz.prog (("internal/strconv.uint64pow10", Rows.laid_internal_strconv_uint64pow10) :: r) w) : Lib.TabIs Tryz.prog w "internal/strconv.uint64pow10" .u64 Lib.pow10Tab := by
 rw [pow_data] at h3
 exact Lib.tabIs_of_head pow_named pow_type Tryz.underlying342 Tryz.underlying314 (by kernel_rfl) (by kernel_rfl) h3
set_option maxRecDepth 100000 in
theorem pow_of5 {w : World} (h : laidMetH Tryz.prog tabs5 w) : Lib.TabIs Tryz.prog w "internal/strconv.uint64pow10" .u64 Lib.pow10Tab := by
 rw [MakeChecks.laidMetH_plain _ _ _ (by kernel_rfl)] at h
 exact pow_of_head (laidMet.tail (laidMet.tail h))
theorem cellsI64 : Tryz.prog.cellsOf 3 = 1 := by kernel_rfl
section
variable {H : Type} {enc : TypeId × Value → H}
set_option maxRecDepth 100000 in
theorem ints_open {WW : World} {v : Value} {d : DataW H} {ps : List MemPlace} (hval : Value.okWide Tryz.prog WW .any 0 48 v) (h : DataW.Trod enc Tryz.prog WW 0 (fun _ => true) true 48 v d ps) :
  ∃ (a : Option Addr) (n ca : Nat) (l : List Int), v = .slice a n ca ∧ IntsR WW a n l := by
 obtain ⟨a0, len0, cap0, rfl⟩ := okWide_slice Tryz.underlying48 hval
 obtain ⟨fuel, hf⟩ := h
 have hf : DataW.trod enc Tryz.prog WW 0 (fun _ => true) true fuel 48 [.slice a0 len0 cap0] = some (d, ps) := by simpa [Value.cells] using hf
 rcases open_ints Tryz.underlying48 Tryz.underlying3 cellsI64 hf with ⟨hcs, hx⟩ | ⟨a, len, cap, zs, hcs, _, hl, hm, hz, hx, hcell, hwz⟩
 ·have e : Value.slice a0 len0 cap0 = .slice none 0 0 := by simpa using hcs
  exact ⟨none, 0, 0, [], e, rfl, fun h0 => absurd h0 (by omega)⟩
 ·have e : Value.slice a0 len0 cap0 = .slice (some a) len cap := by simpa using hcs
  simp only [if_true] at hz
  refine ⟨some a, len, cap, zs.take len, e, by rw [List.length_take]; omega, fun h0 => ?_⟩
  have h00 := hcell 0 (by omega)
  obtain ⟨b, off, spot⟩ := a
  have hspot : spot = none := by simpa [Addr.add] using World.cell?_spot h00
  subst hspot
  have hlt := World.block_lt_of_cell? WW _ h00
  refine ⟨b, off, rfl, by simpa [Addr.add] using hlt, fun i hi => ?_⟩
  have hci := hcell i (by omega)
  have hzi : zs.getD i 0 = (zs.take len)[i]?.getD 0 := by
   rw [List.getElem?_take, if_pos hi]
   simp [List.getD]
  rw [← hzi]
  have ea : (⟨b, off, none⟩ : Addr).add i = ⟨b, off + i, none⟩ := by
   unfold Addr.add; split <;> simp_all
  rw [ea] at hci
  exact hci
end
end Go.Proofs.YtahkohfppakaiaaGreatDoor
