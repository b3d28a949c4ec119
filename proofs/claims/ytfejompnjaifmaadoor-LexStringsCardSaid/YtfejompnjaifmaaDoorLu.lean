/- Numbers that a row hands over read as such. -/
import Derived.Test.YtfejompnjaifmaaDoorQy
import Derived.Test.YtfejompnjaifmaaDoorEa
import Derived.Carry
import Derived.ChangeSlices
import Derived.Lib.SmallJoins
namespace Go.Proofs.YtfejompnjaifmaaDoor
open Go.ChangeShapes Go.WideShapes Go.ChangeAt Go.WideMaps Go.WideElems Go.RowKit Go.Deep Go.Joins

/-- A slice value reads as these numbers. -/
def Ints (w : World) (a : Option Addr) (n : Nat) (l : List Int) : Prop := l.length = n ∧ (0 < n → ∃ b o, a = some ⟨b, o, none⟩ ∧ b < w.heap.size ∧ ∀ i, i < n → w.cell? ⟨b, o + i, none⟩ = some (.int .i64 (l[i]?.getD 0)))
theorem Ints.on {w w1 : World} {a : Option Addr} {n : Nat} {l : List Int} (h : Ints w a n l) (hb : Below w.heap.size w w1) : Ints w1 a n l :=
  ⟨h.1, fun hn => by
    obtain ⟨b, o, e, hlt, hc⟩ := h.2 hn
    exact ⟨b, o, e, by have := hb.size; omega, fun i hi => by rw [hb.cell (p := ⟨b, o + i, none⟩) hlt]; exact hc i hi⟩⟩
theorem cellsU16 : Tryd.prog.cellsOf 36 = 1 := by kernel_rfl
theorem cellsI64 : Tryd.prog.cellsOf 3 = 1 := by kernel_rfl
section
variable {H : Type} {enc : TypeId × Value → H}
set_option maxRecDepth 100000 in
theorem nums16_trod {WW : World} {v : Value} {fuel : Nat} {x : DataW H × List MemPlace} (hf : DataW.trod enc Tryd.prog WW 0 (fun _ => true) true fuel 35 [v] = some x) :
    ∃ (a : Option Addr) (n ca : Nat) (l : List Nat), v = .slice a n ca ∧ n ≤ ca ∧ (∀ u ∈ l, u < 65536) ∧ W.Nums .u16 WW a n l := by
  rcases open_ints Tryd.underlying35 Tryd.underlying36 cellsU16 hf with ⟨hcs, hx⟩ | ⟨a, len, cap, zs, hcs, _, hl, hm, hz, hx, hcell, hwz⟩
  · obtain rfl : v = .slice none 0 0 := by simpa using hcs
    exact ⟨none, 0, 0, [], rfl, Nat.le_refl _, fun u hu => by simp at hu, rfl, fun h0 => absurd h0 (by omega)⟩
  · obtain rfl : v = .slice (some a) len cap := by simpa using hcs
    simp only [if_true] at hz
    have hwf : ∀ n ∈ zs, 0 ≤ n ∧ n < 65536 := fun n hn => by
      have := hwz n hn
      have h12 : IntKind.u16.min ≤ n ∧ n ≤ IntKind.u16.max := by simpa [Lit.wf] using this
      obtain ⟨h1, h2⟩ := h12
      have e1 : IntKind.u16.min = 0 := by rfl
      have e2 : IntKind.u16.max = 65535 := by rfl
      rw [e1] at h1; rw [e2] at h2
      omega
    refine ⟨some a, len, cap, (zs.take len).map Int.toNat, rfl, hl, ?_, ?_, fun h0 => ?_⟩
    · intro u hu
      obtain ⟨z, hzm, rfl⟩ := List.mem_map.1 hu
      have := hwf z (List.mem_of_mem_take hzm)
      omega
    · rw [List.length_map, List.length_take]; omega
    · have h00 := hcell 0 (by omega)
      obtain ⟨b, off, spot⟩ := a
      have hspot : spot = none := by simpa [Addr.add] using World.cell?_spot h00
      subst hspot
      have hlt := World.block_lt_of_cell? WW _ h00
      refine ⟨b, off, rfl, by simpa [Addr.add] using hlt, fun i hi => ?_⟩
      have hci := hcell i (by omega)
      have hzi : zs.getD i 0 = (((((zs.take len).map Int.toNat)[i]?.getD 0 : Nat)) : Int) := by
        have hi2 : i < zs.length := by omega
        have := hwf (zs[i]) (List.getElem_mem hi2)
        rw [List.getElem?_map, List.getElem?_take, if_pos hi, List.getElem?_eq_getElem hi2]
        simp [List.getD, List.getElem?_eq_getElem hi2]
        omega
      rw [← hzi]
      have ea : (⟨b, off, none⟩ : Addr).add i = ⟨b, off + i, none⟩ := by
        unfold Addr.add; split <;> simp_all
      rw [ea] at hci
      exact hci
set_option maxRecDepth 100000 in
theorem nums16_open {WW : World} {v : Value} {d : DataW H} {ps : List MemPlace} (hval : Value.okWide Tryd.prog WW .any 0 35 v) (h : DataW.Trod enc Tryd.prog WW 0 (fun _ => true) true 35 v d ps) :
    ∃ (a : Option Addr) (n ca : Nat) (l : List Nat), v = .slice a n ca ∧ n ≤ ca ∧ (∀ u ∈ l, u < 65536) ∧ W.Nums .u16 WW a n l := by
  obtain ⟨a0, len, cap, rfl⟩ := okWide_slice Tryd.underlying35 hval
  obtain ⟨fuel, hf⟩ := h
  exact nums16_trod (by simpa [Value.cells] using hf)
set_option maxRecDepth 100000 in
theorem ints_trod {WW : World} {v : Value} {fuel : Nat} {x : DataW H × List MemPlace} (hf : DataW.trod enc Tryd.prog WW 0 (fun _ => true) true fuel 22 [v] = some x) :
    ∃ (a : Option Addr) (n ca : Nat) (l : List Int), v = .slice a n ca ∧ Ints WW a n l := by
  rcases open_ints Tryd.underlying22 Tryd.underlying3 cellsI64 hf with ⟨hcs, hx⟩ | ⟨a, len, cap, zs, hcs, _, hl, hm, hz, hx, hcell, hwz⟩
  · obtain rfl : v = .slice none 0 0 := by simpa using hcs
    exact ⟨none, 0, 0, [], rfl, rfl, fun h0 => absurd h0 (by omega)⟩
  · obtain rfl : v = .slice (some a) len cap := by simpa using hcs
    simp only [if_true] at hz
    refine ⟨some a, len, cap, zs.take len, rfl, by rw [List.length_take]; omega, fun h0 => ?_⟩
    have h00 := hcell 0 (by omega)
    obtain ⟨b, off, spot⟩ := a
    have hspot : spot = none := by simpa [Addr.add] using World.cell?_spot h00
    subst hspot
    have hlt := World.block_lt_of_cell? WW _ h00
    refine ⟨b, off, rfl, by simpa [Addr.add] using hlt, fun i hi => ?_⟩
    have hci := hcell i (by omega)
    have hzi : zs.getD i 0 = (zs.take len)[i]?.getD 0 := by
      rw [List.getElem?_take, if_pos hi]
      simp [List.getD]
    rw [← hzi]
    have ea : (⟨b, off, none⟩ : Addr).add i = ⟨b, off + i, none⟩ := by
      unfold Addr.add; split <;> simp_all
    rw [ea] at hci
    exact hci
set_option maxRecDepth 100000 in
theorem ints_open {WW : World} {v : Value} {d : DataW H} {ps : List MemPlace} (hval : Value.okWide Tryd.prog WW .any 0 22 v) (h : DataW.Trod enc Tryd.prog WW 0 (fun _ => true) true 22 v d ps) :
    ∃ (a : Option Addr) (n ca : Nat) (l : List Int), v = .slice a n ca ∧ Ints WW a n l := by
  obtain ⟨a0, len, cap, rfl⟩ := okWide_slice Tryd.underlying22 hval
  obtain ⟨fuel, hf⟩ := h
  exact ints_trod (by simpa [Value.cells] using hf)
end
end Go.Proofs.YtfejompnjaifmaaDoor
