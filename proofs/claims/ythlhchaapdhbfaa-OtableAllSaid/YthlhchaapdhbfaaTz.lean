/- A seed that a row hands over reads as such. -/
import Derived.Test.YthlhchaapdhbfaaTy
import Derived.Test.YthlhchaapdhbfaaFx
import Derived.Carry
import Derived.ChangeSlices
import Derived.Lib.SmallJoins
namespace Go.Proofs.Ythlhchaapdhbfaa
open Go.ChangeShapes Go.WideShapes Go.ChangeAt Go.WideMaps Go.WideElems Go.RowKit Go.Deep Go.Joins

theorem okWide_ints {P : Program} {w : World} {r : Reach} {base n : Nat} {t e : TypeId} {v : Value} (ht : P.underlying t = some (.array n e)) (h : Value.okWide P w r base t v) : ∃ cs, v = .agg cs ∧ cs.size = P.cellsOf t := by
  simp only [Value.okWide, ht] at h
  obtain ⟨cs, h1, h2, _⟩ := h
  exact ⟨cs, h1, h2⟩
theorem laidOutAll : laidOutB Try.prog = true := by kernel_rfl
theorem cellsU16 : Try.prog.cellsOf 136 = 1 := by kernel_rfl
section
variable {H : Type} {enc : TypeId × Value → H}
set_option maxRecDepth 100000 in
theorem nums16_trod {WW : World} {v : Value} {fuel : Nat} {x : DataW H × List MemPlace} (hf : DataW.trod enc Try.prog WW 0 (fun _ => true) true fuel 75 [v] = some x) :
    ∃ (a : Option Addr) (n ca : Nat) (l : List Nat), v = .slice a n ca ∧ n ≤ ca ∧ (∀ u ∈ l, u < 65536) ∧ W.Nums .u16 WW a n l := by
  rcases open_ints Try.underlying75 Try.underlying136 cellsU16 hf with ⟨hcs, hx⟩ | ⟨a, len, cap, zs, hcs, _, hl, hm, hz, hx, hcell, hwz⟩
  · obtain rfl : v = .slice none 0 0 := by simpa using hcs
    exact ⟨none, 0, 0, [], rfl, Nat.le_refl _, fun u hu => by simp at hu, rfl, fun h0 => absurd h0 (by omega)⟩
  · obtain rfl : v = .slice (some a) len cap := by simpa using hcs
    simp only [if_true] at hz
    have hwf : ∀ n ∈ zs, 0 ≤ n ∧ n < 65536 := fun n hn => by
      have := hwz n hn
      have h12 : IntKind.u16.min ≤ n ∧ n ≤ IntKind.u16.max := by simpa [Lit.wf] using this
      obtain ⟨h1, h2⟩ := h12
      have e1 : IntKind.u16.min = 0 := by rfl
      have e2 : IntKind.u16.max = 65535 := by rfl
      rw [e1] at h1; rw [e2] at h2
      omega
    refine ⟨some a, len, cap, (zs.take len).map Int.toNat, rfl, hl, ?_, ?_, fun h0 => ?_⟩
    · intro u hu
      obtain ⟨z, hzm, rfl⟩ := List.mem_map.1 hu
      have := hwf z (List.mem_of_mem_take hzm)
      omega
    · rw [List.length_map, List.length_take]; omega
    · have h00 := hcell 0 (by omega)
      obtain ⟨b, off, spot⟩ := a
      have hspot : spot = none := by simpa [Addr.add] using World.cell?_spot h00
      subst hspot
      have hlt := World.block_lt_of_cell? WW _ h00
      refine ⟨b, off, rfl, by simpa [Addr.add] using hlt, fun i hi => ?_⟩
      have hci := hcell i (by omega)
      have hzi : zs.getD i 0 = (((((zs.take len).map Int.toNat)[i]?.getD 0 : Nat)) : Int) := by
        have hi2 : i < zs.length := by omega
        have := hwf (zs[i]) (List.getElem_mem hi2)
        rw [List.getElem?_map, List.getElem?_take, if_pos hi, List.getElem?_eq_getElem hi2]
        simp [List.getD, List.getElem?_eq_getElem hi2]
        omega
      rw [← hzi]
      have ea : (⟨b, off, none⟩ : Addr).add i = ⟨b, off + i, none⟩ := by
        unfold Addr.add; split <;> simp_all
      rw [ea] at hci
      exact hci
set_option maxRecDepth 100000 in
theorem nums16_open {WW : World} {v : Value} {d : DataW H} {ps : List MemPlace} (hval : Value.okWide Try.prog WW .any 0 75 v) (h : DataW.Trod enc Try.prog WW 0 (fun _ => true) true 75 v d ps) :
    ∃ (a : Option Addr) (n ca : Nat) (l : List Nat), v = .slice a n ca ∧ n ≤ ca ∧ (∀ u ∈ l, u < 65536) ∧ W.Nums .u16 WW a n l := by
  obtain ⟨a0, len, cap, rfl⟩ := okWide_slice Try.underlying75 hval
  obtain ⟨fuel, hf⟩ := h
  exact nums16_trod (by simpa [Value.cells] using hf)
set_option maxRecDepth 100000 in
theorem seed_open {WW : World} {v : Value} {d : DataW H} {ps : List MemPlace} (hval : Value.okWide Try.prog WW .any 0 77 v) (h : DataW.Trod enc Try.prog WW 0 (fun _ => true) true 77 v d ps) :
    ∃ (kd n : Int) (a : Option Addr) (len ca : Nat) (l : List Nat), v = seedV kd n a len ca ∧ (∀ u ∈ l, u < 65536) ∧ W.Nums .u16 WW a len l := by
  obtain ⟨v0, v1, v2, y0, y1, y2, n, rfl, rfl, rfl, h0, h1, h2⟩ := open_agg3 Try.underlying77 (by kernel_rfl) (by kernel_rfl) hval h
  obtain ⟨kd, hk, -, -⟩ := DataW.trod_int Try.underlying3 h0
  obtain ⟨nn, hn, -, -⟩ := DataW.trod_int Try.underlying2 h1
  obtain ⟨a, len, ca, l, rfl, -, hl, hN⟩ := nums16_trod h2
  simp only [List.cons.injEq, and_true] at hk hn
  subst hk hn
  exact ⟨kd, nn, a, len, ca, l, rfl, hl, hN⟩
end
theorem cellsPair : Try.prog.cellsOf 32 = 2 := by kernel_rfl
theorem cellsInt : Try.prog.cellsOf 3 = 1 := by kernel_rfl
section
variable {H : Type} {enc : TypeId × Value → H}
set_option maxRecDepth 100000 in
theorem two_open {WW : World} {v : Value} {d : DataW H} {ps : List MemPlace} (hval : Value.okWide Try.prog WW .any 0 32 v) (h : DataW.Trod enc Try.prog WW 0 (fun _ => true) true 32 v d ps) : ∃ f g : Int, v = .agg #[.int .i64 f, .int .i64 g] := by
  obtain ⟨cs, rfl, hsz⟩ := okWide_ints Try.underlying32 hval
  obtain ⟨fuel, hf⟩ := h
  obtain ⟨xs, k2, _, _, hcl, hxl, hg⟩ := DataW.trod_array Try.underlying32 hf
  rw [cellsPair] at hcl
  obtain ⟨c0, c1, rfl⟩ := array2 (by simpa [Value.cells] using hcl)
  have g0 := hg 0 (by omega)
  have g1 := hg 1 (by omega)
  rw [cellsInt] at g0 g1
  match xs, hxl with
  | [x0, x1], _ =>
    obtain ⟨n0, e0, -⟩ := DataW.trod_int Try.underlying3 (by simpa [Value.cells] using g0)
    obtain ⟨n1, e1, -⟩ := DataW.trod_int Try.underlying3 (by simpa [Value.cells] using g1)
    simp only [List.cons.injEq, and_true] at e0 e1
    subst e0 e1
    exact ⟨n0, n1, rfl⟩
end
end Go.Proofs.Ythlhchaapdhbfaa
