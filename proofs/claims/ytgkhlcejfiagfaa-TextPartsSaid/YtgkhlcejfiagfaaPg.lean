/- TextParts holds: for every two sequences of units and every two positions it returns true, whatever the memory holds; no condition beyond the row. -/
import Derived.Test.YtgkhlcejfiagfaaPf
import Derived.Test.YtgkhlcejfiagfaaTy
import Derived.Carry
import Derived.ChangeSlices
import Derived.WideKeyPair
namespace Go.Proofs.Ytgkhlcejfiagfaa
open Go.ChangeShapes Go.WideShapes Go.ChangeAt Go.WideMaps Go.WideElems Go.RowKit

theorem laidOutAll : laidOutB Try.prog = true := by kernel_rfl
theorem cellsU16 : Try.prog.cellsOf 52 = 1 := by kernel_rfl
theorem pairArr : ArrKey Try.prog 37 3 2 := ⟨Try.underlying37, by kernel_rfl, by kernel_rfl, by kernel_rfl⟩
section
variable {H : Type} {enc : TypeId × Value → H}
/-- A slice of units that the row hands over reads as numbers. -/
theorem nums_open {W : World} {v : Value} {d : DataW H} {ps : List MemPlace} (hval : Value.okWide Try.prog W .any 0 22 v) (h : DataW.Trod enc Try.prog W 0 (fun _ => true) true 22 v d ps) :
    ∃ (a : Option Addr) (n ca : Nat) (l : List Nat), v = .slice a n ca ∧ n ≤ ca ∧ (a = none → ca = 0) ∧ (∀ u ∈ l, u < 65536) ∧ Nums .u16 W a n l := by
  obtain ⟨a0, len, cap, rfl⟩ := okWide_slice Try.underlying22 hval
  obtain ⟨fuel, hf⟩ := h
  rcases open_ints Try.underlying22 Try.underlying52 cellsU16 hf with ⟨hcs, hx⟩ | ⟨a, len', cap', zs, hcs, _, hl, hm, hz, hx, hcell, hwz⟩
  · simp [Value.cells] at hcs
    obtain ⟨rfl, rfl, rfl⟩ := hcs
    exact ⟨none, 0, 0, [], rfl, Nat.le_refl _, fun _ => rfl, fun u hu => by simp at hu, rfl, fun h0 => absurd h0 (by omega)⟩
  · simp [Value.cells] at hcs
    obtain ⟨rfl, rfl, rfl⟩ := hcs
    simp only [if_true] at hz
    have hwf : ∀ n ∈ zs, 0 ≤ n ∧ n < 65536 := fun n hn => by
      have := hwz n hn
      have h12 : IntKind.u16.min ≤ n ∧ n ≤ IntKind.u16.max := by simpa [Lit.wf] using this
      obtain ⟨h1, h2⟩ := h12
      have e1 : IntKind.u16.min = 0 := by rfl
      have e2 : IntKind.u16.max = 65535 := by rfl
      rw [e1] at h1; rw [e2] at h2
      omega
    refine ⟨some a, len, cap, (zs.take len).map Int.toNat, rfl, hl, (fun (e : some a = none) => nomatch e), ?_, ?_, fun h0 => ?_⟩
    · intro u hu
      obtain ⟨z, hzm, rfl⟩ := List.mem_map.1 hu
      have := hwf z (List.mem_of_mem_take hzm)
      omega
    · rw [List.length_map, List.length_take]; omega
    · have h00 := hcell 0 (by omega)
      obtain ⟨b, off, spot⟩ := a
      have hspot : spot = none := by simpa [Addr.add] using World.cell?_spot h00
      subst hspot
      have hlt := World.block_lt_of_cell? W _ h00
      refine ⟨b, off, rfl, by simpa [Addr.add] using hlt, fun i hi => ?_⟩
      have hci := hcell i (by omega)
      have hzi : zs.getD i 0 = (((((zs.take len).map Int.toNat)[i]?.getD 0 : Nat)) : Int) := by
        have hi2 : i < zs.length := by omega
        have := hwf (zs[i]) (List.getElem_mem hi2)
        rw [List.getElem?_map, List.getElem?_take, if_pos hi, List.getElem?_eq_getElem hi2]
        simp [List.getD, List.getElem?_eq_getElem hi2]
        omega
      rw [← hzi]
      have ea : (⟨b, off, none⟩ : Addr).add i = ⟨b, off + i, none⟩ := by
        unfold Addr.add; split <;> simp_all
      rw [ea] at hci
      exact hci

set_option maxRecDepth 100000 in
theorem textParts_lifted (os : Os) (started : os.Started) (H : Type) (enc : TypeId × Value → H) :
    ReturnsInHanded {} Try.checked os 5 .any (Rows.textPartsSpec.pre6 enc Try.prog Try.f5 Rows.textPartsRow.domain false) (Rows.textPartsSpec.post enc Try.prog Try.f5 false true false false) := by
  refine returnsInHanded_of_change (C := Try.checked) own started (by kernel_rfl) Try.func5
    (ChangeSpec.witness6 (enc := enc) (C := Try.checked) false ⟨#[], #[.slice none 0 0, .slice none 0 0, .agg #[.int .i64 0, .int .i64 0]], []⟩ 8 (by kernel_rfl) (by kernel_rfl) (by kernel_rfl) (by kernel_rfl)) ?_
  intro W base args ds gs before hval0 hW _ _
  have hval : ∀ (j : Nat) t v, Try.f5.params[j]? = some t → args[j]? = some v → Value.okWide Try.prog W .any base t v := hval0
  have hW' := hW
  obtain ⟨p, q, hA0, hV, rfl, hfz, hnd⟩ := hW
  have hA : DataW.TrodAll enc Try.prog W 0 (fun _ => true) true Try.f5.params.toList args.toList ds p := hA0
  rw [Try.params5] at hA hval
  obtain ⟨v0, vs0, d0, ds0, p0, q0, hargs, rfl, rfl, h0, r0⟩ := trodAll_cons hA
  obtain ⟨v1, vs1, d1, ds1, p1, q1, rfl, rfl, rfl, h1, r1⟩ := trodAll_cons r0
  obtain ⟨v2, vs2, d2, ds2, p2, q2, rfl, rfl, rfl, h2, r2⟩ := trodAll_cons r1
  obtain ⟨rfl, rfl, rfl⟩ := trodAll_nil r2
  obtain rfl : args = #[v0, v1, v2] := by cases args; simp_all
  obtain ⟨rfl, rfl⟩ := trodVars_none hV
  obtain ⟨i, j, rfl, rfl, rfl, wi, wj⟩ := open_pair pairArr Try.underlying3 (hval 2 37 v2 rfl rfl) h2
  obtain ⟨a, n, ca, l, rfl, hca, hno, hl, hn1⟩ := nums_open (hval 0 22 v0 rfl rfl) h0
  obtain ⟨b, m, cb, r, rfl, -, -, hr, hn2⟩ := nums_open (hval 1 22 v1 rfl rfl) h1
  clear hA0 hval0
  simp only [List.append_nil] at hW'
  have hlt : ∀ x ∈ p0 ++ p1, x.block < W.heap.size := fun x hx => by simpa using hW'.lt x (by simpa using hx)
  refine (parts_any a b n m ca cb l r i j hca hno hl hr W hn1 hn2).mono fun e W' ⟨he, hg⟩ => ?_
  subst he
  exact ⟨_, rfl, law_post hW' hg rfl rfl rfl (trodAll_cons_mk (Below.trod laidOutAll (by kernel_rfl) (of_decide_eq_true (by kernel_rfl)) h0 hg (fun x hx => hlt x (List.mem_append_left _ hx))) (trodAll_cons_mk (Below.trod laidOutAll (by kernel_rfl) (of_decide_eq_true (by kernel_rfl)) h1 hg (fun x hx => hlt x (List.mem_append_right _ hx))) (trodAll_cons_mk (shut_pair pairArr Try.underlying3 wi wj) trodAll_mk0)))⟩

/-- For every input TextParts returns true. -/
theorem textParts_holds : Rows.TextPartsSaid :=
  OpenClaim.holds_of_wide 5 Try.f5 rfl rfl rfl rfl rfl rfl rfl ⟨rfl, rfl, rfl, rfl, rfl⟩ rfl rfl rfl rfl rfl (by kernel_rfl) Try.func5 (by kernel_rfl)
    (of_decide_eq_true (by kernel_rfl)) (by unfold Func.isWrapper; first | (rw [if_pos (by decide +kernel)]; kernel_rfl) | (rw [if_neg (by decide +kernel)]; exact ⟨rfl, rfl⟩))
    (fun os started H enc _ => textParts_lifted os started H enc)
#print axioms textParts_holds
end
end Go.Proofs.Ytgkhlcejfiagfaa
