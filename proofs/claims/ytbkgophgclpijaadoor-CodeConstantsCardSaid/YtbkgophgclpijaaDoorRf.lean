/- A slice of triples of numbers that a row hands over reads as such. -/
import Derived.Test.YtbkgophgclpijaaDoorRb
import Derived.Test.YtbkgophgclpijaaDoorQy
import Derived.Deep.Slices
namespace Go.Proofs.YtbkgophgclpijaaDoor
open Go.ChangeShapes Go.WideShapes Go.ChangeAt Go.WideMaps Go.WideElems Go.RowKit Go.Deep

theorem cells3 : Tryd.prog.cellsOf 58 = 3 := by kernel_rfl
theorem cells1 : Tryd.prog.cellsOf 3 = 1 := by kernel_rfl
section
variable {H : Type} {enc : TypeId × Value → H}
set_option maxRecDepth 100000 in
theorem trips_open {W : World} {v : Value} {d : DataW H} {ps : List MemPlace} (hval : Value.okWide Tryd.prog W .any 0 48 v) (h : DataW.Trod enc Tryd.prog W 0 (fun _ => true) true 48 v d ps) :
    ∃ (a : Option Addr) (n ca : Nat) (l : List (Int × Int × Int)), v = .slice a n ca ∧ n ≤ ca ∧ Ins3 W a n l := by
  obtain ⟨a0, len, cap, rfl⟩ := okWide_slice Tryd.underlying48 hval
  obtain ⟨fuel, hf⟩ := h
  rcases open_slice Tryd.underlying48 hf with ⟨hcs, hx⟩ | ⟨a, len', cap', m, k, D, Pl, hcs, _, hl, hm, hmm, hx, hcell⟩
  · simp [Value.cells] at hcs
    obtain ⟨rfl, rfl, rfl⟩ := hcs
    exact ⟨none, 0, 0, [], rfl, Nat.le_refl _, rfl, fun h0 => absurd h0 (by omega)⟩
  · simp [Value.cells] at hcs
    obtain ⟨rfl, rfl, rfl⟩ := hcs
    simp only [if_true] at hmm
    have each : ∀ i, i < len → ∃ x : Int × Int × Int, W.cell? (a.add (i * 3)) = some (.int .i64 x.1) ∧ W.cell? (a.add (i * 3 + 1)) = some (.int .i64 x.2.1) ∧ W.cell? (a.add (i * 3 + 2)) = some (.int .i64 x.2.2) := by
      intro i hi
      obtain ⟨cs, hc, ht⟩ := hcell i (by omega)
      rw [cells3] at hc
      obtain ⟨_, hcl, hat⟩ := World.cells?_some hc
      obtain ⟨xs, k2, _, _, _, hxl, hg⟩ := DataW.trod_array Tryd.underlying58 ht
      match cs, hcl with
      | [c0, c1, c2], _ =>
        have g0 := hg 0 (by omega)
        have g1 := hg 1 (by omega)
        have g2 := hg 2 (by omega)
        rw [cells1] at g0 g1 g2
        have h0 := hat 0 (by omega)
        have h1 := hat 1 (by omega)
        have h2 := hat 2 (by omega)
        rw [Go.Deep.add_add] at h0 h1 h2
        match xs, hxl with
        | [x0, x1, x2], _ =>
          obtain ⟨n0, e0, -⟩ := DataW.trod_int Tryd.underlying3 (by simpa using g0)
          obtain ⟨n1, e1, -⟩ := DataW.trod_int Tryd.underlying3 (by simpa using g1)
          obtain ⟨n2, e2, -⟩ := DataW.trod_int Tryd.underlying3 (by simpa using g2)
          cases e0; cases e1; cases e2
          exact ⟨(n0, n1, n2), by simpa using h0, by simpa using h1, by simpa using h2⟩
    obtain ⟨f, hf⟩ : ∃ f : Nat → Int × Int × Int, ∀ i, i < len → W.cell? (a.add (i * 3)) = some (.int .i64 (f i).1) ∧ W.cell? (a.add (i * 3 + 1)) = some (.int .i64 (f i).2.1) ∧ W.cell? (a.add (i * 3 + 2)) = some (.int .i64 (f i).2.2) :=
      ⟨fun i => if h : i < len then (each i h).choose else (0, 0, 0), fun i h => by simp only [dif_pos h]; exact (each i h).choose_spec⟩
    refine ⟨some a, len, cap, (List.range len).map f, rfl, hl, by simp, fun h0 => ?_⟩
    have h00 := (hf 0 h0).1
    obtain ⟨b, off, spot⟩ := a
    have hspot : spot = none := by simpa [Addr.add] using World.cell?_spot h00
    subst hspot
    have hlt := World.block_lt_of_cell? W _ h00
    refine ⟨b, off, rfl, by simpa [Addr.add] using hlt, fun i x hx => ?_⟩
    have hi : i < len := by
      rcases Nat.lt_or_ge i len with h | h
      · exact h
      · rw [List.getElem?_eq_none (by simpa using h)] at hx; cases hx
    have hxi : f i = x := by
      rw [List.getElem?_map, List.getElem?_range hi] at hx
      simpa using hx
    have ha : ∀ k, (⟨b, off, none⟩ : Addr).add k = ⟨b, off + k, none⟩ := fun k => by
      unfold Addr.add; split <;> simp_all
    have := hf i hi
    rw [ha, ha, ha, hxi] at this
    exact this
end
end Go.Proofs.YtbkgophgclpijaaDoor
