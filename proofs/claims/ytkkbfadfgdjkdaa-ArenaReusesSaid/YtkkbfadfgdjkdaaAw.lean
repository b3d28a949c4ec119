/- ArenaReuses holds: for every list of flags and every number it returns true; no condition beyond the row. -/
import Derived.Test.YtkkbfadfgdjkdaaAv
import Derived.Test.YtkkbfadfgdjkdaaQy
import Derived.SevenTiedAt
import Derived.ChangeMaps5
import Derived.Deep.Grids
namespace Go.Proofs.Ytkkbfadfgdjkdaa
open Go.ChangeMaps Go.ChangeShapes Go.WideShapes Go.ChangeAt Go.WideMaps Go.WideElems Go.RowKit Go.Deep
theorem cellsBool : Try.prog.cellsOf 4 = 1 := by kernel_rfl
section
variable {H : Type} {enc : TypeId × Value → H}
set_option maxRecDepth 100000 in
theorem bools_open {WW : World} {v : Value} {d : DataW H} {ps : List MemPlace} (hval : Value.okWide Try.prog WW .any 0 57 v) (h : DataW.Trod enc Try.prog WW 0 (fun _ => true) true 57 v d ps) :
    ∃ (a : Option Addr) (n ca : Nat) (l : List Bool), v = .slice a n ca ∧ Bools WW a n l := by
  obtain ⟨a0, len0, cap0, rfl⟩ := okWide_slice Try.underlying57 hval
  obtain ⟨fuel, hf⟩ := h
  have hf : DataW.trod enc Try.prog WW 0 (fun _ => true) true fuel 57 [.slice a0 len0 cap0] = some (d, ps) := by simpa [Value.cells] using hf
  rcases open_bools Try.underlying57 Try.underlying4 cellsBool hf with ⟨hcs, hx⟩ | ⟨a, len, cap, B, hcs, _, hl, hm, hx, hcell⟩
  · have e : Value.slice a0 len0 cap0 = .slice none 0 0 := by simpa using hcs
    exact ⟨none, 0, 0, [], e, rfl, fun h0 => absurd h0 (by omega)⟩
  · have e : Value.slice a0 len0 cap0 = .slice (some a) len cap := by simpa using hcs
    refine ⟨some a, len, cap, (List.range len).map B, e, by rw [List.length_map, List.length_range], fun h0 => ?_⟩
    have h00 := hcell 0 (by omega)
    obtain ⟨b, off, spot⟩ := a
    have hspot : spot = none := by simpa [Addr.add] using World.cell?_spot h00
    subst hspot
    have hlt := World.block_lt_of_cell? WW _ h00
    refine ⟨b, off, rfl, by simpa [Addr.add] using hlt, fun i hi => ?_⟩
    have hci := hcell i (by omega)
    have ea : (⟨b, off, none⟩ : Addr).add i = ⟨b, off + i, none⟩ := by
      unfold Addr.add; split <;> simp_all
    rw [ea] at hci
    rw [hci, List.getElem?_map, List.getElem?_range hi]
    rfl
end

section
set_option maxRecDepth 100000 in
theorem arenaReuses_lifted (os : Os) (started : os.Started) (H : Type) (enc : TypeId × Value → H) :
    ReturnsInHanded {} Try.checked os 6 .any (Rows.arenaReusesSpec.pre6 enc Try.prog Try.f6 Rows.arenaReusesRow.domain false) (Rows.arenaReusesSpec.post enc Try.prog Try.f6 false true false false) := by
  refine returnsInHanded_of_change (C := Try.checked) own started (by kernel_rfl) Try.func6
    (ChangeSpec.witness6 (enc := enc) (C := Try.checked) false ⟨#[], #[.slice none 0 0, .int .i64 0], []⟩ 8 (by kernel_rfl) (by kernel_rfl) (by kernel_rfl) (by kernel_rfl)) ?_
  intro W base args ds gs before hval0 hW _ _
  have hval : ∀ (j : Nat) t v, Try.f6.params[j]? = some t → args[j]? = some v → Value.okWide Try.prog W .any base t v := hval0
  have hW' := hW
  obtain ⟨p, q, hA0, hV, rfl, hfz, hnd⟩ := hW
  have hA : DataW.TrodAll enc Try.prog W 0 (fun _ => true) true Try.f6.params.toList args.toList ds p := hA0
  rw [Try.params6] at hA hval
  obtain ⟨v0, vs0, d0, ds0, p0, q0, hargs, rfl, rfl, h0, r0⟩ := trodAll_cons hA
  obtain ⟨v1, vs1, d1, ds1, p1, q1, rfl, rfl, rfl, h1, r1⟩ := trodAll_cons r0
  obtain ⟨rfl, rfl, rfl⟩ := trodAll_nil r1
  obtain rfl : args = #[v0, v1] := by cases args; simp_all
  obtain ⟨rfl, rfl⟩ := trodVars_none hV
  clear hA0 hval0
  simp only [List.append_nil] at hW'
  obtain ⟨a, n, ca, l, rfl, hN⟩ := bools_open (hval 0 57 v0 rfl rfl) h0
  obtain ⟨m, rfl, rfl, -⟩ := open_int Try.underlying3 (hval 1 3 v1 rfl rfl) h1
  refine (reuses_law a n ca l m W hN).mono fun e W' ⟨he, hg⟩ => ?_
  subst he
  exact ⟨_, rfl, law_post hW' hg rfl rfl rfl (by kernel_rfl)⟩

/-- For every input ArenaReuses returns true. -/
theorem arenaReuses_holds : Rows.ArenaReusesSaid :=
  OpenClaim.holds_of_wide 6 Try.f6 rfl rfl rfl rfl rfl rfl rfl ⟨rfl, rfl, rfl, rfl, rfl⟩ rfl rfl rfl rfl rfl (by kernel_rfl) Try.func6 (by kernel_rfl)
    (of_decide_eq_true (by kernel_rfl)) (by unfold Func.isWrapper; first | (rw [if_pos (by decide +kernel)]; kernel_rfl) | (rw [if_neg (by decide +kernel)]; exact ⟨rfl, rfl⟩))
    (fun os started H enc _ => arenaReuses_lifted os started H enc)
#print axioms arenaReuses_holds
end
end Go.Proofs.Ytkkbfadfgdjkdaa
