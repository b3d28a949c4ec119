/- Calls that a row hands over read as such. -/
import Derived.Test.YthlhchaapdhbfaaTz
import Derived.Test.YthlhchaapdhbfaaGi
import Derived.Deep.Slices
namespace Go.Proofs.Ythlhchaapdhbfaa
open Go.ChangeShapes Go.WideShapes Go.ChangeAt Go.WideMaps Go.WideElems Go.RowKit Go.Deep Go.Joins

theorem cellsCall : Try.prog.cellsOf 79 = 6 := by kernel_rfl
theorem cellsSeed : Try.prog.cellsOf 77 = 3 := by kernel_rfl
theorem cellsTcI : Try.prog.cellsOf 3 = 1 := by kernel_rfl
theorem cellsTcL : Try.prog.cellsOf 2 = 1 := by kernel_rfl
theorem cellsTcS : Try.prog.cellsOf 75 = 1 := by kernel_rfl
section
variable {H : Type} {enc : TypeId × Value → H}
set_option maxRecDepth 100000 in
theorem calls_open {WW : World} {v : Value} {d : DataW H} {ps : List MemPlace} (hval : Value.okWide Try.prog WW .any 0 62 v) (h : DataW.Trod enc Try.prog WW 0 (fun _ => true) true 62 v d ps) :
    ∃ (a : Option Addr) (n ca : Nat) (l : List CallD), v = .slice a n ca ∧ CallsAt WW a n l := by
  obtain ⟨a0, len, cap, rfl⟩ := okWide_slice Try.underlying62 hval
  obtain ⟨fuel, hf⟩ := h
  rcases open_slice Try.underlying62 hf with ⟨hcs, hx⟩ | ⟨a, len', cap', m, k, D, Pl, hcs, _, hl, hm, hmm, hx, hcell⟩
  · simp [Value.cells] at hcs
    obtain ⟨rfl, rfl, rfl⟩ := hcs
    exact ⟨none, 0, 0, [], rfl, rfl, fun h0 => absurd h0 (by omega)⟩
  · simp [Value.cells] at hcs
    obtain ⟨rfl, rfl, rfl⟩ := hcs
    simp only [if_true] at hmm
    have each : ∀ i, i < len → ∃ c : CallD, WW.cell? (a.add (i * 6)) = some (.int .i64 c.kind) ∧ WW.cell? (a.add (i * 6 + 1)) = some (.int .i64 c.kk) ∧ WW.cell? (a.add (i * 6 + 2)) = some (.int .i64 c.kn) ∧ WW.cell? (a.add (i * 6 + 3)) = some (.slice c.a c.len c.cap) ∧ WW.cell? (a.add (i * 6 + 4)) = some (.int .i64 c.val) ∧ WW.cell? (a.add (i * 6 + 5)) = some (.int .i64 c.n) ∧ (∀ u ∈ c.l, u < 65536) ∧ W.Nums .u16 WW c.a c.len c.l := by
      intro i hi
      obtain ⟨cs, hc, ht⟩ := hcell i (by omega)
      rw [cellsCall] at hc
      obtain ⟨_, hcl, hat⟩ := World.cells?_some hc
      obtain ⟨xs, k2, _, _, _, hxl, hg⟩ := DataW.trod_struct Try.underlying79 ht
      match cs, hcl with
      | [c0, c1, c2, c3, c4, c5], _ =>
        have g0 : DataW.trod enc Try.prog WW 0 (fun _ => true) true k2 3 (([c0, c1, c2, c3, c4, c5].drop 0).take (Try.prog.cellsOf 3)) = xs[0]? := hg 0 _ rfl
        have g1 : DataW.trod enc Try.prog WW 0 (fun _ => true) true k2 77 (([c0, c1, c2, c3, c4, c5].drop 1).take (Try.prog.cellsOf 77)) = xs[1]? := hg 1 _ rfl
        have g2 : DataW.trod enc Try.prog WW 0 (fun _ => true) true k2 2 (([c0, c1, c2, c3, c4, c5].drop 4).take (Try.prog.cellsOf 2)) = xs[2]? := hg 2 _ rfl
        have g3 : DataW.trod enc Try.prog WW 0 (fun _ => true) true k2 3 (([c0, c1, c2, c3, c4, c5].drop 5).take (Try.prog.cellsOf 3)) = xs[3]? := hg 3 _ rfl
        rw [cellsTcI] at g0 g3
        rw [cellsSeed] at g1
        rw [cellsTcL] at g2
        have h0 := hat 0 (by omega)
        have h1 := hat 1 (by omega)
        have h2 := hat 2 (by omega)
        have h3 := hat 3 (by omega)
        have h4 := hat 4 (by omega)
        have h5 := hat 5 (by omega)
        rw [Go.Deep.add_add] at h0 h1 h2 h3 h4 h5
        match xs, hxl with
        | [x0, x1, x2, x3], _ =>
          obtain ⟨n0, e0, -⟩ := DataW.trod_int Try.underlying3 (by simpa using g0)
          obtain ⟨n4, e4, -⟩ := DataW.trod_int Try.underlying2 (by simpa using g2)
          obtain ⟨n5, e5, -⟩ := DataW.trod_int Try.underlying3 (by simpa using g3)
          have g1' : DataW.trod enc Try.prog WW 0 (fun _ => true) true k2 77 [c1, c2, c3] = some x1 := by simpa using g1
          obtain ⟨ys, k3, _, _, _, hyl, hs⟩ := DataW.trod_struct Try.underlying77 g1'
          have s0 : DataW.trod enc Try.prog WW 0 (fun _ => true) true k3 3 (([c1, c2, c3].drop 0).take (Try.prog.cellsOf 3)) = ys[0]? := hs 0 _ rfl
          have s1 : DataW.trod enc Try.prog WW 0 (fun _ => true) true k3 2 (([c1, c2, c3].drop 1).take (Try.prog.cellsOf 2)) = ys[1]? := hs 1 _ rfl
          have s2 : DataW.trod enc Try.prog WW 0 (fun _ => true) true k3 75 (([c1, c2, c3].drop 2).take (Try.prog.cellsOf 75)) = ys[2]? := hs 2 _ rfl
          rw [cellsTcI] at s0
          rw [cellsTcL] at s1
          rw [cellsTcS] at s2
          match ys, hyl with
          | [y0, y1, y2], _ =>
            obtain ⟨n1, e1, -⟩ := DataW.trod_int Try.underlying3 (by simpa using s0)
            obtain ⟨n2, e2, -⟩ := DataW.trod_int Try.underlying2 (by simpa using s1)
            obtain ⟨a3, len3, cap3, l3, e3, _, hlt3, hn3⟩ := nums16_trod (enc := enc) (WW := WW) (v := c3) (fuel := k3) (x := y2) (by simpa using s2)
            cases e0; cases e1; cases e2; cases e4; cases e5
            subst e3
            exact ⟨⟨n0, n1, n2, a3, len3, cap3, l3, n4, n5⟩, by simpa using h0, by simpa using h1, by simpa using h2, by simpa using h3, by simpa using h4, by simpa using h5, hlt3, hn3⟩
    obtain ⟨f, hf⟩ : ∃ f : Nat → CallD, ∀ i, i < len → WW.cell? (a.add (i * 6)) = some (.int .i64 (f i).kind) ∧ WW.cell? (a.add (i * 6 + 1)) = some (.int .i64 (f i).kk) ∧ WW.cell? (a.add (i * 6 + 2)) = some (.int .i64 (f i).kn) ∧ WW.cell? (a.add (i * 6 + 3)) = some (.slice (f i).a (f i).len (f i).cap) ∧ WW.cell? (a.add (i * 6 + 4)) = some (.int .i64 (f i).val) ∧ WW.cell? (a.add (i * 6 + 5)) = some (.int .i64 (f i).n) ∧ (∀ u ∈ (f i).l, u < 65536) ∧ W.Nums .u16 WW (f i).a (f i).len (f i).l :=
      ⟨fun i => if h : i < len then (each i h).choose else ⟨0, 0, 0, none, 0, 0, [], 0, 0⟩, fun i h => by simp only [dif_pos h]; exact (each i h).choose_spec⟩
    refine ⟨some a, len, cap, (List.range len).map f, rfl, by simp, fun h0 => ?_⟩
    have h00 := (hf 0 h0).1
    obtain ⟨b, off, spot⟩ := a
    have hspot : spot = none := by simpa [Addr.add] using World.cell?_spot h00
    subst hspot
    have hlt := World.block_lt_of_cell? WW _ h00
    have ea : ∀ k : Nat, (⟨b, off, none⟩ : Addr).add k = ⟨b, off + k, none⟩ := fun k => by unfold Addr.add; split <;> simp_all
    refine ⟨b, off, rfl, by simpa [Addr.add] using hlt, fun i x hx => ?_⟩
    have hi : i < len := by
      rcases Nat.lt_or_ge i len with h | h
      · exact h
      · rw [List.getElem?_eq_none (by simpa using h)] at hx; cases hx
    have hxi : f i = x := by
      rw [List.getElem?_map, List.getElem?_range hi] at hx
      exact Option.some.inj hx
    subst hxi
    obtain ⟨q0, q1, q2, q3, q4, q5, q6, q7⟩ := hf i hi
    simp only [ea, ← Nat.add_assoc] at q0 q1 q2 q3 q4 q5
    exact ⟨q0, q1, q2, q3, q4, q5, q6, q7⟩
end
end Go.Proofs.Ythlhchaapdhbfaa
