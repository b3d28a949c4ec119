/- ArenaCircles: the nodes while they are linked: each has a row of its own. -/
import Derived.Test.YtkkbfadfgdjkdaaCa
namespace Go.Proofs.Ytkkbfadfgdjkdaa
open Go Go.RowKit

abbrev ptrV (nb : Nat) : Value := .pointer (some ⟨nb, 0, none⟩)
/-- The nodes and the list of them; rows and tos by a node's block. -/
structure Cir (B A lb n : Nat) (nbs : List Nat) (rows : Nat → Value) (tos : Nat → List Int) (cv fv rv : Value) (w : World) : Prop where
  ar : ArAt w B A cv fv rv (dN nbs [])
  nod : ∀ nb, nb ∈ nbs → B ≤ nb ∧ Box w nb 30 #[rows nb, .slice none 0 0, .slice none 0 0, .int .i64 0] ∧ w.ownsRow B 3 1 (rows nb) (tos nb).length (intsV (tos nb)) ∧ ∀ b, (rows nb).ownBlock = some b → ¬ AFoot A cv fv rv b
  rinj : ∀ nb nb' b, nb ∈ nbs → nb' ∈ nbs → (rows nb).ownBlock = some b → (rows nb').ownBlock = some b → nb = nb'
  lbx : ∃ cs : Array Value, Box w lb 27 cs ∧ cs.size = n ∧ ∀ (i nb : Nat), nbs[i]? = some nb → cs[i]? = some (ptrV nb)
  lb0 : B ≤ lb
section
variable {B A lb n : Nat} {nbs : List Nat} {rows : Nat → Value} {tos : Nat → List Int} {cv fv rv : Value} {w w' : World}
/-- A change that hits none of the blocks. -/
theorem Cir.touch (h : Cir B A lb n nbs rows tos cv fv rv w) {S : Nat → Prop} (ht : Touch S w w') (hA : ∀ k, AFoot A cv fv rv k → ¬ S k) (hN : ∀ nb ∈ nbs, ¬ S nb) (hR : ∀ nb ∈ nbs, ∀ b, (rows nb).ownBlock = some b → ¬ S b) (hL : ¬ S lb) : Cir B A lb n nbs rows tos cv fv rv w' := by
  obtain ⟨cs, h1, h2, h3⟩ := h.lbx
  refine ⟨h.ar.touch ht hA, fun nb hm => ?_, h.rinj, ⟨cs, h1.touch ht hL, h2, h3⟩, h.lb0⟩
  obtain ⟨n1, n2, n3, n4⟩ := h.nod nb hm
  exact ⟨n1, n2.touch ht (hN nb hm), own_touch n3 ht (hR nb hm), n4⟩
theorem Cir.on (h : Cir B A lb n nbs rows tos cv fv rv w) (hb : Below w.heap.size w w') : Cir B A lb n nbs rows tos cv fv rv w' :=
  h.touch (Touch.of_below (S := fun _ => False) hb) (fun _ _ h => h) (fun _ _ h => h) (fun _ _ _ _ h => h) (fun h => h)
/-- A new node: it is in the list and has a cell. -/
theorem Cir.add (h : Cir B A lb n nbs rows tos cv fv rv w) (hk : nbs.length < n) (hn : n ≤ 12) (hr : rows w.heap.size = .slice none 0 0) (ht : tos w.heap.size = []) :
    Calls Try.prog 10 #[.pointer (some ⟨A, 0, none⟩), nodeV w.heap.size] ((w.alloc (.cells #[.slice none 0 0, .slice none 0 0, .slice none 0 0, .int .i64 0] 30)).setCell ⟨lb, nbs.length, none⟩ (ptrV w.heap.size)) fun e w' => (∃ v, e = .returned v) ∧ Below B w w' ∧ ∃ cv' fv' rv', Cir B A lb n (nbs ++ [w.heap.size]) rows tos cv' fv' rv' w' := by
  have bb : Below w.heap.size w (w.alloc (.cells #[.slice none 0 0, .slice none 0 0, .slice none 0 0, .int .i64 0] 30)) := (Below.refl _ _).alloc (Nat.le_refl _) _
  have bx := Box.new w 30 #[.slice none 0 0, .slice none 0 0, .slice none 0 0, .int .i64 0]
  have h1 := h.on bb
  have hBw : B ≤ w.heap.size := by have := h.ar.ha; have := h.ar.box.lt; omega
  obtain ⟨nb, hnb⟩ : ∃ nb, w.heap.size = nb := ⟨_, rfl⟩
  rw [hnb] at bx bb hr ht hBw ⊢
  generalize w.alloc (.cells #[.slice none 0 0, .slice none 0 0, .slice none 0 0, .int .i64 0] 30) = w1 at bb bx h1 ⊢
  have tp : Touch (fun k => k = lb) w1 (w1.setCell ⟨lb, nbs.length, none⟩ (ptrV nb)) := Touch.put (S := fun k => k = lb) rfl _ _
  obtain ⟨cs, c1, c2, c3⟩ := h1.lbx
  have c1' := c1.put nbs.length (ptrV nb)
  have hA2 : ∀ k, AFoot A cv fv rv k → ¬ k = lb := fun k hk e => AFoot.lab h1.ar c1.lab (by decide) (by decide) (by decide) (e ▸ hk)
  have ar2 := h1.ar.touch tp hA2
  have bx2 := bx.touch tp (fun e => bx.lab.ne c1.lab (by decide) e)
  have hbw2 : Below B w (w1.setCell ⟨lb, nbs.length, none⟩ (ptrV nb)) := (bb.mono hBw).setCell (p := ⟨lb, nbs.length, none⟩) h.lb0 _
  have n2 : ∀ m, m ∈ nbs → B ≤ m ∧ Box (w1.setCell ⟨lb, nbs.length, none⟩ (ptrV nb)) m 30 #[rows m, .slice none 0 0, .slice none 0 0, .int .i64 0] ∧ (w1.setCell ⟨lb, nbs.length, none⟩ (ptrV nb)).ownsRow B 3 1 (rows m) (tos m).length (intsV (tos m)) ∧ ∀ b, (rows m).ownBlock = some b → ¬ AFoot A cv fv rv b := fun m hm => by
    obtain ⟨a1, a2, a3, a4⟩ := h1.nod m hm
    exact ⟨a1, a2.touch tp (fun e => a2.lab.ne c1.lab (by decide) e), own_touch a3 tp (fun k hk e => (own_lab a3 k hk).ne c1.lab (by decide) e), a4⟩
  have hri := h.rinj
  have hl0 := h.lb0
  clear h h1 c1 bb tp
  generalize w1.setCell ⟨lb, nbs.length, none⟩ (ptrV nb) = w2 at c1' ar2 bx2 hbw2 n2 ⊢
  refine (make_new B A cv fv rv (dN nbs []) nb w2 ar2 rfl (by show nbs.length < 4194304; omega) (by show (nbs.map some).length < 1000000; rw [List.length_map]; omega)).mono ?_
  rintro e w3 ⟨rfl, cv', fv', rv', p1, p2, p3⟩
  rw [dN_mk2] at p1
  have hA0 : B ≤ w2.heap.size := by have := ar2.ha; have := ar2.box.lt; omega
  refine ⟨⟨_, rfl⟩, hbw2.trans (p2.below hA0 (fun k hk => (AFoot.lt ar2 hk).1)), cv', fv', rv', p1, fun m hm => ?_, fun m m' b hm hm' e1 e2 => ?_, ⟨_, c1'.touch p2 (fun hk => hA2 lb hk rfl), ?_, ?_⟩, hl0⟩
  · rcases List.mem_append.1 hm with hm | hm
    · obtain ⟨a1, a2, a3, a4⟩ := n2 m hm
      refine ⟨a1, a2.touch p2 (AFoot.lab ar2 a2.lab (by decide) (by decide) (by decide)), own_touch a3 p2 a4, fun b hb hf => ?_⟩
      rcases p3 b hf with h9 | h9
      · exact a4 b hb h9
      · have := (own_lt a3 b hb).2
        omega
    · obtain rfl : m = nb := by simpa using hm
      rw [hr, ht]
      exact ⟨hBw, bx2.touch p2 (AFoot.lab ar2 bx2.lab (by decide) (by decide) (by decide)), ⟨rfl, .inl ⟨rfl, rfl⟩⟩, fun b hb => by cases hb⟩
  · rcases List.mem_append.1 hm with hm | hm
    · rcases List.mem_append.1 hm' with hm' | hm'
      · exact hri m m' b hm hm' e1 e2
      · obtain rfl : m' = nb := by simpa using hm'
        rw [hr] at e2
        cases e2
    · obtain rfl : m = nb := by simpa using hm
      rw [hr] at e1
      cases e1
  · rw [Array.size_setIfInBounds, c2]
  · intro i m hi
    rcases Nat.lt_or_ge i nbs.length with hlt | hge
    · rw [List.getElem?_append_left hlt] at hi
      rw [Array.getElem?_setIfInBounds_ne (by omega)]
      exact c3 i m hi
    · have hi0 : i = nbs.length := by
        have := (List.getElem?_eq_some_iff.1 hi).1
        rw [List.length_append] at this
        simp at this
        omega
      subst hi0
      rw [List.getElem?_append_right (Nat.le_refl _), Nat.sub_self] at hi
      have : nb = m := by simpa using hi
      subst this
      rw [Array.getElem?_setIfInBounds_self_of_lt (by omega)]
/-- A link more at one node. -/
theorem Cir.app (h : Cir B A lb n nbs rows tos cv fv rv w) {nb : Nat} (hm0 : nb ∈ nbs) {w2 w3 : World} {r cap : Nat} {v : Int} (hb : Below w.heap.size w w2)
    (ho : w3.ownsRow B 3 1 (.slice (some ⟨r, 0, none⟩) ((tos nb).length + 1) cap) ((tos nb).length + 1) (intsV (tos nb) ++ [.int .i64 v])) (hg : (w2.alloc (.cells #[.int .i64 v] 3)).grownBy w3 (rows nb).ownBlock) (hr : (rows nb).ownBlock = some r ∨ r = (w2.alloc (.cells #[.int .i64 v] 3)).heap.size) :
    Below B w (w3.setCell ⟨nb, 0, none⟩ (.slice (some ⟨r, 0, none⟩) ((tos nb).length + 1) cap)) ∧
    Cir B A lb n nbs (fun b => if b = nb then .slice (some ⟨r, 0, none⟩) ((tos nb).length + 1) cap else rows b) (fun b => if b = nb then tos nb ++ [v] else tos b) cv fv rv (w3.setCell ⟨nb, 0, none⟩ (.slice (some ⟨r, 0, none⟩) ((tos nb).length + 1) cap)) := by
  have hBw : B ≤ w.heap.size := by have := h.ar.ha; have := h.ar.box.lt; omega
  have hsz : w.heap.size ≤ w2.heap.size := hb.size
  have ht1 : Touch (fun b => (rows nb).ownBlock = some b) w w3 := (Touch.of_below (hb.alloc hb.size _)).trans (Touch.of_grown hg (fun b hb => hb))
  obtain ⟨z1, z2, z3, z4⟩ := h.nod nb hm0
  obtain ⟨cs, c1, c2, c3⟩ := h.lbx
  have hint : ∀ b, (rows nb).ownBlock = some b → Lab w b 3 := own_lab z3
  have hfresh : ∀ b, (Value.slice (some ⟨r, 0, none⟩) ((tos nb).length + 1) cap).ownBlock = some b → (rows nb).ownBlock = some b ∨ w.heap.size ≤ b := fun b hb9 => by
    injection hb9 with hb9
    have hb9 : r = b := hb9
    subst hb9
    rcases hr with h9 | h9
    · exact .inl h9
    · rw [World.size_alloc] at h9
      exact .inr (by omega)
  have h3 : ∀ m, m ∈ nbs → Box w3 m 30 #[rows m, .slice none 0 0, .slice none 0 0, .int .i64 0] := fun m hm => by
    obtain ⟨a1, a2, a3, a4⟩ := h.nod m hm
    exact a2.touch ht1 (fun e => (hint m e).ne a2.lab (by decide) rfl)
  have ar3 := h.ar.touch ht1 (fun k hk e => z4 k e hk)
  have c13 := c1.touch ht1 (fun e => (hint lb e).ne c1.lab (by decide) rfl)
  have tp : Touch (fun k => k = nb) w3 (w3.setCell ⟨nb, 0, none⟩ (.slice (some ⟨r, 0, none⟩) ((tos nb).length + 1) cap)) := Touch.put (S := fun k => k = nb) rfl _ _
  have b3 := h3 nb hm0
  have hb3 : Below B w w3 := ht1.below hBw (fun k hk => (own_lt z3 k hk).1)
  refine ⟨hb3.setCell (p := ⟨nb, 0, none⟩) z1 _, ar3.touch tp (fun k hk e => AFoot.lab ar3 b3.lab (by decide) (by decide) (by decide) (e ▸ hk)), fun m hm => ?_, fun m m' b hm hm' e1 e2 => ?_, ⟨cs, c13.touch tp (fun e => c13.lab.ne b3.lab (by decide) e), c2, c3⟩, h.lb0⟩
  · obtain ⟨a1, a2, a3, a4⟩ := h.nod m hm
    by_cases e : m = nb
    · subst e
      simp only [if_true]
      refine ⟨a1, b3.put 0 _, ?_, fun b hb9 hf => ?_⟩
      · have ho' := own_touch ho tp (fun k hk e => (own_lab ho k hk).ne b3.lab (by decide) e)
        have e9 : intsV (tos m ++ [v]) = intsV (tos m) ++ [.int .i64 v] := List.map_append
        rw [e9, List.length_append]
        exact ho'
      · rcases hfresh b hb9 with h9 | h9
        · exact z4 b h9 hf
        · have := (AFoot.lt h.ar hf).2
          omega
    · simp only [if_neg e]
      refine ⟨a1, (h3 m hm).touch tp e, ?_, a4⟩
      have a3' := own_touch a3 ht1 (fun b hb9 e9 => e (h.rinj m nb b hm hm0 hb9 e9))
      exact own_touch a3' tp (fun b hb9 e9 => (own_lab a3' b hb9).ne b3.lab (by decide) e9)
  · by_cases e : m = nb
    · by_cases e' : m' = nb
      · rw [e, e']
      · exfalso
        rw [if_pos e] at e1
        rw [if_neg e'] at e2
        rcases hfresh b e1 with h9 | h9
        · exact e' (h.rinj m' nb b hm' hm0 e2 h9)
        · obtain ⟨a1, a2, a3, a4⟩ := h.nod m' hm'
          have := (own_lt a3 b e2).2
          omega
    · by_cases e' : m' = nb
      · exfalso
        rw [if_neg e] at e1
        rw [if_pos e'] at e2
        rcases hfresh b e2 with h9 | h9
        · exact e (h.rinj m nb b hm hm0 e1 h9)
        · obtain ⟨a1, a2, a3, a4⟩ := h.nod m hm
          have := (own_lt a3 b e1).2
          omega
      · rw [if_neg e] at e1
        rw [if_neg e'] at e2
        exact h.rinj m m' b hm hm' e1 e2
/-- What Collect wants. -/
theorem Cir.sys (h : Cir B A lb n nbs rows tos cv fv rv w) (hl : ∀ nb ∈ nbs, (tos nb).length ≤ 1000000) : Sys B A (dN nbs []) tos noEn cv fv rv w := by
  refine ⟨h.ar, fun k nb hk => ?_, fun k nb hk => ?_⟩
  · have hm : nb ∈ nbs := by
      have := List.mem_of_getElem? hk
      simpa using this
    obtain ⟨a1, a2, a3, a4⟩ := h.nod nb hm
    have hl1 := hl nb hm
    obtain ⟨ao, cap, e, hcap, hg, -⟩ := slice_own a3
    rw [e] at a2 a3 a4
    refine ⟨ao, (tos nb).length, cap, a2, ⟨rfl, fun hp => ?_⟩, hl1, a2.lt, ?_, ?_⟩
    · obtain ⟨g, rfl⟩ := hg hp
      refine ⟨g, 0, rfl, (own_lt a3 g rfl).2, own_lab a3 g rfl, fun i hi => ?_⟩
      rw [Nat.zero_add, a3.cellAt i (by omega), List.getElem?_map, List.getElem?_eq_getElem (by omega)]
      rfl
    · intro b ⟨o, ho⟩
      subst ho
      exact (own_lt a3 b rfl).2
    · intro b ⟨o, ho⟩
      subst ho
      exact a4 b rfl
  · have hm : nb ∈ nbs := by
      have := List.mem_of_getElem? hk
      simpa using this
    exact (h.nod nb hm).1
end
end Go.Proofs.Ytkkbfadfgdjkdaa
