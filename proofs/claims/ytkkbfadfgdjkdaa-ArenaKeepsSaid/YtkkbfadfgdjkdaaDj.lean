/- Package arena: tell, where nodes have pairs and faint ones. -/
import Derived.Test.YtkkbfadfgdjkdaaDi
import Derived.Test.YtkkbfadfgdjkdaaAl
namespace Go.Proofs.Ytkkbfadfgdjkdaa
open Go Go.RowKit

/-- The tables behind i cells of tell. -/
def toldB (d : AD) (M : List Bool) (i nb : Nat) : Bool := (List.range i).any fun j => (d.cells[j]? == some (some nb)) && !deadB d M ((j : Int) + 1)
def tellT (d : AD) (M : List Bool) (tab : Nat → List (Int × Int)) (i : Nat) : Nat → List (Int × Int) := fun nb => if toldB d M i nb = true then (tab nb).filter (fun p => !deadB d M p.1) else tab nb
theorem toldB_succ (d : AD) (M : List Bool) (i nb : Nat) : toldB d M (i + 1) nb = (toldB d M i nb || ((d.cells[i]? == some (some nb)) && !deadB d M ((i : Int) + 1))) := by
  unfold toldB
  rw [List.range_succ, List.any_append]
  simp
theorem tellT_zero (d : AD) (M : List Bool) (tab : Nat → List (Int × Int)) : tellT d M tab 0 = tab := by
  funext nb
  rfl
theorem tellT_no {d : AD} {M : List Bool} {tab : Nat → List (Int × Int)} {i : Nat} (h : ∀ nb, d.cells[i]? = some (some nb) → deadB d M ((i : Int) + 1) = true) : tellT d M tab (i + 1) = tellT d M tab i := by
  funext nb
  unfold tellT
  rw [toldB_succ]
  by_cases e : d.cells[i]? = some (some nb)
  · rw [h nb e]; simp
  · have : (d.cells[i]? == some (some nb)) = false := beq_eq_false_iff_ne.2 e
    rw [this]; simp
theorem tellT_other {d : AD} {M : List Bool} {tab : Nat → List (Int × Int)} {i nb nb' : Nat} (h : d.cells[i]? = some (some nb)) (hne : nb' ≠ nb) : tellT d M tab (i + 1) nb' = tellT d M tab i nb' := by
  unfold tellT
  rw [toldB_succ]
  have : (d.cells[i]? == some (some nb')) = false := beq_eq_false_iff_ne.2 (fun e => by
    rw [h] at e
    injection e with e
    injection e with e
    exact hne e.symm)
  rw [this]; simp
theorem tellT_same {d : AD} {M : List Bool} {tab : Nat → List (Int × Int)} {i nb : Nat} (h : d.cells[i]? = some (some nb)) (hd : deadB d M ((i : Int) + 1) = false) : tellT d M tab (i + 1) nb = (tellT d M tab i nb).filter (fun p => !deadB d M p.1) := by
  unfold tellT
  rw [toldB_succ, h, hd]
  simp only [beq_self_eq_true, Bool.not_false, Bool.and_self, Bool.or_true, if_true]
  split
  · rw [List.filter_filter]
    simp
  · rfl
theorem tellT_mem {d : AD} {M : List Bool} {tab : Nat → List (Int × Int)} {i nb : Nat} {p : Int × Int} (h : p ∈ tellT d M tab i nb) : p ∈ tab nb := by
  unfold tellT at h
  split at h
  · exact (List.mem_filter.1 h).1
  · exact h
theorem stay_all (D : Int → Bool) (l : List (Int × Int)) (n : Nat) (h : l.length = n) : stayL D l n = l.filter fun p => !D p.1 := by
  unfold stayL
  rw [List.take_of_length_le (by omega)]
theorem tab_row {w : World} {B : Nat} {tv : Value} {l : List (Int × Int)} (h : w.ownsRow B 32 2 tv l.length (flat2 l)) : ∃ ta ct, tv = .slice ta l.length ct ∧ TabIs w ta l.length l := by
  obtain ⟨ao, cap, rfl, hcap, hg, hmx⟩ := slice_own h
  refine ⟨ao, cap, rfl, rfl, fun hn => ?_⟩
  obtain ⟨g, rfl⟩ := hg hn
  refine ⟨g, 0, rfl, (own_lt h g rfl).2, fun i x hi => ?_⟩
  have hil := (List.getElem?_eq_some_iff.1 hi).1
  have key : ∀ (l : List (Int × Int)) (i : Nat) (x : Int × Int), l[i]? = some x → (flat2 l)[i * 2]? = some (.int .i64 x.1) ∧ (flat2 l)[i * 2 + 1]? = some (.int .i64 x.2) := by
    intro l
    induction l with
    | nil => intro i x hi; simp at hi
    | cons y l ih =>
      intro i x hi
      have e : flat2 (y :: l) = .int .i64 y.1 :: .int .i64 y.2 :: flat2 l := rfl
      cases i with
      | zero =>
        have : y = x := by simpa using hi
        subst this
        exact ⟨rfl, rfl⟩
      | succ i =>
        have h2 := ih i x (by simpa using hi)
        rw [e, show (i + 1) * 2 = i * 2 + 1 + 1 by omega]
        exact ⟨by simpa using h2.1, by simpa using h2.2⟩
  have hk := key l i x hi
  exact ⟨by rw [Nat.zero_add, h.cellAt (i * 2) (by omega)]; exact hk.1, by rw [Nat.zero_add, h.cellAt (i * 2 + 1) (by omega)]; exact hk.2⟩
abbrev NodeS (d : AD) (k : Nat) : Prop := ∃ i : Nat, d.cells[i]? = some (some k)
theorem own_monoZ {w : World} {B n size : Nat} {v : Value} {xs : List Value} {e : TypeId} (h : w.ownsRow B e size v n xs) : w.ownsRow 0 e size v n xs := by
  obtain ⟨h1, h2⟩ := h
  refine ⟨h1, ?_⟩
  rcases h2 with h2 | ⟨g, cap, cur, h3, h4, h5⟩
  · exact .inl h2
  · exact .inr ⟨g, cap, cur, h3, Nat.zero_le _, h5⟩
/-- What Drop leaves of a node. -/
theorem NodeT.dropped {w w' : World} {nb N : Nat} {X : Nat → Prop} {L : List Int} {T T' : List (Int × Int)} {en : Int} {a ta : Option Addr} {na ca nt ct : Nat} {fv tv : Value} (h : NodeT w nb L T en N X a na ca ta nt ct fv) (hN : N ≤ w.heap.size) (hX : ∀ j, X j → j < w.heap.size) (ht : Touch (fun k => k = nb) w w') (hb : Box w' nb 30 #[.slice a na ca, tv, fv, .int .i64 en])
    (hr : w'.ownsRow w.heap.size 32 2 tv T'.length (flat2 T')) (hT : T'.length ≤ 1000000) (hs : ∀ p ∈ T', p ∈ T) : ∃ ta' ct', tv = .slice ta' T'.length ct' ∧ NodeT w' nb L T' en w'.heap.size X a na ca ta' T'.length ct' fv := by
  obtain ⟨ta', ct', rfl, htb⟩ := tab_row hr
  have hne : ∀ b, InRow a b ∨ InRow ta b ∨ fv.ownBlock = some b → ¬ b = nb := fun b hb2 e => by
    obtain ⟨q1, q2, e2, q3, q4⟩ := h.rlow b hb2
    exact q3.ne h.box.lab q4 e
  have hsz := ht.size
  have hlo := h.low
  refine ⟨ta', ct', rfl, hb, h.ints.touch ht (fun b o e => hne b (.inl ⟨o, e⟩)), htb, h.small, hT, fun p hp => h.wf p (hs p hp), by omega, fun b hb2 => ?_, h.faint.touch ht (fun k hk => hne k (.inr (.inr hk)))⟩
  rcases hb2 with hb2 | ⟨o, hb2⟩ | hb2
  · obtain ⟨q1, q2, e, q3, q4⟩ := h.rlow b (.inl hb2)
    exact ⟨by omega, q2, e, q3.touch ht (hne b (.inl hb2)), q4⟩
  · have hob : (Value.slice ta' T'.length ct').ownBlock = some b := by
      obtain ⟨ao, cap, e, _, hg, _⟩ := slice_own hr
      rcases hr.2 with ⟨e1, _⟩ | ⟨g, cap2, cur, e1, _⟩
      · injection e1 with e1
        rw [e1] at hb2
        cases hb2
      · injection e1 with e1
        rw [e1] at hb2 ⊢
        injection hb2 with hb2
        injection hb2 with hb2
        rw [← hb2]
        rfl
    have h1 := own_lt hr b hob
    exact ⟨h1.2, fun hx => by have := hX b hx; omega, _, own_lab hr b hob, by decide⟩
  · obtain ⟨q1, q2, e, q3, q4⟩ := h.rlow b (.inr (.inr hb2))
    exact ⟨by omega, q2, e, q3.touch ht (hne b (.inr (.inr hb2))), q4⟩
/-- What Clear leaves of a node. -/
theorem NodeT.cleared {w w' : World} {nb N : Nat} {X : Nat → Prop} {L : List Int} {T : List (Int × Int)} {en : Int} {a ta : Option Addr} {na ca nt ct : Nat} {fv fv' : Value} (h : NodeT w nb L T en N X a na ca ta nt ct fv) (hN : N ≤ w.heap.size) (hX : ∀ j, X j → j < w.heap.size) (ht : Touch (fun k => k = nb) w w') (hb : Box w' nb 30 #[.slice a na ca, .slice ta nt ct, fv', .int .i64 en])
    (hf : FaintAt w' fv') (hn : ∀ b, fv'.ownBlock = some b → w.heap.size ≤ b ∧ b < w'.heap.size ∧ Lab w' b 3) : NodeT w' nb L T en w'.heap.size X a na ca ta nt ct fv' := by
  have hne : ∀ b, InRow a b ∨ InRow ta b ∨ fv.ownBlock = some b → ¬ b = nb := fun b hb2 e => by
    obtain ⟨q1, q2, e2, q3, q4⟩ := h.rlow b hb2
    exact q3.ne h.box.lab q4 e
  have hsz := ht.size
  have hlo := h.low
  refine ⟨hb, h.ints.touch ht (fun b o e => hne b (.inl ⟨o, e⟩)), h.tab.touch ht (fun b hb2 => hne b (.inr (.inl hb2))), h.small, h.smallT, h.wf, by omega, fun b hb2 => ?_, hf⟩
  have old : InRow a b ∨ InRow ta b → b < w'.heap.size ∧ ¬ X b ∧ ∃ e, Lab w' b e ∧ e ≠ 30 := fun hb3 => by
    have hb4 : InRow a b ∨ InRow ta b ∨ fv.ownBlock = some b := hb3.imp id .inl
    obtain ⟨q1, q2, e, q3, q4⟩ := h.rlow b hb4
    exact ⟨by omega, q2, e, q3.touch ht (hne b hb4), q4⟩
  rcases hb2 with hb2 | hb2 | hb2
  · exact old (.inl hb2)
  · exact old (.inr hb2)
  · obtain ⟨q1, q2, q3⟩ := hn b hb2
    exact ⟨q2, fun hx => by have := hX b hx; omega, _, q3, by decide⟩
theorem NodeT.bigger {w : World} {nb N N' : Nat} {X : Nat → Prop} {L : List Int} {T : List (Int × Int)} {en : Int} {a ta : Option Addr} {na ca nt ct : Nat} {fv : Value} (h : NodeT w nb L T en N X a na ca ta nt ct fv) (hN : N ≤ N') : NodeT w nb L T en N' X a na ca ta nt ct fv :=
  ⟨h.box, h.ints, h.tab, h.small, h.smallT, h.wf, Nat.lt_of_lt_of_le h.low hN, fun b hb => by
    obtain ⟨q1, q2, q3⟩ := h.rlow b hb
    exact ⟨Nat.lt_of_lt_of_le q1 hN, q2, q3⟩, h.faint⟩
/-- A node beside the one that was written. -/
theorem NodeT.beside {w w' : World} {nb nb' : Nat} {cs : Array Value} {X : Nat → Prop} {L : List Int} {T : List (Int × Int)} {en : Int} {a ta : Option Addr} {na ca nt ct : Nat} {fv : Value} (h : NodeT w nb' L T en w.heap.size X a na ca ta nt ct fv) (hb : Box w nb 30 cs) (hne : nb' ≠ nb) (ht : Touch (fun k => k = nb) w w') : NodeT w' nb' L T en w'.heap.size X a na ca ta nt ct fv :=
  (h.touch ht hne (fun b hb2 e => by
    obtain ⟨q1, q2, e2, q3, q4⟩ := h.rlow b hb2
    exact q3.ne hb.lab q4 e)).bigger ht.size
set_option maxRecDepth 100000 in
/-- Clear at a node. -/
theorem clear_w {w : World} {nb m N : Nat} {X : Nat → Prop} {L : List Int} {T : List (Int × Int)} {en : Int} {a ta : Option Addr} {na ca nt ct : Nat} {fv : Value} (Dd : Int → Bool) (h : NodeT w nb L T en N X a na ca ta nt ct fv) (hN : N ≤ w.heap.size) (hX : ∀ j, X j → j < w.heap.size)
    (hD : ∀ (k : Int) w', Touch (fun b => b = nb) w w' → Calls Try.prog 29 #[.pointer (some ⟨m, 0, none⟩), .int .i64 k] w' fun e w9 => e = .returned (.bool (Dd k)) ∧ w9 = w') :
    Calls Try.prog 22 #[.pointer (some ⟨nb, 0, none⟩), deadV m] w fun e w' => e = .returned (.tuple #[]) ∧ Touch (fun k => k = nb) w w' ∧ ∃ fv', NodeT w' nb L T en w'.heap.size X a na ca ta nt ct fv' := by
  rcases h.faint with hf | ⟨g, cap, F, hf, h2, h3⟩
  · have hbx := h.box
    rw [hf] at hbx
    refine (clear_plain nb (deadV m) _ _ _ w hbx).mono ?_
    rintro e w' ⟨rfl, rfl⟩
    exact ⟨rfl, Touch.refl _ _, fv, h.bigger hN⟩
  · subst hf
    refine (clear_any nb m g cap 0 Dd F h2 _ _ _ w h.box h3 hD).mono ?_
    rintro e w' ⟨rfl, g', cap', ht, hb, ho⟩
    have hl := clrL_len Dd F F.length
    refine ⟨rfl, ht, _, h.cleared hN hX ht hb (.inr ⟨g', cap', clrL Dd F F.length, by rw [hl], by omega, ?_⟩) (fun b hb2 => ?_)⟩
    · rw [hl]
      exact own_monoZ ho
    · have := own_lt ho b hb2
      exact ⟨this.1, this.2, own_lab ho b hb2⟩
end Go.Proofs.Ytkkbfadfgdjkdaa
