/- Package arena: bodies that are only followed; the marks. -/
import Derived.Test.YtbeapojjbgkalaaGreatDoorAe
namespace Go.Proofs.YtbeapojjbgkalaaGreatDoor
open Go Go.RowKit
attribute [local go_sem] Oper.semAt_some

theorem prefix_snoc {α : Type} (l : List α) (k : Nat) (x : α) (h : l[k]? = some x) : l.take (k + 1) = l.take k ++ [x] := by rw [List.take_add_one, h]; rfl
/-- A body of no further kind. -/
structure PlB (b : Bd) : Prop where
  noP : ∀ W, (Instr.typeAssert (nodeV b) 87 141 true).run Tryz.prog W = .ok (.tuple #[.nilIface, .bool false]) W
  noW : ∀ W, (Instr.typeAssert (nodeV b) 87 144 true).run Tryz.prog W = .ok (.tuple #[.nilIface, .bool false]) W
  noG : ∀ W, (Instr.typeAssert (nodeV b) 87 148 true).run Tryz.prog W = .ok (.tuple #[.nilIface, .bool false]) W
/-- What a body's Each goes over, as long as what lies below N stays. -/
def FolB (N : Nat) (W0 : World) (b : Bd) (L : List Int) : Prop := ∃ (gf : Nat) (F : Nat → Prop), (∀ j, F j → j < N) ∧
  (∀ l W, (invoke (.fn (.method "Each") #[]) #[nodeV b, .func (.yield l) #[] #[]]).run Tryz.prog W = .ok (.enter gf (#[.pointer (some ⟨b.2, 0, none⟩)] ++ #[.func (.yield l) #[] #[]] ++ #[])) W) ∧
  ∀ W, Below N W0 W → ReadStops 5 Tryz.prog gf #[.pointer (some ⟨b.2, 0, none⟩)] #[] (fun x : Int => #[.int .i64 x]) F (fun xs => xs = L) (fun pre => pre <+: L) W
theorem FolB.on {N : Nat} {W0 W1 : World} {b : Bd} {L : List Int} (h : FolB N W0 b L) (hb : Below N W0 W1) : FolB N W1 b L := by
  obtain ⟨gf, F, h1, h2, h3⟩ := h
  exact ⟨gf, F, h1, h2, fun W hW => h3 W (hb.trans hW)⟩
/-- A state of the marks is sound in itself. -/
structure MGood (d : AD) (st : List Bool × List Nat) : Prop where
  len : st.1.length = d.cells.length
  nd : st.2.Nodup
  on : ∀ k ∈ st.2, st.1[k]? = some true
theorem filter_one (n : Nat) : ∀ (l : List Nat), l.Nodup → l.length ≤ (l.filter fun k => decide (k ≠ n)).length + 1
  | [], _ => Nat.zero_le _
  | x :: l, h => by
    rw [List.nodup_cons] at h
    by_cases e : x = n
    · have hf : (l.filter fun k => decide (k ≠ n)) = l := List.filter_eq_self.2 (fun k hk => by
        simp only [ne_eq, decide_not, Bool.not_eq_true', decide_eq_false_iff_not]
        rintro rfl
        exact h.1 (by rw [e]; exact hk))
      rw [List.filter_cons_of_neg (by simp [e]), hf]
      simp
    · have := filter_one n l h.2
      rw [List.filter_cons_of_pos (by simp [e]), List.length_cons, List.length_cons]
      omega
theorem nodup_len : ∀ (n : Nat) (l : List Nat), l.Nodup → (∀ k ∈ l, k < n) → l.length ≤ n
  | 0, l, _, hl => by
    cases l with
    | nil => exact Nat.le_refl _
    | cons x l => have := hl x (by simp); omega
  | n + 1, l, hn, hl => by
    have h1 := filter_one n l hn
    have h2 := nodup_len n (l.filter fun k => decide (k ≠ n)) (hn.filter _) (fun k hk => by
      have h3 := List.mem_filter.1 hk
      have h4 := hl k h3.1
      have h5 : k ≠ n := by simpa using h3.2
      omega)
    omega
theorem MGood.todo {d : AD} {st : List Bool × List Nat} (h : MGood d st) : st.2.length ≤ d.cells.length := nodup_len _ _ h.nd (fun k hk => by
  have := (List.getElem?_eq_some_iff.1 (h.on k hk)).1
  rw [h.len] at this
  exact this)
theorem MGood.mark {d : AD} {st : List Bool × List Nat} (h : MGood d st) (r : Int) : MGood d (markP d st r) := by
  unfold markP
  split
  · rename_i hd
    have hs : (d.get r).isSome = true := by
      unfold deadB at hd
      rw [Bool.and_eq_true] at hd
      exact hd.1
    have hf : st.1[(r - 1).toNat]?.getD false = false := by
      unfold deadB at hd
      rw [Bool.and_eq_true] at hd
      simpa using hd.2
    have hr := AD.get_some hs
    have hlt : (r - 1).toNat < st.1.length := by rw [h.len]; omega
    refine ⟨by rw [List.length_set]; exact h.len, ?_, ?_⟩
    · rw [List.nodup_append]
      refine ⟨h.nd, by simp, ?_⟩
      rintro a ha b hb rfl
      cases List.mem_singleton.1 hb
      rw [h.on _ ha] at hf
      cases hf
    · intro k hk
      by_cases e : (r - 1).toNat = k
      · rw [e, List.getElem?_set_self (by rw [← e]; exact hlt)]
      · rw [List.getElem?_set_ne e]
        rcases List.mem_append.1 hk with hk | hk
        · exact h.on k hk
        · exact absurd (List.mem_singleton.1 hk).symm e
  · exact h
theorem MGood.marks {d : AD} : ∀ {st : List Bool × List Nat}, MGood d st → ∀ (l : List Int), MGood d (l.foldl (markP d) st)
  | _, h, [] => h
  | _, h, r :: l => MGood.marks (h.mark r) l
/-- How the marks are while a node's references are gone over. -/
def FolI (N A m b0 : Nat) (mv : Value) (d : AD) (st : List Bool × List Nat) (W0 : World) (pre : List Int) (W : World) : Prop :=
  Below N W0 W ∧ Box W b0 108 #[.pointer (some ⟨m, 0, none⟩)] ∧ TM N W0 W ∧ ∃ tv, MkAt W N A m mv tv (pre.foldl (markP d) st).1 (pre.foldl (markP d) st).2
theorem loop_lab {B : Nat} {A : World} {k : Nat} {e : TypeId} (h : Lab A k e) : ¬ IsLoop B A k := by
  rintro ⟨-, o, h2⟩
  obtain ⟨cs, fr, h⟩ := h
  rw [h] at h2
  cases h2
theorem MkP.touchL {w w' : World} {N A m : Nat} {mv tv pv : Value} {M : List Bool} {todo : List Nat} {Bb : Nat} (h : MkP w N A m mv tv pv M todo) (ht : Touch (IsLoop Bb w) w w') : MkP w' N A m mv tv pv M todo :=
  ⟨h.box.touch ht (loop_lab h.box.lab), own_touch h.mo ht (fun k hk => loop_lab (own_lab h.mo k hk)), own_touch h.tq ht (fun k hk => loop_lab (own_lab h.tq k hk)), h.hm⟩
theorem MkP.cells' {w : World} {N A m : Nat} {mv tv pv : Value} {M : List Bool} {todo : List Nat} (h : MkP w N A m mv tv pv M todo) {k : Nat} (hk : MFoot m mv tv k) : CelO w k := by
  obtain ⟨e, he⟩ := MFoot.cells h hk
  exact .lab he
theorem FolI.touchL {N A m b0 Bb : Nat} {mv : Value} {d : AD} {st : List Bool × List Nat} {W0 : World} {pre : List Int} {W W' : World} (h : FolI N A m b0 mv d st W0 pre W) (hN : N ≤ Bb) (hW : N ≤ W0.heap.size) (ht : Touch (IsLoop Bb W) W W') : FolI N A m b0 mv d st W0 pre W' := by
  obtain ⟨h1, h2, h4, tv, h3⟩ := h
  exact ⟨h1.trans (ht.below (by have := h1.size; omega) (fun k hk => by have := hk.1; omega)), h2.touch ht (loop_lab h2.lab), h4.trans (TM.of ht (fun k hk => by have := hk.1; omega) (fun k hk hl => loop_lab hl hk)), tv, h3.touchL ht⟩
theorem MkP.touchN {S : Nat → Prop} {w w' : World} {N A m : Nat} {mv tv pv : Value} {M : List Bool} {todo : List Nat} (h : MkP w N A m mv tv pv M todo) (ht : Touch S w w') (hn : ∀ k e, Lab w k e → ¬ S k) : MkP w' N A m mv tv pv M todo :=
  ⟨h.box.touch ht (hn _ _ h.box.lab), own_touch h.mo ht (fun k hk => hn _ _ (own_lab h.mo k hk)), own_touch h.tq ht (fun k hk => hn _ _ (own_lab h.tq k hk)), h.hm⟩
theorem def_lab {w : World} {D : Nat} {x : Option (List Deferred)} (h : w.heap[D]? = some (.deferred x)) : ∀ k e, Lab w k e → ¬ k = D := by
  rintro k e ⟨cs, fr, h2⟩ rfl
  rw [h] at h2
  cases h2
theorem put_def (w : World) (D : Nat) (o : Obj) : Touch (fun k => k = D) w (w.putObj D o) := Touch.putObj (S := fun k => k = D) rfl o
end Go.Proofs.YtbeapojjbgkalaaGreatDoor
