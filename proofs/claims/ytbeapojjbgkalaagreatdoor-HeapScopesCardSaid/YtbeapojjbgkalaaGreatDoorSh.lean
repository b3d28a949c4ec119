/- Package arena: sweep, bodies that are only followed: what it keeps. -/
import Derived.Test.YtbeapojjbgkalaaGreatDoorSg
import Derived.Test.YtbeapojjbgkalaaGreatDoorIj
namespace Go.Proofs.YtbeapojjbgkalaaGreatDoor
open Go Go.RowKit

/-- The numbers of the dead among the first k cells; their nodes. -/
def frL (d : AD) (M : List Bool) (k : Nat) : List Nat := ((List.range k).filter fun (i : Nat) => deadB d M ((i : Int) + 1)).map (· + 1)
theorem frL_no {d : AD} {M : List Bool} {k : Nat} (h : deadB d M ((k : Int) + 1) = false) : frL d M (k + 1) = frL d M k := by
  unfold frL
  rw [List.range_succ, List.filter_append]
  simp [h]
theorem frL_yes {d : AD} {M : List Bool} {k : Nat} (h : deadB d M ((k : Int) + 1) = true) : frL d M (k + 1) = frL d M k ++ [k + 1] := by
  unfold frL
  rw [List.range_succ, List.filter_append]
  simp [h]
theorem frL_len (d : AD) (M : List Bool) : ∀ k, (frL d M k).length ≤ k
  | 0 => Nat.le_refl _
  | k + 1 => by
    have := frL_len d M k
    cases h : deadB d M ((k : Int) + 1) with
    | false => rw [frL_no h]; omega
    | true => rw [frL_yes h, List.length_append]; simp; omega
theorem frL_mem {d : AD} {M : List Bool} {k r : Nat} (h : r ∈ frL d M k) : ∃ i, i < k ∧ r = i + 1 ∧ deadB d M ((i : Int) + 1) = true := by
  unfold frL at h
  obtain ⟨i, hi, rfl⟩ := List.mem_map.1 h
  have := List.mem_filter.1 hi
  exact ⟨i, List.mem_range.1 this.1, rfl, by simpa using this.2⟩
/-- A dead cell has a node. -/
theorem dead_node {d : AD} {M : List Bool} {k : Nat} (h : deadB d M ((k : Int) + 1) = true) : ∃ nb, d.cells[k]? = some (some nb) := by
  unfold deadB at h
  rw [Bool.and_eq_true] at h
  have h1 := h.1
  unfold AD.get at h1
  split at h1
  · rw [show ((k : Int) + 1 - 1).toNat = k by omega] at h1
    cases hc : d.cells[k]? with
    | none => rw [hc] at h1; cases h1
    | some o =>
      cases o with
      | none => rw [hc] at h1; cases h1
      | some nb => exact ⟨nb, rfl⟩
  · cases h1
/-- Cells whose numbers are in a list are empty. -/
def clearC (cells : List (Option Bd)) (l : List Nat) : List (Option Bd) := l.foldl (fun c r => c.set (r - 1) none) cells
theorem clearC_snoc (cells : List (Option Bd)) (l : List Nat) (r : Nat) : clearC cells (l ++ [r]) = (clearC cells l).set (r - 1) none := by
  unfold clearC
  rw [List.foldl_append]
  rfl
theorem clearC_len (cells : List (Option Bd)) : ∀ (l : List Nat), (clearC cells l).length = cells.length := by
  intro l
  induction l generalizing cells with
  | nil => rfl
  | cons r l ih =>
    show (clearC (cells.set (r - 1) none) l).length = _
    rw [ih, List.length_set]
/-- An arena behind the frees of a list. -/
def AD.freed (d : AD) (l : List Nat) : AD := { d with cells := clearC d.cells l, free := d.free ++ l }
theorem AD.freed_nil (d : AD) : d.freed [] = d := by
  unfold AD.freed clearC
  simp
def SwF (A : Nat) (cv fv : Value) (k : Nat) : Prop := k = A ∨ cv.ownBlock = some k ∨ fv.ownBlock = some k
/-- How an arena lies while its dead cells are freed. -/
def SwI (B A : Nat) (cv fv rv : Value) (d : AD) (W0 : World) (pre : List (Nat × Nat)) (W : World) : Prop :=
  ∃ fv', Touch (SwF A cv fv) W0 W ∧ ArAt W B A cv fv' rv (d.freed (pre.map (·.2))) ∧ ∀ k, fv'.ownBlock = some k → fv.ownBlock = some k ∨ W0.heap.size ≤ k
theorem ArAt.touchN {S : Nat → Prop} {w w' : World} {B A : Nat} {cv fv rv : Value} {d : AD} (h : ArAt w B A cv fv rv d) (ht : Touch S w w') (hn : ∀ k e, Lab w k e → ¬ S k) : ArAt w' B A cv fv rv d :=
  ⟨h.box.touch ht (hn _ _ h.box.lab), own_touch h.co ht (fun k hk => hn _ _ (own_lab h.co k hk)), own_touch h.fo ht (fun k hk => hn _ _ (own_lab h.fo k hk)), own_touch h.ro ht (fun k hk => hn _ _ (own_lab h.ro k hk)), h.ap, h.ha⟩
theorem Touch.later {S S' : Nat → Prop} {a w w' : World} (h : Touch S a w) (h2 : Touch S' w w') (hs : ∀ k, k < a.heap.size → S' k → S k) : Touch S a w' :=
  ⟨h2.os.trans h.os, h2.tape.trans h.tape, h2.output.trans h.output, Nat.le_trans h.size h2.size, fun k hk hn => (h2.block k (Nat.lt_of_lt_of_le hk h.size) (fun h3 => hn (hs k hk h3))).trans (h.block k hk hn)⟩
theorem SwI.touchL {B A : Nat} {cv fv rv : Value} {d : AD} {W0 : World} {pre : List (Nat × Nat)} {W W' : World} (h : SwI B A cv fv rv d W0 pre W) (ht : Touch (IsLoop W0.heap.size W) W W') : SwI B A cv fv rv d W0 pre W' := by
  obtain ⟨fv', h1, h2, h3⟩ := h
  exact ⟨fv', h1.later ht (fun k hk h4 => by have := h4.1; omega), h2.touchN ht (fun k e hl => loop_lab hl), h3⟩
end Go.Proofs.YtbeapojjbgkalaaGreatDoor
