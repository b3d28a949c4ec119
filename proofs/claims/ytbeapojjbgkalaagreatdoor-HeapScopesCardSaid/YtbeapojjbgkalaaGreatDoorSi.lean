/- Package arena: the numbers of free cells grow by one, in a region that draws its order. -/
import Derived.Test.YtbeapojjbgkalaaGreatDoorSh
import Derived.Test.YtbeapojjbgkalaaGreatDoorIr
import Derived.Laws.ByValue
namespace Go.Proofs.YtbeapojjbgkalaaGreatDoor
open Go Go.RowKit

theorem AppPh.touch {W1 : World} {B : Nat} {T : TypeId} {sz n : Nat} {xs cs : List Value} {vl : Value} {g f bs ap st : Nat} {d : Nat → Bool} {us : Nat → Value} {w : World} (h : AppPh W1 B T sz n xs cs vl g f bs ap st d us w) (h1 : d st = false) : Touch (fun k => vl.ownBlock = some k) W1 w := by
  cases h2 : d ap with
  | false => exact Touch.of_below (h.below h1 h2)
  | true =>
    obtain ⟨r, cap, -, w2, hb, -, hg, -⟩ := h.at_ap h1 h2
    exact (Touch.of_below (hb.alloc hb.size _)).trans (Touch.of_grown hg (fun k hk => hk))
theorem ArAt.grow {W1 w2 w3 : World} {B A : Nat} {cv fv rv : Value} {d : AD} {x r cap : Nat} (h : ArAt W1 B A cv fv rv d) (hb : Below W1.heap.size W1 w2)
    (ho : w3.ownsRow B 3 1 (.slice (some ⟨r, 0, none⟩) (d.free.length + 1) cap) (d.free.length + 1) (numsV d.free ++ [.int .i64 (x : Int)])) (hg : (w2.alloc (.cells [Value.int .i64 (x : Int)].toArray 3)).grownBy w3 fv.ownBlock) (hr : fv.ownBlock = some r ∨ r = (w2.alloc (.cells [Value.int .i64 (x : Int)].toArray 3)).heap.size) :
    ArAt (w3.setCell ⟨A, 1, none⟩ (.slice (some ⟨r, 0, none⟩) (d.free.length + 1) cap)) B A cv (.slice (some ⟨r, 0, none⟩) (d.free.length + 1) cap) rv { d with free := d.free ++ [x] } ∧
      Touch (fun k => k = A ∨ fv.ownBlock = some k) W1 (w3.setCell ⟨A, 1, none⟩ (.slice (some ⟨r, 0, none⟩) (d.free.length + 1) cap)) ∧ (fv.ownBlock = some r ∨ W1.heap.size ≤ r) := by
  have ht : Touch (fun k => fv.ownBlock = some k) W1 w3 := (Touch.of_below (hb.alloc hb.size _)).trans (Touch.of_grown hg (fun k hk => hk))
  have lc := own_lab h.fo
  have hx3 := h.box.touch ht (fun e => (lc A e).ne h.box.lab (by decide) rfl)
  have c3 := own_touch h.co ht (fun k hk e => (lc k e).ne (own_lab h.co k hk) (by decide) rfl)
  have r3 := own_touch h.ro ht (fun k hk e => h.ap k e hk)
  have tp : Touch (fun k => k = A) w3 (w3.setCell ⟨A, 1, none⟩ (.slice (some ⟨r, 0, none⟩) (d.free.length + 1) cap)) := Touch.put (S := fun k => k = A) rfl _ _
  have hnew : w3.ownsRow B 3 1 (.slice (some ⟨r, 0, none⟩) (d.free.length + 1) cap) (d.free ++ [x]).length (numsV (d.free ++ [x])) := by
    have e : numsV (d.free ++ [x]) = numsV d.free ++ [.int .i64 (x : Int)] := List.map_append
    rw [List.length_append, e]
    exact ho
  have hr2 : fv.ownBlock = some r ∨ W1.heap.size ≤ r := by
    rcases hr with hr | hr
    · exact .inl hr
    · right
      rw [hr, World.size_alloc]
      have := hb.size
      omega
  refine ⟨⟨hx3.put 1 _, own_touch c3 tp (fun k hk e => ((own_lab c3 k hk).ne hx3.lab (by decide)) e), own_touch hnew tp (fun k hk e => ((own_lab hnew k hk).ne hx3.lab (by decide)) e), own_touch r3 tp (fun k hk e => ((own_lab r3 k hk).ne hx3.lab (by decide)) e), ?_, h.ha⟩, (ht.mono (fun k hk => .inr hk)).trans (tp.mono (fun k hk => .inl hk)), hr2⟩
  intro k hk hk2
  injection hk with hk
  have hk : r = k := hk
  subst hk
  rcases hr2 with hb2 | hb2
  · exact h.ap r hb2 hk2
  · have := (own_lt h.ro r hk2).2
    omega
theorem len11 {α : Type} {us : List α} (h : us.length = 11) : ∃ a0 a1 a2 a3 a4 a5 a6 a7 a8 a9 a10, us = [a0, a1, a2, a3, a4, a5, a6, a7, a8, a9, a10] := by
  match us, h with
  | [a0, a1, a2, a3, a4, a5, a6, a7, a8, a9, a10], _ => exact ⟨a0, a1, a2, a3, a4, a5, a6, a7, a8, a9, a10, rfl⟩
def swK (A : Nat) (af : Option Addr) (n cf : Nat) (x : Int) : List (Option (Value → Prop)) := [some (· = .pointer (some ⟨A, 0, none⟩)), some (· = .pointer (some ⟨A, 0, none⟩)), some (· = .pointer (some ⟨A, 0, none⟩)), some (· = .pointer (some ⟨A, 1, none⟩)), some (· = .slice af n cf), some (· = .int .i64 x), none, none, some (· = .pointer (some ⟨A, 0, none⟩)), some (· = .pointer (some ⟨A, 1, none⟩)), none]
end Go.Proofs.YtbeapojjbgkalaaGreatDoor
