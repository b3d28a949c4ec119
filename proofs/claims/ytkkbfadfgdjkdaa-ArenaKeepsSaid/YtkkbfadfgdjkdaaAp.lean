/- Package arena: sweep, where no node has pairs or faint ones: the walk. -/
import Derived.Test.YtkkbfadfgdjkdaaAo
import Derived.Test.YtkkbfadfgdjkdaaIr
import Derived.Laws.ByValue
namespace Go.Proofs.Ytkkbfadfgdjkdaa
open Go Go.RowKit
attribute [local go_sem] Oper.semAt_some

theorem len11 {α : Type} {us : List α} (h : us.length = 11) : ∃ a0 a1 a2 a3 a4 a5 a6 a7 a8 a9 a10, us = [a0, a1, a2, a3, a4, a5, a6, a7, a8, a9, a10] := by
  match us, h with
  | [a0, a1, a2, a3, a4, a5, a6, a7, a8, a9, a10], _ => exact ⟨a0, a1, a2, a3, a4, a5, a6, a7, a8, a9, a10, rfl⟩
theorem Try.infoG : (Try.prog.info? 85).map (fun i => (i.zero, i.size, i.bytes)) = some (some .nilIface, 1, 16) := by kernel_rfl
def swK (A : Nat) (af : Option Addr) (n cf : Nat) (x : Int) : List (Option (Value → Prop)) := [some (· = .pointer (some ⟨A, 0, none⟩)), some (· = .pointer (some ⟨A, 0, none⟩)), some (· = .pointer (some ⟨A, 0, none⟩)), some (· = .pointer (some ⟨A, 1, none⟩)), some (· = .slice af n cf), some (· = .int .i64 x), none, none, some (· = .pointer (some ⟨A, 0, none⟩)), some (· = .pointer (some ⟨A, 1, none⟩)), none]
abbrev gonV (l : List Nat) : List Value := l.map nodeV2
def enK (en : Nat → Int) (l : List Nat) (b : Nat) : Int := en b + (l.count b : Int)
theorem enK_nil (en : Nat → Int) : enK en [] = en := by
  funext b
  simp [enK]
theorem enK_snoc (en : Nat → Int) (l : List Nat) (nb : Nat) : enK en (l ++ [nb]) = fun b => if b = nb then enK en l b + 1 else enK en l b := by
  funext b
  unfold enK
  rw [List.count_append]
  by_cases e : b = nb
  · rw [if_pos e, e, List.count_singleton_self]
    omega
  · rw [if_neg e, List.count_singleton]
    have : (nb == b) = false := beq_eq_false_iff_ne.2 (fun h => e h.symm)
    rw [this]
    simp
theorem NodeAt.touchN {S : Nat → Prop} {w w' : World} {nb N : Nat} {X : Nat → Prop} {L : List Int} {en : Int} {a : Option Addr} {na ca : Nat} (h : NodeAt w nb L en N X a na ca) (ht : Touch S w w') (h1 : ¬ S nb) (h2 : ∀ b, InRow a b → Lab w b 3 → ¬ S b) : NodeAt w' nb L en N X a na ca := by
  refine ⟨h.box.touch ht h1, ⟨h.ints.1, fun hp => ?_⟩, h.small, h.low, h.rlow, h.rx⟩
  obtain ⟨b, o, e, hlt, ⟨cs, fr, hl⟩, hc⟩ := h.ints.2 hp
  have hs := h2 b ⟨o, e⟩ ⟨cs, fr, hl⟩
  exact ⟨b, o, e, by have := ht.size; omega, ⟨cs, fr, (ht.block b hlt hs).trans hl⟩, fun i hi => by rw [cell_touch ht hlt hs]; exact hc i hi⟩
theorem NodesAt.gone {w : World} {d : AD} {to_ : Nat → List Int} {en : Nat → Int} {N nb i : Nat} {X : Nat → Prop} (h : NodesAt w d to_ en N X) (hi : d.cells[i]? = some (some nb)) : NodesAt (w.setCell ⟨nb, 3, none⟩ (.int .i64 (en nb + 1))) d to_ (fun b => if b = nb then en b + 1 else en b) N X := by
  intro k b hk
  obtain ⟨a, na, ca, hx⟩ := h k b hk
  obtain ⟨a2, na2, ca2, hy⟩ := h i nb hi
  have tp : Touch (fun k => k = nb) w (w.setCell ⟨nb, 3, none⟩ (.int .i64 (en nb + 1))) := Touch.put (S := fun k => k = nb) rfl _ _
  have hint : ∀ b, Lab w b 3 → ¬ b = nb := fun b hb e => (hb.ne hy.box.lab (by decide)) e
  by_cases e : b = nb
  · subst e
    refine ⟨a, na, ca, ⟨?_, ⟨hx.ints.1, fun hp => ?_⟩, hx.small, hx.low, hx.rlow, hx.rx⟩⟩
    · have := hx.box.put 3 (.int .i64 (en b + 1))
      show Box _ b _ #[.slice a na ca, .slice none 0 0, .slice none 0 0, .int .i64 (if b = b then en b + 1 else en b)]
      rw [if_pos rfl]
      exact this
    · obtain ⟨c, o, e1, hlt, ⟨cs, fr, hl⟩, hc⟩ := hx.ints.2 hp
      have hs := hint c ⟨cs, fr, hl⟩
      exact ⟨c, o, e1, by have := tp.size; omega, ⟨cs, fr, (tp.block c hlt hs).trans hl⟩, fun i hi => by rw [cell_touch tp hlt hs]; exact hc i hi⟩
  · refine ⟨a, na, ca, ?_⟩
    have := hx.touchN tp e (fun b _ => hint b)
    show NodeAt _ b _ (if b = nb then en b + 1 else en b) N X a na ca
    rw [if_neg e]
    exact this
end Go.Proofs.Ytkkbfadfgdjkdaa
