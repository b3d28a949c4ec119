/- A region that draws its order, whose operations that turn the world stand in one line: the world is told by how many of them are done. -/
import Derived.Test.YtgdkjkfbknbgkaaGreatDoorIh
namespace Go.Proofs.YtgdkjkfbknbgkaaGreatDoor
open Go Go.RowKit

/-- cs: the operations in line; St s: the world when s of them are done, what they left among its arguments. -/
def LPh (cs : List Nat) (St : Nat → (Nat → Value) → World → Prop) (d : Nat → Bool) (us : Nat → Value) (w : World) : Prop :=
  ∃ s, s ≤ cs.length ∧ (∀ j c, cs[j]? = some c → (d c = true ↔ j < s)) ∧ St s (fun j => us (cs.getD j 1000000)) w
section
variable {cs : List Nat} {St : Nat → (Nat → Value) → World → Prop} {d : Nat → Bool} {us : Nat → Value} {w w' : World}
theorem LPh.start (h : St 0 (fun j => us (cs.getD j 1000000)) w) : LPh cs St (fun _ => false) us w := ⟨0, Nat.zero_le _, fun j c _ => by simp, h⟩
theorem getD_of {cs : List Nat} {j : Nat} (h : j < cs.length) : cs[j]? = some (cs.getD j 1000000) := by
  rw [List.getD_eq_getElem?_getD, List.getElem?_eq_getElem h]
  rfl
theorem LPh.step (h : LPh cs St d us w) (i : Nat) (v : Value) (hi : cs.contains i = false) (h0 : i ≠ 1000000) : LPh cs St (upd d i true) (upd us i v) w := by
  obtain ⟨s, h1, h2, h3⟩ := h
  have hn : ∀ j c, cs[j]? = some c → c ≠ i := fun j c hc e => by
    subst e
    have := List.mem_of_getElem? hc
    rw [List.contains_iff_mem.2 this] at hi
    cases hi
  refine ⟨s, h1, fun j c hc => by rw [upd_ne _ _ (hn j c hc)]; exact h2 j c hc, ?_⟩
  have key : ∀ j, j < cs.length → us (cs.getD j 1000000) = upd us i v (cs.getD j 1000000) := fun j hj => (upd_ne _ _ (hn j _ (getD_of hj))).symm
  have : (fun j => upd us i v (cs.getD j 1000000)) = fun j => us (cs.getD j 1000000) := by
    funext j
    rcases Nat.lt_or_ge j cs.length with hj | hj
    · exact (key j hj).symm
    · have : cs.getD j 1000000 = 1000000 := by rw [List.getD_eq_getElem?_getD, List.getElem?_eq_none hj]; rfl
      rw [this, upd_ne _ _ (fun e => h0 e.symm)]
  rw [this]
  exact h3
/-- Where the line stands. -/
theorem LPh.at_ (h : LPh cs St d us w) (j c : Nat) (hc : cs[j]? = some c) (hd : d c = false) (hp : j = 0 ∨ ∃ c', cs[j - 1]? = some c' ∧ d c' = true) : St j (fun j => us (cs.getD j 1000000)) w := by
  obtain ⟨s, h1, h2, h3⟩ := h
  have a1 : ¬ j < s := fun hlt => by rw [(h2 j c hc).2 hlt] at hd; cases hd
  have a2 : j ≤ s := by
    rcases hp with rfl | ⟨c', hc', hd'⟩
    · exact Nat.zero_le _
    · have := (h2 (j - 1) c' hc').1 hd'
      omega
  have : s = j := by omega
  subst this
  exact h3
theorem LPh.next (h : LPh cs St d us w) (j c : Nat) (v : Value) (hc : cs[j]? = some c) (hd : d c = false) (hp : j = 0 ∨ ∃ c', cs[j - 1]? = some c' ∧ d c' = true) (nd : cs.Nodup) (hS : St (j + 1) (fun j => upd us c v (cs.getD j 1000000)) w') : LPh cs St (upd d c true) (upd us c v) w' := by
  obtain ⟨s, h1, h2, h3⟩ := h
  have a1 : ¬ j < s := fun hlt => by rw [(h2 j c hc).2 hlt] at hd; cases hd
  have a2 : j ≤ s := by
    rcases hp with rfl | ⟨c', hc', hd'⟩
    · exact Nat.zero_le _
    · have := (h2 (j - 1) c' hc').1 hd'
      omega
  have hs : s = j := by omega
  subst hs
  have hlt := (List.getElem?_eq_some_iff.1 hc).1
  refine ⟨s + 1, hlt, fun k c' hc' => ?_, hS⟩
  by_cases e : c' = c
  · subst e
    rw [upd_same]
    have : k = s := by
      have hk := (List.getElem?_eq_some_iff.1 hc').1
      exact (List.getElem?_inj hk nd).1 (hc'.trans hc.symm)
    simp
    omega
  · rw [upd_ne _ _ e]
    have hne : k ≠ s := fun e2 => by
      subst e2
      rw [hc] at hc'
      injection hc' with hc'
      exact e hc'.symm
    have := h2 k c' hc'
    constructor
    · intro hd'
      have := this.1 hd'
      omega
    · intro hk
      exact this.2 (by omega)
theorem LPh.all (h : LPh cs St d us w) (hd : ∀ c ∈ cs, d c = true) : St cs.length (fun j => us (cs.getD j 1000000)) w := by
  obtain ⟨s, h1, h2, h3⟩ := h
  have : s = cs.length := by
    rcases Nat.lt_or_ge s cs.length with hlt | hge
    · have hc := List.getElem?_eq_getElem hlt
      have := (h2 s _ hc).1 (hd _ (List.getElem_mem hlt))
      omega
    · omega
  subst this
  exact h3
end
end Go.Proofs.YtgdkjkfbknbgkaaGreatDoor
