/- Paths through a drawn region's order; a region whose world-turning operations stand in one line, seen from any operation. -/
import Derived.Test.YtgdkjkfbknbgkaaDoorIl
namespace Go.Proofs.YtgdkjkfbknbgkaaDoor
open Go Go.RowKit

/-- Each number's operation comes behind the next one's. -/
def pathB (l : List Oper) : List Nat → Bool
  | a :: b :: t => (match l[a]? with | some o => o.after.any (fun e => Region.binds .any e && e.on == b) | none => false) && pathB l (b :: t)
  | _ => true
section
variable {l : List Oper} {ks : List (Option (Value → Prop))} {Ph : (Nat → Bool) → (Nat → Value) → World → Prop} {d : Nat → Bool} {us : Nat → Value} {w : World}
theorem CJ.fwd (h : CJ l ks Ph d us w) : ∀ (p : List Nat) (a z : Nat), pathB l (a :: p) = true → (a :: p).getLast? = some z → d a = true → d z = true
  | [], a, z, _, hz, ha => by
    injection hz with hz
    rw [← hz]
    exact ha
  | b :: p, a, z, hp, hz, ha => by
    unfold pathB at hp
    rw [Bool.and_eq_true] at hp
    obtain ⟨h1, h2⟩ := hp
    refine CJ.fwd h p b z h2 (by simpa using hz) ?_
    cases ho : l[a]? with
    | none => rw [ho] at h1; cases h1
    | some o =>
      rw [ho] at h1
      have h1 : (o.after.any fun e => Region.binds .any e && e.on == b) = true := h1
      obtain ⟨e, he, h4⟩ := Array.any_eq_true'.1 h1
      simp only [Bool.and_eq_true, beq_iff_eq] at h4
      have h3 := h.done a o ho ha e he h4.1
      rw [h4.2] at h3
      exact h3
theorem CJ.bwd (h : CJ l ks Ph d us w) (p : List Nat) (a z : Nat) (hp : pathB l (a :: p) = true) (hz : (a :: p).getLast? = some z) (hd : d z = false) : d a = false := by
  cases ha : d a with
  | false => rfl
  | true => rw [CJ.fwd h p a z hp hz ha] at hd; cases hd
end
section
variable {cs : List Nat} {St : Nat → (Nat → Value) → World → Prop} {d : Nat → Bool} {us : Nat → Value} {w w' : World}
/-- Where the line may stand. -/
theorem LPh.btw (h : LPh cs St d us w) (lo hi : Nat) (h1 : lo = 0 ∨ ∃ c, cs[lo - 1]? = some c ∧ d c = true) (h2 : hi = cs.length ∨ ∃ c, cs[hi]? = some c ∧ d c = false) : ∃ s, lo ≤ s ∧ s ≤ hi ∧ St s (fun j => us (cs.getD j 1000000)) w := by
  obtain ⟨s, g1, g2, g3⟩ := h
  refine ⟨s, ?_, ?_, g3⟩
  · rcases h1 with rfl | ⟨c, hc, hd⟩
    · exact Nat.zero_le _
    · have := (g2 _ c hc).1 hd
      omega
  · rcases h2 with rfl | ⟨c, hc, hd⟩
    · exact g1
    · rcases Nat.lt_or_ge hi s with hlt | hge
      · have := (g2 _ c hc).2 hlt
        rw [hd] at this
        cases this
      · exact hge
theorem LPh.btw1 (h : LPh cs St d us w) (k : Nat) (h1 : k = 0 ∨ ∃ c, cs[k - 1]? = some c ∧ d c = true) (h2 : k = cs.length ∨ ∃ c, cs[k]? = some c ∧ d c = false) : St k (fun j => us (cs.getD j 1000000)) w := by
  obtain ⟨s, g1, g2, g3⟩ := h.btw k k h1 h2
  have : s = k := by omega
  subst this
  exact g3
/-- Another operation only adds memory. -/
theorem LPh.light (h : LPh cs St d us w) (i : Nat) (v : Value) (hi : cs.contains i = false) (h0 : i ≠ 1000000) (hm : ∀ s f, St s f w → St s f w') : LPh cs St (upd d i true) (upd us i v) w' := by
  obtain ⟨s, g1, g2, g3⟩ := h.step i v hi h0
  exact ⟨s, g1, g2, hm _ _ g3⟩
end
end Go.Proofs.YtgdkjkfbknbgkaaDoor
