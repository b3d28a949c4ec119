/- ArenaChains: the chain of pairs as mathematics; keys, tables and roots as they come. -/
import Derived.Test.YtkkbfadfgdjkdaaDm
import Derived.Test.YtkkbfadfgdjkdaaCa
import Derived.Test.YtkkbfadfgdjkdaaIl
namespace Go.Proofs.Ytkkbfadfgdjkdaa
open Go Go.RowKit

def upN (k : Nat) : List Nat := (List.range k).map (· + 1)
theorem upN_succ (k : Nat) : upN (k + 1) = upN k ++ [k + 1] := by
  unfold upN
  rw [List.range_succ, List.map_append]
  rfl
theorem upN_len (k : Nat) : (upN k).length = k := by unfold upN; rw [List.length_map, List.length_range]
theorem upN_at {k i : Nat} (h : i < k) : (upN k)[i]? = some (i + 1) := by
  unfold upN
  rw [List.getElem?_map, List.getElem?_range h]
  rfl
/-- The turn: each number below n is there, and no other. -/
structure Turn (n : Nat) (T : List Nat) : Prop where
  len : T.length = n
  sub : ∀ (i v : Nat), T[i]? = some v → v < n
  all : ∀ v, v < n → ∃ i : Nat, T[i]? = some v
theorem Turn.range (n : Nat) : Turn n (List.range n) := ⟨List.length_range, fun i v h => by
  have h1 := (List.getElem?_eq_some_iff.1 h).1
  rw [List.length_range] at h1
  rw [List.getElem?_range h1] at h
  injection h with h
  omega, fun v h => ⟨v, List.getElem?_range h⟩⟩
theorem Turn.swap {n : Nat} {T : List Nat} (h : Turn n T) {x y a b : Nat} (hx : T[x]? = some a) (hy : T[y]? = some b) : Turn n ((T.set x b).set y a) := by
  have hxl := (List.getElem?_eq_some_iff.1 hx).1
  have hyl := (List.getElem?_eq_some_iff.1 hy).1
  have at_ : ∀ i : Nat, ((T.set x b).set y a)[i]? = if i = y then some a else if i = x then some b else T[i]? := fun i => by
    by_cases e : i = y
    · rw [if_pos e, e, List.getElem?_set_self (by rw [List.length_set]; exact hyl)]
    · rw [if_neg e, List.getElem?_set_ne (fun h => e h.symm)]
      by_cases e2 : i = x
      · rw [if_pos e2, e2, List.getElem?_set_self hxl]
      · rw [if_neg e2, List.getElem?_set_ne (fun h => e2 h.symm)]
  refine ⟨by rw [List.length_set, List.length_set]; exact h.len, fun i v hv => ?_, fun v hv => ?_⟩
  · rw [at_] at hv
    split at hv
    · cases hv; exact h.sub x a hx
    · split at hv
      · cases hv; exact h.sub y b hy
      · exact h.sub i v hv
  · obtain ⟨i, hi⟩ := h.all v hv
    by_cases e : i = x
    · subst e
      exact ⟨y, by rw [at_, if_pos rfl, ← hi, hx]⟩
    · by_cases e2 : i = y
      · subst e2
        by_cases e3 : x = i
        · exact absurd e3.symm e
        · exact ⟨x, by rw [at_, if_neg e3, if_pos rfl, ← hi, hy]⟩
      · exact ⟨i, by rw [at_, if_neg e2, if_neg e]; exact hi⟩
/-- The tables' cells as roots. -/
def rootsL (n r : Nat) : List Int := (List.range r).map fun (i : Nat) => ((n + 2 + i : Nat) : Int)
theorem rootsL_succ (n r : Nat) : rootsL n (r + 1) = rootsL n r ++ [((n + 2 + r : Nat) : Int)] := by
  unfold rootsL
  rw [List.range_succ, List.map_append]
  rfl
theorem rootsL_len (n r : Nat) : (rootsL n r).length = r := by unfold rootsL; rw [List.length_map, List.length_range]
theorem rootsL_mem {n r : Nat} {x : Int} : x ∈ rootsL n r ↔ ∃ i, i < r ∧ x = ((n + 2 + i : Nat) : Int) := by
  unfold rootsL
  simp only [List.mem_map, List.mem_range]
  constructor
  · rintro ⟨i, h1, rfl⟩; exact ⟨i, h1, rfl⟩
  · rintro ⟨i, h1, rfl⟩; exact ⟨i, h1, rfl⟩
/-- What the nodes hold. -/
structure ChT (n j : Nat) (T nbs : List Nat) (tab : Nat → List (Int × Int)) : Prop where
  len : nbs.length = n + 1 + j
  key : ∀ (i nb : Nat), i ≤ n → nbs[i]? = some nb → tab nb = []
  tbl : ∀ (i nb t : Nat), i < j → nbs[n + 1 + i]? = some nb → T[i]? = some t → tab nb = [((t : Int) + 1, (t : Int) + 2)]
section
variable {n : Nat} {T nbs : List Nat} {tab : Nat → List (Int × Int)} {rs : List Int}
theorem tabOf_dN (k : Nat) : tabOf (dN nbs rs) tab k = match nbs[k]? with | some nb => tab nb | none => [] := by
  unfold tabOf
  show (match (nbs.map some)[k]? with | some (some nb) => tab nb | _ => []) = _
  rw [List.getElem?_map]
  cases nbs[k]? <;> rfl
theorem toOf_dN (k : Nat) : toOf (dN nbs rs) noTo k = [] := by
  unfold toOf
  split <;> rfl
theorem get_dN {x : Int} : ((dN nbs rs).get x).isSome = true ↔ 1 ≤ x ∧ x ≤ nbs.length := by
  constructor
  · intro h
    have := AD.get_some h
    have hl : (dN nbs rs).cells.length = nbs.length := by show (nbs.map some).length = _; rw [List.length_map]
    omega
  · intro h
    obtain ⟨i, rfl⟩ : ∃ i : Nat, x = ((i + 1 : Nat) : Int) := ⟨(x - 1).toNat, by omega⟩
    exact dN_get (by omega)
/-- Held: all are reached. -/
theorem chain_all (hT : Turn n T) (h : ChT n n T nbs tab) : ∀ k, k < 2 * n + 1 → ReachP (dN nbs (rootsL n n ++ [1])) noTo tab (rootsL n n ++ [1]) k := by
  have hl := h.len
  have hroot : ∀ i, i < n → ReachP (dN nbs (rootsL n n ++ [1])) noTo tab (rootsL n n ++ [1]) (n + 1 + i) := fun i hi => by
    have := ReachP.root (d := dN nbs (rootsL n n ++ [1])) (to_ := noTo) (tab := tab) (roots := rootsL n n ++ [1]) ((n + 2 + i : Nat) : Int) (List.mem_append_left _ (rootsL_mem.2 ⟨i, hi, rfl⟩)) (get_dN.2 (by omega))
    rwa [show (((n + 2 + i : Nat) : Int) - 1).toNat = n + 1 + i by omega] at this
  have hkey : ∀ k, k ≤ n → ReachP (dN nbs (rootsL n n ++ [1])) noTo tab (rootsL n n ++ [1]) k := fun k => by
    induction k with
    | zero =>
      intro _
      exact ReachP.root (d := dN nbs (rootsL n n ++ [1])) (to_ := noTo) (tab := tab) (roots := rootsL n n ++ [1]) 1 (by simp) (get_dN.2 (by omega))
    | succ k ih =>
      intro hk
      obtain ⟨i, hi⟩ := hT.all k (by omega)
      have hil := (List.getElem?_eq_some_iff.1 hi).1
      rw [hT.len] at hil
      obtain ⟨nb, hnb⟩ : ∃ nb, nbs[n + 1 + i]? = some nb := ⟨_, List.getElem?_eq_getElem (by omega)⟩
      have ht := h.tbl i nb k hil hnb hi
      have := ReachP.pair (d := dN nbs (rootsL n n ++ [1])) (to_ := noTo) (tab := tab) (roots := rootsL n n ++ [1]) (n + 1 + i) ((k : Int) + 1, (k : Int) + 2) (hroot i hil) (by rw [tabOf_dN, hnb]; show _ ∈ tab nb; rw [ht]; simp) (get_dN.2 (by show 1 ≤ (k : Int) + 1 ∧ (k : Int) + 1 ≤ _; omega)) (by
        show ReachP _ _ _ _ ((k : Int) + 1 - 1).toNat
        rw [show ((k : Int) + 1 - 1).toNat = k by omega]
        exact ih (by omega)) (get_dN.2 (by show 1 ≤ (k : Int) + 2 ∧ (k : Int) + 2 ≤ _; omega))
      rwa [show (((k : Int) + 1, (k : Int) + 2).2 - 1).toNat = k + 1 by show ((k : Int) + 2 - 1).toNat = k + 1; omega] at this
  intro k hk
  by_cases hkn : k ≤ n
  · exact hkey k hkn
  · have := hroot (k - (n + 1)) (by omega)
    rwa [show n + 1 + (k - (n + 1)) = k by omega] at this
/-- Not held: the tables alone are reached. -/
theorem chain_none (hT : Turn n T) (h : ChT n n T nbs tab) (k : Nat) : ReachP (dN nbs (rootsL n n)) noTo tab (rootsL n n) k ↔ n + 1 ≤ k ∧ k < 2 * n + 1 := by
  have hl := h.len
  have tabs : ∀ j (p : Int × Int), n + 1 ≤ j → j < 2 * n + 1 → p ∈ tabOf (dN nbs (rootsL n n)) tab j → ∃ t : Nat, t < n ∧ p = ((t : Int) + 1, (t : Int) + 2) := fun j p h1 h2 hp => by
    obtain ⟨nb, hnb⟩ : ∃ nb, nbs[n + 1 + (j - (n + 1))]? = some nb := ⟨_, List.getElem?_eq_getElem (by omega)⟩
    obtain ⟨t, ht⟩ : ∃ t, T[j - (n + 1)]? = some t := ⟨_, List.getElem?_eq_getElem (by rw [hT.len]; omega)⟩
    have h3 := h.tbl (j - (n + 1)) nb t (by omega) hnb ht
    rw [show n + 1 + (j - (n + 1)) = j by omega] at hnb
    rw [tabOf_dN, hnb] at hp
    have hp : p ∈ tab nb := hp
    rw [h3] at hp
    exact ⟨t, hT.sub _ _ ht, by simpa using hp⟩
  constructor
  · intro hr
    induction hr with
    | root r hr hs =>
      obtain ⟨i, hi, rfl⟩ := rootsL_mem.1 hr
      omega
    | step j x _ hx _ _ =>
      rw [toOf_dN] at hx
      cases hx
    | free j p _ hp hk hs ih =>
      obtain ⟨t, ht, rfl⟩ := tabs j p ih.1 ih.2 hp
      have : ((dN nbs (rootsL n n)).get ((t : Int) + 1)).isSome = true := get_dN.2 (by omega)
      rw [this] at hk
      cases hk
    | pair j p _ hp hk _ hs ih1 ih2 =>
      obtain ⟨t, ht, rfl⟩ := tabs j p ih1.1 ih1.2 hp
      have h2 : n + 1 ≤ ((t : Int) + 1 - 1).toNat := ih2.1
      omega
  · intro hk
    have := ReachP.root (d := dN nbs (rootsL n n)) (to_ := noTo) (tab := tab) (roots := rootsL n n) ((k + 1 : Nat) : Int) (rootsL_mem.2 ⟨k - (n + 1), by omega, by omega⟩) (get_dN.2 (by omega))
    rwa [show (((k + 1 : Nat) : Int) - 1).toNat = k by omega] at this
end
/-- The first n + 1 are dead, the rest is not. -/
theorem frL_up {d : AD} {M : List Bool} {a : Nat} (h1 : ∀ i, i < a → deadB d M ((i : Int) + 1) = true) : frL d M a = upN a := by
  unfold frL upN
  rw [List.filter_eq_self.2 (fun i hi => h1 i (List.mem_range.1 hi))]
theorem frL_more {d : AD} {M : List Bool} {a : Nat} : ∀ b, (∀ i, a ≤ i → i < a + b → deadB d M ((i : Int) + 1) = false) → frL d M (a + b) = frL d M a
  | 0, _ => rfl
  | b + 1, h => by
    rw [← Nat.add_assoc, frL_no (h (a + b) (by omega) (by omega)), frL_more b (fun i h1 h2 => h i h1 (by omega))]
end Go.Proofs.Ytkkbfadfgdjkdaa
