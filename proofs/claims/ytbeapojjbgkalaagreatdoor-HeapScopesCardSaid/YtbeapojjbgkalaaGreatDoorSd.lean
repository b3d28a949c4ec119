/- Package arena: what is reachable; the marks as mathematics. -/
import Derived.Test.YtbeapojjbgkalaaGreatDoorSb
namespace Go.Proofs.YtbeapojjbgkalaaGreatDoor
open Go Go.RowKit

def toOf (d : AD) (to_ : Bd → List Int) (k : Nat) : List Int := match d.cells[k]? with
  | some (some nb) => to_ nb
  | _ => []
inductive Reach (d : AD) (to_ : Bd → List Int) (roots : List Int) : Nat → Prop
  | root (r : Int) : r ∈ roots → (d.get r).isSome = true → Reach d to_ roots (r - 1).toNat
  | step (k : Nat) (x : Int) : Reach d to_ roots k → x ∈ toOf d to_ k → (d.get x).isSome = true → Reach d to_ roots (x - 1).toNat
structure TInv (d : AD) (to_ : Bd → List Int) (roots : List Int) (st : List Bool × List Nat) : Prop where
  snd : ∀ k : Nat, st.1[k]? = some true → Reach d to_ roots k
  rt : ∀ r ∈ roots, (d.get r).isSome = true → st.1[(r - 1).toNat]? = some true
  cl : ∀ k : Nat, st.1[k]? = some true → k ∉ st.2 → ∀ x ∈ toOf d to_ k, (d.get x).isSome = true → st.1[(x - 1).toNat]? = some true
def falses (l : List Bool) : Nat := (l.filter fun b => !b).length
def mu (st : List Bool × List Nat) : Nat := 2 * falses st.1 + st.2.length
theorem falses_set : ∀ (l : List Bool) (i : Nat), l[i]? = some false → falses (l.set i true) + 1 = falses l
  | [], i, h => by simp at h
  | b :: l, 0, h => by
    have hb : b = false := by simpa using h
    subst hb
    rfl
  | b :: l, i + 1, h => by
    have := falses_set l i (by simpa using h)
    unfold falses at this ⊢
    rw [List.set_cons_succ]
    cases b
    · simp only [List.filter_cons, Bool.not_false, if_true, List.length_cons]
      omega
    · simp only [List.filter_cons, Bool.not_true, Bool.false_eq_true, if_false]
      exact this
section
variable {d : AD} {st : List Bool × List Nat}
theorem dead_parts {M : List Bool} {r : Int} (h : deadB d M r = true) (hl : M.length = d.cells.length) : (d.get r).isSome = true ∧ M[(r - 1).toNat]? = some false := by
  unfold deadB at h
  rw [Bool.and_eq_true] at h
  have hr := AD.get_some h.1
  have hlt : (r - 1).toNat < M.length := by omega
  refine ⟨h.1, ?_⟩
  have h2 : M[(r - 1).toNat]?.getD false = false := by simpa using h.2
  rw [List.getElem?_eq_getElem hlt] at h2 ⊢
  exact congrArg some h2
theorem mark_mono (r : Int) (k : Nat) (h : st.1[k]? = some true) : (markP d st r).1[k]? = some true := by
  unfold markP
  split
  · by_cases e : (r - 1).toNat = k
    · rw [e, List.getElem?_set_self (List.getElem?_eq_some_iff.1 h).1]
    · rw [List.getElem?_set_ne e]
      exact h
  · exact h
theorem mark_hit (hg : MGood d st) (r : Int) (h : (d.get r).isSome = true) : (markP d st r).1[(r - 1).toNat]? = some true := by
  have hr := AD.get_some h
  have hlt : (r - 1).toNat < st.1.length := by have := hg.len; omega
  unfold markP
  split
  · rw [List.getElem?_set_self hlt]
  · rename_i hd
    unfold deadB at hd
    rw [h] at hd
    rw [List.getElem?_eq_getElem hlt] at hd ⊢
    simpa using hd
theorem mark_new (r : Int) (k : Nat) (hg : MGood d st) (h : (markP d st r).1[k]? = some true) : st.1[k]? = some true ∨ ((d.get r).isSome = true ∧ k = (r - 1).toNat ∧ k ∈ (markP d st r).2) := by
  unfold markP at h ⊢
  split at h
  · rename_i hd
    rw [if_pos hd]
    by_cases e : (r - 1).toNat = k
    · exact .inr ⟨(dead_parts hd hg.len).1, e.symm, by simp [e]⟩
    · rw [List.getElem?_set_ne e] at h
      exact .inl h
  · exact .inl h
theorem mark_todo (r : Int) (k : Nat) (h : k ∈ st.2) : k ∈ (markP d st r).2 := by
  unfold markP
  split
  · exact List.mem_append_left _ h
  · exact h
theorem mark_mu (hg : MGood d st) (r : Int) : mu (markP d st r) ≤ mu st := by
  unfold markP
  split
  · rename_i hd
    have := falses_set st.1 _ (dead_parts hd hg.len).2
    unfold mu
    simp only [List.length_append, List.length_cons, List.length_nil]
    omega
  · exact Nat.le_refl _
end
/-- What going over a list of references does. -/
structure Gone_ (d : AD) (l : List Int) (st st' : List Bool × List Nat) : Prop where
  good : MGood d st'
  mono : ∀ k : Nat, st.1[k]? = some true → st'.1[k]? = some true
  hit : ∀ r ∈ l, (d.get r).isSome = true → st'.1[(r - 1).toNat]? = some true
  new : ∀ k : Nat, st'.1[k]? = some true → st.1[k]? = some true ∨ (∃ r ∈ l, (d.get r).isSome = true ∧ k = (r - 1).toNat ∧ k ∈ st'.2)
  todo : ∀ k ∈ st.2, k ∈ st'.2
  mu : mu st' ≤ mu st
theorem gone_fold {d : AD} : ∀ (l : List Int) (st : List Bool × List Nat), MGood d st → Gone_ d l st (l.foldl (markP d) st)
  | [], st, h => ⟨h, fun _ h => h, (fun r hr => nomatch hr), fun _ h => .inl h, fun _ h => h, Nat.le_refl _⟩
  | r :: l, st, h => by
    have h1 := gone_fold l (markP d st r) (h.mark r)
    refine ⟨h1.good, fun k hk => h1.mono k (mark_mono r k hk), fun x hx hs => ?_, fun k hk => ?_, fun k hk => h1.todo k (mark_todo r k hk), Nat.le_trans h1.mu (mark_mu h r)⟩
    · rcases List.mem_cons.1 hx with rfl | hx
      · exact h1.mono _ (mark_hit h _ hs)
      · exact h1.hit x hx hs
    · rcases h1.new k hk with h2 | ⟨x, hx, h3⟩
      · rcases mark_new r k h h2 with h4 | ⟨h4, h5, h6⟩
        · exact .inl h4
        · exact .inr ⟨r, by simp, h4, h5, h1.todo k h6⟩
      · exact .inr ⟨x, List.mem_cons_of_mem _ hx, h3⟩
theorem tinv_roots {d : AD} (to_ : Bd → List Int) (roots : List Int) {st : List Bool × List Nat} (hg : Gone_ d roots (List.replicate d.cells.length false, []) st) : TInv d to_ roots st := by
  have h0 : ∀ k : Nat, ¬ (List.replicate d.cells.length false)[k]? = some true := fun k h => by
    rw [List.getElem?_replicate] at h
    split at h
    · cases h
    · cases h
  refine ⟨fun k hk => ?_, fun r hr hs => hg.hit r hr hs, fun k hk hn => ?_⟩
  · rcases hg.new k hk with h | ⟨r, hr, hs, rfl, _⟩
    · exact absurd h (h0 k)
    · exact .root r hr hs
  · rcases hg.new k hk with h | ⟨r, hr, hs, _, h2⟩
    · exact absurd h (h0 k)
    · exact absurd h2 hn
theorem tinv_follow {d : AD} {to_ : Bd → List Int} {roots : List Int} {M : List Bool} {t : List Nat} {k : Nat} {st' : List Bool × List Nat} (h : TInv d to_ roots (M, t ++ [k])) (hk : M[k]? = some true) (hg : Gone_ d (toOf d to_ k) (M, t) st') : TInv d to_ roots st' := by
  refine ⟨fun j hj => ?_, fun r hr hs => hg.mono _ (h.rt r hr hs), fun j hj hn x hx hs => ?_⟩
  · rcases hg.new j hj with h1 | ⟨r, hr, hs, rfl, _⟩
    · exact h.snd j h1
    · exact .step k r (h.snd k hk) hr hs
  · by_cases e : j = k
    · subst e
      exact hg.hit x hx hs
    · rcases hg.new j hj with h1 | ⟨r, hr, _, _, h2⟩
      · refine hg.mono _ (h.cl j h1 (fun hm => ?_) x hx hs)
        rcases List.mem_append.1 hm with hm | hm
        · exact hn (hg.todo j hm)
        · exact e (List.mem_singleton.1 hm)
      · exact absurd h2 hn
/-- Behind all rounds the marks are what is reachable. -/
theorem tinv_end {d : AD} {to_ : Bd → List Int} {roots : List Int} {M : List Bool} (h : TInv d to_ roots (M, [])) (k : Nat) : M[k]? = some true ↔ Reach d to_ roots k := by
  refine ⟨h.snd k, fun hr => ?_⟩
  induction hr with
  | root r hr hs => exact h.rt r hr hs
  | step j x _ hx hs ih => exact h.cl j ih (by simp) x hx hs
theorem pop_good {d : AD} {M : List Bool} {t : List Nat} {k : Nat} (h : MGood d (M, t ++ [k])) : MGood d (M, t) := ⟨h.len, (List.nodup_append.1 h.nd).1, fun j hj => h.on j (List.mem_append_left _ hj)⟩
theorem pop_mu {M : List Bool} {t : List Nat} {k : Nat} : mu (M, t) < mu (M, t ++ [k]) := by
  unfold mu
  simp only [List.length_append, List.length_cons, List.length_nil]
  omega
end Go.Proofs.YtbeapojjbgkalaaGreatDoor
