/- Tables: what Put and Delete do to what is seen. -/
import Derived.Test.YtgdkjkfbknbgkaaGreatDoorFi
namespace Go.Proofs.YtgdkjkfbknbgkaaGreatDoor
open Go.RowKit

def updL (k v : Vt) (f : Int) (l : List En) : List En := l.map fun e => if e.1 = k then (k, v, f) else e
def hasK (l : List En) (k : Vt) : Prop := ∃ e ∈ l, e.1 = k
instance (l : List En) (k : Vt) : Decidable (hasK l k) := by unfold hasK; exact inferInstance
def putO (O : Ob) (k v : Vt) (f : Int) : Ob := if hasK O.1 k then (updL k v f O.1, O.2.map fun c => (c.1, updL k v f c.2)) else (O.1 ++ [(k, v, f)], O.2.map fun c => (c.1, c.2 ++ [(k, v, f)]))
def dropK (k : Vt) (l : List En) : List En := l.filter fun e => decide (e.1 ≠ k)
def delO (O : Ob) (k : Vt) : Ob := (dropK k O.1, O.2.map fun c => (c.1, dropK k c.2))

theorem hasK_found (T : Tab) (k : Vt) : hasK (obs T).1 k ↔ ∃ i, Found T.sl k i := by
  constructor
  · rintro ⟨e, he, hk⟩
    obtain ⟨s, hs, rfl⟩ := List.mem_map.1 he
    obtain ⟨h1, h2⟩ := List.mem_filter.1 hs
    obtain ⟨i, hi⟩ := List.mem_iff_getElem?.1 h1
    exact ⟨i, s, hi, h2, hk⟩
  · rintro ⟨i, s, hi, h2, hk⟩
    exact ⟨ent s, List.mem_map.2 ⟨s, List.mem_filter.2 ⟨List.mem_of_getElem? hi, h2⟩, rfl⟩, hk⟩
/-- One slot set, as a map: no other live slot has its key. -/
theorem set_map {T : Tab} (h : Inv T) (i : Nat) (s : Sl) (hs : T.sl[i]? = some s) (hl : s.live = true) (g : Sl → Sl) : T.sl.set i (g s) = T.sl.map (fun x => if x.live = true ∧ x.key = s.key then g x else x) := by
  apply List.ext_getElem?
  intro m
  rw [List.getElem?_map]
  by_cases e : i = m
  · subst e
    rw [List.getElem?_set_self (List.getElem?_eq_some_iff.1 hs).1, hs]
    simp [hl]
  · rw [List.getElem?_set_ne e]
    cases hm : T.sl[m]? with
    | none => rfl
    | some x =>
      simp only [Option.map_some]
      rw [if_neg]
      rintro ⟨h1, h2⟩
      exact e (h.uniq i m s x hs hm hl h1 h2.symm)
theorem ents_put (l : List Sl) (k v : Vt) (f : Int) : ents (l.map (fun x => if x.live = true ∧ x.key = k then { x with val := v, fl := f } else x)) = updL k v f (ents l) := by
  induction l with
  | nil => rfl
  | cons x l ih =>
    have c1 : ∀ (y : Sl) (l : List Sl), ents (y :: l) = (if y.live then [ent y] else []) ++ ents l := fun y l => by unfold ents; cases hy : y.live <;> simp [List.filter, hy]
    rw [List.map_cons, c1, c1, ih]
    unfold updL
    rw [List.map_append]
    congr 1
    obtain ⟨k0, v0, f0, l0, n0⟩ := x
    cases l0
    · simp
    · by_cases hk : k0 = k
      · subst hk; simp [ent]
      · simp [ent, hk]
theorem ents_del (l : List Sl) (k : Vt) (g : Sl → Sl) (hg : ∀ x, (g x).live = false) : ents (l.map (fun x => if x.live = true ∧ x.key = k then g x else x)) = dropK k (ents l) := by
  induction l with
  | nil => rfl
  | cons x l ih =>
    have c1 : ∀ (y : Sl) (l : List Sl), ents (y :: l) = (if y.live then [ent y] else []) ++ ents l := fun y l => by unfold ents; cases hy : y.live <;> simp [List.filter, hy]
    rw [List.map_cons, c1, c1, ih]
    unfold dropK
    rw [List.filter_append]
    congr 1
    by_cases hk : x.live = true ∧ x.key = k
    · rw [if_pos hk, hg x, hk.1]
      simp [ent, hk.2]
    · rw [if_neg hk]
      cases hx : x.live with
      | false => simp
      | true =>
        have : ¬ x.key = k := fun e => hk ⟨hx, e⟩
        simp [ent, this]
theorem obs_set (T : Tab) (h : Inv T) (i : Nat) (s : Sl) (hs : T.sl[i]? = some s) (hl : s.live = true) (v : Vt) (f : Int) :
    obs { T with sl := T.sl.set i { s with val := v, fl := f } } = putO (obs T) s.key v f := by
  have e := set_map h i s hs hl (fun x => { x with val := v, fl := f })
  unfold putO
  rw [if_pos ((hasK_found T s.key).2 ⟨i, s, hs, hl, rfl⟩)]
  unfold obs
  show (ents (T.sl.set i { s with val := v, fl := f }), T.cur.map fun c => (c.1, ents ((T.sl.set i { s with val := v, fl := f }).drop c.2))) = _
  rw [e, ents_put, List.map_map]
  congr 1
  apply List.map_congr_left
  intro c _
  show (c.1, ents ((T.sl.map _).drop c.2)) = (c.1, updL s.key v f (ents (T.sl.drop c.2)))
  rw [← List.map_drop, ents_put]
theorem obs_del (T : Tab) (h : Inv T) (i : Nat) (s d : Sl) (c : Nat) (hs : T.sl[i]? = some s) (hl : s.live = true) (hd : d.live = false) : obs { T with sl := T.sl.set i d, cnt := c } = delO (obs T) s.key := by
  have e := set_map h i s hs hl (fun _ => d)
  unfold delO obs
  show (ents (T.sl.set i d), T.cur.map fun c => (c.1, ents ((T.sl.set i d).drop c.2))) = _
  rw [e, ents_del _ _ _ (fun _ => hd), List.map_map]
  congr 1
  apply List.map_congr_left
  intro c _
  show (c.1, ents ((T.sl.map _).drop c.2)) = (c.1, dropK s.key (ents (T.sl.drop c.2)))
  rw [← List.map_drop, ents_del _ _ _ (fun _ => hd)]
theorem obs_add (T : Tab) (hc : ∀ c ∈ T.cur, c.2 ≤ T.sl.length) (s : Sl) (hl : s.live = true) (n : Nat) (hno : ∀ i, ¬ Found T.sl s.key i) : obs { addT T s with cnt := n } = putO (obs T) s.key s.val s.fl := by
  unfold putO
  rw [if_neg (fun h => by obtain ⟨i, hi⟩ := (hasK_found T s.key).1 h; exact hno i hi)]
  have one : ∀ x : Sl, x.live = true → ents [x] = [ent x] := fun x hx => by simp [ents, hx]
  obtain ⟨s', hs'⟩ : ∃ s' : Sl, s' = { s with next := lastB T.hs (bucketOf T.nb s.key) } := ⟨_, rfl⟩
  have e : obs { addT T s with cnt := n } = (ents (T.sl ++ [s']), T.cur.map fun c => (c.1, ents ((T.sl ++ [s']).drop c.2))) := by rw [hs']; rfl
  have o : ents [s'] = [(s.key, s.val, s.fl)] := by rw [one s' (by rw [hs']; exact hl), hs']; rfl
  rw [e, ents_app, o]
  unfold obs
  rw [List.map_map]
  congr 1
  apply List.map_congr_left
  intro c hcm
  show (c.1, ents ((T.sl ++ [s']).drop c.2)) = (c.1, ents (T.sl.drop c.2) ++ [(s.key, s.val, s.fl)])
  rw [List.drop_append_of_le_length (hc c hcm), ents_app, o]
theorem cntL_add (T : Tab) (s : Sl) (hl : s.live = true) : cntL (addT T s).sl = cntL T.sl + 1 := by
  show cntL (T.sl ++ [_]) = _
  rw [cntL_snoc, if_pos hl]
theorem cntL_set (T : Tab) (h : Inv T) (i : Nat) (s : Sl) (hs : T.sl[i]? = some s) (hl : s.live = true) (v : Vt) (f : Int) : cntL (T.sl.set i { s with val := v, fl := f }) = cntL T.sl := by
  rw [← ents_len, ← ents_len]
  have := congrArg (fun o : Ob => o.1.length) (obs_set T h i s hs hl v f)
  unfold putO at this
  rw [if_pos ((hasK_found T s.key).2 ⟨i, s, hs, hl, rfl⟩)] at this
  simpa [obs, updL] using this
theorem good_set (T : Tab) (h : Good T) (i : Nat) (s : Sl) (hs : T.sl[i]? = some s) (hl : s.live = true) (v : Vt) (f : Int) : Good { T with sl := T.sl.set i { s with val := v, fl := f } } := by
  have hp := h.inv.pre.set i s { s with val := v, fl := f } T.cnt hs rfl (fun _ => ⟨hl, rfl⟩)
  refine ⟨hp.inv (by show (T.sl.set i _).length ≤ T.nb; rw [List.length_set]; exact h.inv.cap) ?_, by show (T.sl.set i _).length ≤ _; rw [List.length_set]; exact h.slack, fun c hc => by show c.2 ≤ (T.sl.set i _).length; rw [List.length_set]; exact h.cat c hc⟩
  show T.cnt = cntL (T.sl.set i _)
  rw [cntL_set T h.inv i s hs hl]
  exact h.inv.cnt
theorem good_add (T : Tab) (h : Good T) (s : Sl) (hl : s.live = true) (hroom : T.sl.length < T.nb) (hk : keyT s.key = s.key) (hz : s.key.2.2.size ≤ 1000) (hno : ∀ i, ¬ Found T.sl s.key i) : Good { addT T s with cnt := T.cnt + 1 } := by
  have hp := h.inv.pre.add s (by omega) (fun _ => ⟨hk, hz, hno⟩)
  have hp' : Pre { addT T s with cnt := T.cnt + 1 } := ⟨hp.hlen, hp.nb, hp.next, hp.live, hp.uniq, hp.hlt⟩
  have hlen : (addT T s).sl.length = T.sl.length + 1 := by simp [addT]
  refine ⟨hp'.inv (by show (addT T s).sl.length ≤ T.nb; omega) ?_, ?_, ?_⟩
  · show T.cnt + 1 = cntL (addT T s).sl
    rw [cntL_add T s hl]
    have := h.inv.cnt
    unfold cntL; omega
  · show (addT T s).sl.length ≤ 2 * (T.cnt + 1) + 8
    have := h.slack; omega
  · intro c hc
    have := h.cat c hc
    show c.2 ≤ (addT T s).sl.length
    omega
end Go.Proofs.YtgdkjkfbknbgkaaGreatDoor
