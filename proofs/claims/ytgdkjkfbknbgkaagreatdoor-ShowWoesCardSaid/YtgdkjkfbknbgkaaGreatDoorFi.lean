/- Tables: what is seen of one: its entries, and what each cursor has still to go over. -/
import Derived.Test.YtgdkjkfbknbgkaaGreatDoorFh
namespace Go.Proofs.YtgdkjkfbknbgkaaGreatDoor
open Go.RowKit

abbrev En := Vt × Vt × Int
abbrev Ob := List En × List (Nat × List En)
def obs (T : Tab) : Ob := (ents T.sl, T.cur.map fun c => (c.1, ents (T.sl.drop c.2)))
structure Good (T : Tab) : Prop where
  inv : Inv T
  slack : T.sl.length ≤ 2 * T.cnt + 8
  cat : ∀ c ∈ T.cur, c.2 ≤ T.sl.length
theorem ents_app (a b : List Sl) : ents (a ++ b) = ents a ++ ents b := by simp [ents]
theorem ents_len (l : List Sl) : (ents l).length = cntL l := by simp [ents, cntL]
theorem ents_drop (l : List Sl) (c : Nat) : (ents l).drop (cntL (l.take c)) = ents (l.drop c) := by
  have h : ents l = ents (l.take c) ++ ents (l.drop c) := by rw [← ents_app, List.take_append_drop]
  rw [h, ← ents_len, List.drop_left]
theorem ents_live (l : List Sl) : ents (liveL l) = ents l := by simp [ents, liveL]
theorem ents_same {a b : List Sl} (h : a.map (fun s => (s.key, s.val, s.fl, s.live)) = b.map (fun s => (s.key, s.val, s.fl, s.live))) : ents a = ents b := by
  induction a generalizing b with
  | nil => cases b with
    | nil => rfl
    | cons y b => simp at h
  | cons x a ih => cases b with
    | nil => simp at h
    | cons y b =>
      simp only [List.map_cons, List.cons.injEq] at h
      obtain ⟨h1, h2⟩ := h
      have e := ih h2
      simp only [Prod.mk.injEq] at h1
      obtain ⟨h1, h3, h4, h5⟩ := h1
      have c1 : ents (x :: a) = (if x.live then [ent x] else []) ++ ents a := by unfold ents; cases hx : x.live <;> simp [List.filter, hx]
      have c2 : ents (y :: b) = (if y.live then [ent y] else []) ++ ents b := by unfold ents; cases hy : y.live <;> simp [List.filter, hy]
      rw [c1, c2, e, h5]
      unfold ent
      rw [h1, h3, h4]
theorem same_drop {a b : List Sl} (h : a.map (fun s => (s.key, s.val, s.fl, s.live)) = b.map (fun s => (s.key, s.val, s.fl, s.live))) (c : Nat) : (a.drop c).map (fun s => (s.key, s.val, s.fl, s.live)) = (b.drop c).map (fun s => (s.key, s.val, s.fl, s.live)) := by
  rw [List.map_drop, List.map_drop, h]
theorem cnt_live (T : Tab) (h : Inv T) : (liveL T.sl).length = T.cnt := h.cnt.symm
theorem liveL_all (l : List Sl) : ∀ s ∈ liveL l, s.live = true ∧ s ∈ l := fun s hs => by
  have := List.mem_filter.1 hs
  exact ⟨this.2, this.1⟩
/-- A rebuilding changes nothing that is seen. -/
theorem obs_re (T : Tab) (j : Nat) : obs (reT T j) = obs T := by
  obtain ⟨e1, e2, e3, e4⟩ := buildT_same (2 ^ j) (T.cur.map (moved T.sl)) T.cnt (liveL T.sl)
  unfold obs
  have h1 : (reT T j).cur = T.cur.map (moved T.sl) := e3
  have h2 : ents (reT T j).sl = ents T.sl := (ents_same e4).trans (ents_live _)
  rw [h1, h2, List.map_map]
  congr 1
  apply List.map_congr_left
  intro c _
  show (c.1, ents ((reT T j).sl.drop (cntL (T.sl.take c.2)))) = _
  have h3 : ents ((reT T j).sl.drop (cntL (T.sl.take c.2))) = ents ((liveL T.sl).drop (cntL (T.sl.take c.2))) := ents_same (same_drop e4 _)
  rw [h3]
  congr 1
  have := ents_drop T.sl c.2
  rw [← this, ← ents_live T.sl]
  have key : ∀ (l : List Sl) n, (∀ s ∈ l, s.live = true) → ents (l.drop n) = (ents l).drop n := fun l n hl => by
    have f1 : l.filter (fun s => s.live) = l := List.filter_eq_self.2 (by simpa using hl)
    have f2 : (l.drop n).filter (fun s => s.live) = l.drop n := List.filter_eq_self.2 (fun s hs => by simpa using hl s (List.mem_of_mem_drop hs))
    unfold ents
    rw [f1, f2, List.map_drop]
  exact key _ _ (fun s hs => (liveL_all T.sl s hs).1)
theorem uniq_live {T : Tab} (h : Inv T) : ∀ (i j : Nat) s t, (liveL T.sl)[i]? = some s → (liveL T.sl)[j]? = some t → s.key = t.key → i = j := by
  have key : ∀ (l : List Sl), (∀ (i j : Nat) s t, l[i]? = some s → l[j]? = some t → s.live = true → t.live = true → s.key = t.key → i = j) → ∀ (i j : Nat) s t, (liveL l)[i]? = some s → (liveL l)[j]? = some t → s.key = t.key → i = j := by
    refine snoc_ind (fun _ i j s t hs => by simp [liveL] at hs) (fun l x ih hu => ?_)
    have hu' := ih (fun i j s t hi hj h1 h2 e => hu i j s t (by rw [List.getElem?_append_left (List.getElem?_eq_some_iff.1 hi).1]; exact hi) (by rw [List.getElem?_append_left (List.getElem?_eq_some_iff.1 hj).1]; exact hj) h1 h2 e)
    rw [liveL_snoc]
    split
    · rename_i hx
      have away : ∀ (i : Nat) s, (liveL l)[i]? = some s → s.key = x.key → False := fun i s hs e => by
        obtain ⟨h1, h2⟩ := liveL_all l s (List.mem_of_getElem? hs)
        obtain ⟨m, hm⟩ := List.mem_iff_getElem?.1 h2
        have hml := (List.getElem?_eq_some_iff.1 hm).1
        have := hu m l.length s x (by rw [List.getElem?_append_left hml]; exact hm) (by simp) h1 hx e
        omega
      intro i j s t hi hj e
      rcases get_snoc hi with ⟨hi2, _⟩ | ⟨hi2, hs2⟩
      · rcases get_snoc hj with ⟨hj2, _⟩ | ⟨hj2, ht2⟩
        · exact hu' i j s t hi2 hj2 e
        · exact (away i s hi2 (by rw [e, ht2])).elim
      · rcases get_snoc hj with ⟨hj2, _⟩ | ⟨hj2, ht2⟩
        · exact (away j t hj2 (by rw [← e, hs2])).elim
        · rw [hi2, hj2]
    · exact hu'
  exact key T.sl h.uniq
/-- A rebuilt table is as it should be, with room for as many again. -/
theorem re_good {T : Tab} (h : Inv T) (j : Nat) (h1 : 1 ≤ j) (h2 : j ≤ 30) (h3 : 2 * T.cnt ≤ 2 ^ j) : Good (reT T j) ∧ (reT T j).sl.length = T.cnt ∧ (reT T j).cnt = T.cnt ∧ (reT T j).nb = 2 ^ j := by
  obtain ⟨e1, e2, e3, e4⟩ := buildT_same (2 ^ j) (T.cur.map (moved T.sl)) T.cnt (liveL T.sl)
  have e5 := buildT_len (2 ^ j) (T.cur.map (moved T.sl)) T.cnt (liveL T.sl)
  have e6 := cnt_live T h
  have hp := buildT_pre (2 ^ j) (T.cur.map (moved T.sl)) T.cnt ⟨j, h1, h2, rfl⟩ (liveL T.sl) (fun s hs => by
    obtain ⟨a, b⟩ := liveL_all T.sl s hs
    obtain ⟨i, hi⟩ := List.mem_iff_getElem?.1 b
    exact ⟨a, (h.live i s hi a).2⟩) (uniq_live h)
  have hl : (reT T j).sl.length = T.cnt := e5.trans e6
  have hc : (reT T j).cnt = T.cnt := e2
  have hnb : (reT T j).nb = 2 ^ j := e1
  refine ⟨⟨Pre.inv hp (by show (reT T j).sl.length ≤ (reT T j).nb; omega) ?_, by omega, ?_⟩, hl, hc, hnb⟩
  · show (reT T j).cnt = cntL (reT T j).sl
    have : ents (reT T j).sl = ents T.sl := (ents_same e4).trans (ents_live _)
    rw [hc, ← ents_len, this, ents_len]
    exact h.cnt
  · intro c hc'
    have h1 : (reT T j).cur = T.cur.map (moved T.sl) := e3
    rw [h1] at hc'
    obtain ⟨d, _, rfl⟩ := List.mem_map.1 hc'
    rw [hl, h.cnt]
    show cntL (T.sl.take d.2) ≤ cntL T.sl
    rw [← ents_len, ← ents_len]
    have : ents T.sl = ents (T.sl.take d.2) ++ ents (T.sl.drop d.2) := by rw [← ents_app, List.take_append_drop]
    rw [this, List.length_append]; omega
end Go.Proofs.YtgdkjkfbknbgkaaGreatDoor
