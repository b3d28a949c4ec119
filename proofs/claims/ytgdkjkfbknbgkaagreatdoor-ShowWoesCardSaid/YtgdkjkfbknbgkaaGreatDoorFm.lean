/- Tables: the mathematics: chains of slots, what is found, adding, rebuilding. -/
import Derived.Test.YtgdkjkfbknbgkaaGreatDoorFb
namespace Go.Proofs.YtgdkjkfbknbgkaaGreatDoor
open Go.RowKit

structure Sl where
  key : Vt
  val : Vt
  fl : Int
  live : Bool
  next : Nat

/-- 1 + the last place of h, or 0; the list is given last first. -/
def lastR : List Nat → Nat → Nat
  | [], _ => 0
  | x :: r, h => if x = h then r.length + 1 else lastR r h
def lastB (hs : List Nat) (h : Nat) : Nat := lastR hs.reverse h
theorem lastB_nil (h : Nat) : lastB [] h = 0 := rfl
theorem lastB_snoc (hs : List Nat) (x h : Nat) : lastB (hs ++ [x]) h = if x = h then hs.length + 1 else lastB hs h := by
  unfold lastB
  rw [List.reverse_append]
  show (if x = h then hs.reverse.length + 1 else lastR hs.reverse h) = _
  rw [List.length_reverse]
theorem lastR_le : ∀ (l : List Nat) (h : Nat), lastR l h ≤ l.length
  | [], _ => Nat.le_refl _
  | x :: r, h => by
    unfold lastR
    split
    · simp
    · have := lastR_le r h; simp; omega
theorem lastB_le (hs : List Nat) (h : Nat) : lastB hs h ≤ hs.length := by
  have := lastR_le hs.reverse h
  rw [List.length_reverse] at this
  exact this
theorem lastB_zero : ∀ (n : Nat) (hs : List Nat) (h : Nat), hs.length = n → lastB hs h = 0 → ∀ j : Nat, hs[j]? ≠ some h
  | 0, hs, h, hn, _, j => by
    have : hs = [] := List.eq_nil_of_length_eq_zero hn
    subst this; simp
  | n + 1, hs, h, hn, h0, j => by
    obtain ⟨l, x, rfl⟩ : ∃ l x, hs = l ++ [x] := ⟨hs.dropLast, hs.getLast (by intro e; subst e; simp at hn), (List.dropLast_concat_getLast _).symm⟩
    rw [lastB_snoc] at h0
    split at h0
    · omega
    · rename_i hx
      have hl : l.length = n := by simp at hn; omega
      by_cases hj : j < l.length
      · rw [List.getElem?_append_left hj]; exact lastB_zero n l h hl h0 j
      · rw [List.getElem?_append_right (by omega)]
        by_cases hj2 : j = l.length
        · subst hj2; simp; exact hx
        · rw [List.getElem?_eq_none (by simp; omega)]; simp
theorem lastB_some : ∀ (n : Nat) (hs : List Nat) (h p : Nat), hs.length = n → lastB hs h = p + 1 → hs[p]? = some h ∧ ∀ j : Nat, p < j → hs[j]? ≠ some h
  | 0, hs, h, p, hn, h0 => by
    have : hs = [] := List.eq_nil_of_length_eq_zero hn
    subst this; simp [lastB_nil] at h0
  | n + 1, hs, h, p, hn, h0 => by
    obtain ⟨l, x, rfl⟩ : ∃ l x, hs = l ++ [x] := ⟨hs.dropLast, hs.getLast (by intro e; subst e; simp at hn), (List.dropLast_concat_getLast _).symm⟩
    have hl : l.length = n := by simp at hn; omega
    rw [lastB_snoc] at h0
    split at h0
    · rename_i hx
      subst hx
      obtain rfl : l.length = p := by omega
      refine ⟨by simp, fun j hj => ?_⟩
      rw [List.getElem?_eq_none (by simp; omega)]; simp
    · rename_i hx
      obtain ⟨h1, h2⟩ := lastB_some n l h p hl h0
      have hp := (List.getElem?_eq_some_iff.1 h1).1
      refine ⟨by rw [List.getElem?_append_left hp]; exact h1, fun j hj => ?_⟩
      by_cases hj1 : j < l.length
      · rw [List.getElem?_append_left hj1]; exact h2 j hj
      · rw [List.getElem?_append_right (by omega)]
        by_cases hj2 : j = l.length
        · subst hj2; simp; exact hx
        · rw [List.getElem?_eq_none (by simp; omega)]; simp

/-- A live slot of key k at place i. -/
def Found (sl : List Sl) (k : Vt) (i : Nat) : Prop := ∃ s, sl[i]? = some s ∧ s.live = true ∧ s.key = k
def bucketOf (nb : Nat) (k : Vt) : Nat := (hashT k).toNat % nb
structure Tab where
  sl : List Sl
  hs : List Nat
  nb : Nat
  cnt : Nat
  cur : List (Nat × Nat)
structure Inv (T : Tab) : Prop where
  hlen : T.hs.length = T.sl.length
  nb : T.nb = 0 ∨ ∃ j : Nat, 1 ≤ j ∧ j ≤ 30 ∧ T.nb = 2 ^ j
  cap : T.sl.length ≤ T.nb
  next : ∀ (i : Nat) s h, T.sl[i]? = some s → T.hs[i]? = some h → s.next = lastB (T.hs.take i) h
  live : ∀ (i : Nat) s, T.sl[i]? = some s → s.live = true → T.hs[i]? = some (bucketOf T.nb s.key) ∧ keyT s.key = s.key ∧ s.key.2.2.size ≤ 1000
  uniq : ∀ (i j : Nat) s t, T.sl[i]? = some s → T.sl[j]? = some t → s.live = true → t.live = true → s.key = t.key → i = j
  cnt : T.cnt = (T.sl.filter (fun s => s.live)).length
  hlt : ∀ h ∈ T.hs, h < T.nb
/-- What the search knows: the slot to look at is p - 1, below place m; none from m on is the one. -/
def Seek (T : Tab) (k : Vt) (p m : Nat) : Prop := m ≤ T.sl.length ∧ p = lastB (T.hs.take m) (bucketOf T.nb k) ∧ ∀ j, m ≤ j → ¬ Found T.sl k j
theorem Seek.first (T : Tab) (h : Inv T) (k : Vt) : Seek T k (lastB T.hs (bucketOf T.nb k)) T.sl.length := by
  refine ⟨Nat.le_refl _, by rw [← h.hlen, List.take_length], fun j hj ⟨s, hs, _⟩ => ?_⟩
  have := (List.getElem?_eq_some_iff.1 hs).1
  omega
theorem take_at {l : List Nat} {m j : Nat} (hj : j < m) : (l.take m)[j]? = l[j]? := by rw [List.getElem?_take, if_pos hj]
theorem Seek.none {T : Tab} {k : Vt} {m : Nat} (h : Inv T) (hs : Seek T k 0 m) : ∀ j, ¬ Found T.sl k j := fun j hf => by
  by_cases hj : m ≤ j
  · exact hs.2.2 j hj hf
  · obtain ⟨s, h1, h2, h3⟩ := hf
    obtain ⟨h4, _, _⟩ := h.live j s h1 h2
    have := lastB_zero _ (T.hs.take m) _ rfl hs.2.1.symm j
    rw [take_at (by omega), h4, h3] at this
    exact this rfl
theorem Seek.at_ {T : Tab} {k : Vt} {p m : Nat} (h : Inv T) (hs : Seek T k (p + 1) m) : p < m ∧ p < T.sl.length ∧ ∃ s, T.sl[p]? = some s ∧ s.next = lastB (T.hs.take p) (bucketOf T.nb k) ∧ (∀ j, p < j → ¬ Found T.sl k j) := by
  obtain ⟨h1, h2⟩ := lastB_some _ (T.hs.take m) _ p rfl hs.2.1.symm
  have hp : p < m := by
    have := (List.getElem?_eq_some_iff.1 h1).1
    rw [List.length_take] at this; omega
  rw [take_at hp] at h1
  have hpl : p < T.sl.length := by have := hs.1; omega
  refine ⟨hp, hpl, T.sl[p], List.getElem?_eq_getElem hpl, h.next p _ _ (List.getElem?_eq_getElem hpl) h1, fun j hj hf => ?_⟩
  by_cases hjm : m ≤ j
  · exact hs.2.2 j hjm hf
  · obtain ⟨s, g1, g2, g3⟩ := hf
    obtain ⟨g4, _, _⟩ := h.live j s g1 g2
    have := h2 j hj
    rw [take_at (by omega), g4, g3] at this
    exact this rfl
theorem Seek.next {T : Tab} {k : Vt} {p m : Nat} {s : Sl} (h : Inv T) (hs : Seek T k (p + 1) m) (hp : T.sl[p]? = some s) (hn : ¬ (s.live = true ∧ s.key = k)) : Seek T k s.next p := by
  obtain ⟨h1, h2, s', h3, h4, h5⟩ := hs.at_ h
  rw [hp] at h3
  cases h3
  refine ⟨by omega, h4, fun j hj hf => ?_⟩
  by_cases e : j = p
  · subst e
    obtain ⟨t, g1, g2, g3⟩ := hf
    rw [hp] at g1; cases g1
    exact hn ⟨g2, g3⟩
  · exact h5 j (by omega) hf
/-! more -/
theorem snoc_ind {α : Type} {P : List α → Prop} (h0 : P []) (h1 : ∀ l x, P l → P (l ++ [x])) : ∀ l, P l := fun l => by
  have : ∀ r : List α, P r.reverse := fun r => by
    induction r with
    | nil => exact h0
    | cons x r ih => rw [List.reverse_cons]; exact h1 _ _ ih
  have h := this l.reverse
  rwa [List.reverse_reverse] at h
def isLive (s : Sl) : Bool := s.live
/-- A slot put at the end. -/
def addT (T : Tab) (s : Sl) : Tab := { T with sl := T.sl ++ [{ s with next := lastB T.hs (bucketOf T.nb s.key) }], hs := T.hs ++ [bucketOf T.nb s.key] }
structure Pre (T : Tab) : Prop where
  hlen : T.hs.length = T.sl.length
  nb : T.nb = 0 ∨ ∃ j : Nat, 1 ≤ j ∧ j ≤ 30 ∧ T.nb = 2 ^ j
  next : ∀ (i : Nat) s h, T.sl[i]? = some s → T.hs[i]? = some h → s.next = lastB (T.hs.take i) h
  live : ∀ (i : Nat) s, T.sl[i]? = some s → s.live = true → T.hs[i]? = some (bucketOf T.nb s.key) ∧ keyT s.key = s.key ∧ s.key.2.2.size ≤ 1000
  uniq : ∀ (i j : Nat) s t, T.sl[i]? = some s → T.sl[j]? = some t → s.live = true → t.live = true → s.key = t.key → i = j
  hlt : ∀ h ∈ T.hs, h < T.nb
theorem Inv.pre {T : Tab} (h : Inv T) : Pre T := ⟨h.hlen, h.nb, h.next, h.live, h.uniq, h.hlt⟩
theorem Pre.inv {T : Tab} (h : Pre T) (hc : T.sl.length ≤ T.nb) (hn : T.cnt = (T.sl.filter (fun s => s.live)).length) : Inv T := ⟨h.hlen, h.nb, hc, h.next, h.live, h.uniq, hn, h.hlt⟩
theorem bucketOf_lt {nb : Nat} (k : Vt) (h : 0 < nb) : bucketOf nb k < nb := Nat.mod_lt _ h
theorem get_snoc {α : Type} {l : List α} {x y : α} {i : Nat} (h : (l ++ [x])[i]? = some y) : l[i]? = some y ∧ i < l.length ∨ i = l.length ∧ y = x := by
  by_cases hi : i < l.length
  · rw [List.getElem?_append_left hi] at h; exact .inl ⟨h, hi⟩
  · rw [List.getElem?_append_right (by omega)] at h
    by_cases e : i = l.length
    · subst e; simp at h; exact .inr ⟨rfl, h.symm⟩
    · rw [List.getElem?_eq_none (by simp; omega)] at h; cases h
theorem Pre.add {T : Tab} (h : Pre T) (s : Sl) (hnb : 0 < T.nb) (hl : s.live = true → keyT s.key = s.key ∧ s.key.2.2.size ≤ 1000 ∧ ∀ j, ¬ Found T.sl s.key j) : Pre (addT T s) := by
  have hle := h.hlen
  refine ⟨by simp [addT, hle], h.nb, ?_, ?_, ?_, ?_⟩
  · intro i x b hx hb
    rcases get_snoc hx with ⟨hx, hi⟩ | ⟨rfl, rfl⟩
    · rcases get_snoc hb with ⟨hb, _⟩ | ⟨rfl, _⟩
      · show x.next = lastB ((T.hs ++ [_]).take i) b
        rw [List.take_append_of_le_length (by omega)]
        exact h.next i x b hx hb
      · omega
    · rcases get_snoc hb with ⟨_, hi⟩ | ⟨_, rfl⟩
      · omega
      · show lastB T.hs _ = lastB ((T.hs ++ [_]).take T.sl.length) _
        rw [List.take_append_of_le_length (by omega), ← hle, List.take_length]
  · intro i x hx hlv
    rcases get_snoc hx with ⟨hx, hi⟩ | ⟨rfl, rfl⟩
    · obtain ⟨h1, h2⟩ := h.live i x hx hlv
      exact ⟨by show (T.hs ++ [_])[i]? = _; rw [List.getElem?_append_left (by omega)]; exact h1, h2⟩
    · obtain ⟨h1, h2, _⟩ := hl hlv
      exact ⟨by show (T.hs ++ [_])[T.sl.length]? = _; rw [← hle]; simp [addT], h1, h2⟩
  · intro i j x y hx hy hlx hly e
    rcases get_snoc hx with ⟨hx, hi⟩ | ⟨rfl, rfl⟩
    · rcases get_snoc hy with ⟨hy, hj⟩ | ⟨rfl, rfl⟩
      · exact h.uniq i j x y hx hy hlx hly e
      · exact absurd ⟨x, hx, hlx, e⟩ ((hl hly).2.2 i)
    · rcases get_snoc hy with ⟨hy, hj⟩ | ⟨rfl, rfl⟩
      · exact absurd ⟨y, hy, hly, e.symm⟩ ((hl hlx).2.2 j)
      · rfl
  · intro b hb
    rcases List.mem_append.1 hb with hb | hb
    · exact h.hlt b hb
    · simp at hb; subst hb; exact bucketOf_lt _ hnb
/-- A slot changed in place: its key, whether it is live, or both go; what it leads to stays. -/
theorem Pre.set {T : Tab} (h : Pre T) (i : Nat) (s s' : Sl) (cnt : Nat) (hs : T.sl[i]? = some s) (hn : s'.next = s.next) (hl : s'.live = true → s.live = true ∧ s'.key = s.key) : Pre { T with sl := T.sl.set i s', cnt := cnt } := by
  have key : ∀ (j : Nat) x, (T.sl.set i s')[j]? = some x → ∃ y, T.sl[j]? = some y ∧ x.next = y.next ∧ (x.live = true → y.live = true ∧ x.key = y.key) := fun j x hx => by
    by_cases e : i = j
    · subst e
      rw [List.getElem?_set_self (List.getElem?_eq_some_iff.1 hs).1] at hx
      cases hx
      exact ⟨s, hs, hn, hl⟩
    · rw [List.getElem?_set_ne e] at hx
      exact ⟨x, hx, rfl, fun h => ⟨h, rfl⟩⟩
  refine ⟨by simp [h.hlen], h.nb, ?_, ?_, ?_, h.hlt⟩
  · intro j x b hx hb
    obtain ⟨y, h1, h2, _⟩ := key j x hx
    rw [h2]; exact h.next j y b h1 hb
  · intro j x hx hlv
    obtain ⟨y, h1, _, h3⟩ := key j x hx
    obtain ⟨h4, h5⟩ := h3 hlv
    rw [h5]; exact h.live j y h1 h4
  · intro j m x z hx hz hlx hlz e
    obtain ⟨y, h1, _, h3⟩ := key j x hx
    obtain ⟨y', h1', _, h3'⟩ := key m z hz
    exact h.uniq j m y y' h1 h1' (h3 hlx).1 (h3' hlz).1 (by rw [← (h3 hlx).2, ← (h3' hlz).2, e])
/-- What a rebuilding lays: the slots one by one. -/
def buildT (nb : Nat) (cur : List (Nat × Nat)) (cnt : Nat) (l : List Sl) : Tab := l.foldl addT { sl := [], hs := [], nb := nb, cnt := cnt, cur := cur }
theorem buildT_snoc (nb : Nat) (cur : List (Nat × Nat)) (cnt : Nat) (l : List Sl) (s : Sl) : buildT nb cur cnt (l ++ [s]) = addT (buildT nb cur cnt l) s := by simp [buildT]
theorem buildT_same (nb : Nat) (cur : List (Nat × Nat)) (cnt : Nat) : ∀ l, (buildT nb cur cnt l).nb = nb ∧ (buildT nb cur cnt l).cnt = cnt ∧ (buildT nb cur cnt l).cur = cur ∧ (buildT nb cur cnt l).sl.map (fun s => (s.key, s.val, s.fl, s.live)) = l.map (fun s => (s.key, s.val, s.fl, s.live)) := by
  refine snoc_ind ⟨rfl, rfl, rfl, rfl⟩ (fun l x ⟨h1, h2, h3, h4⟩ => ?_)
  rw [buildT_snoc]
  exact ⟨h1, h2, h3, by simp [addT, h4]⟩
theorem buildT_len (nb : Nat) (cur : List (Nat × Nat)) (cnt : Nat) (l : List Sl) : (buildT nb cur cnt l).sl.length = l.length := by
  have := congrArg List.length (buildT_same nb cur cnt l).2.2.2
  simpa using this
theorem buildT_pre (nb : Nat) (cur : List (Nat × Nat)) (cnt : Nat) (hnb : ∃ j : Nat, 1 ≤ j ∧ j ≤ 30 ∧ nb = 2 ^ j) : ∀ l : List Sl, (∀ s ∈ l, s.live = true ∧ keyT s.key = s.key ∧ s.key.2.2.size ≤ 1000) →
    (∀ (i j : Nat) s t, l[i]? = some s → l[j]? = some t → s.key = t.key → i = j) → Pre (buildT nb cur cnt l) := by
  have hpos : 0 < nb := by obtain ⟨j, _, _, rfl⟩ := hnb; exact Nat.two_pow_pos j
  refine snoc_ind (fun _ _ => ⟨rfl, .inr hnb, fun i s h hi => by simp [buildT] at hi, fun i s hi => by simp [buildT] at hi, fun i j s t hi => by simp [buildT] at hi, fun h hh => by simp [buildT] at hh⟩) (fun l x ih hl hu => ?_)
  rw [buildT_snoc]
  obtain ⟨e1, _, _, e4⟩ := buildT_same nb cur cnt l
  have hp := ih (fun s hs => hl s (List.mem_append_left _ hs)) (fun i j s t hi hj e => hu i j s t (by rw [List.getElem?_append_left (List.getElem?_eq_some_iff.1 hi).1]; exact hi) (by rw [List.getElem?_append_left (List.getElem?_eq_some_iff.1 hj).1]; exact hj) e)
  refine hp.add x (by rw [e1]; exact hpos) (fun _ => ?_)
  obtain ⟨_, h2, h3⟩ := hl x (by simp)
  refine ⟨h2, h3, fun j ⟨s, hs, _, hk⟩ => ?_⟩
  have h4 : ((buildT nb cur cnt l).sl.map (fun s => (s.key, s.val, s.fl, s.live)))[j]? = some (s.key, s.val, s.fl, s.live) := by rw [List.getElem?_map, hs]; rfl
  rw [e4, List.getElem?_map] at h4
  obtain ⟨s', hs', e⟩ := Option.map_eq_some_iff.1 h4
  have hj := (List.getElem?_eq_some_iff.1 hs').1
  have := hu j l.length s' x (by rw [List.getElem?_append_left hj]; exact hs') (by simp) (by have := congrArg (fun z => z.1) e; simp at this; rw [this]; exact hk)
  omega
/-- The entries, in order. -/
def ent (s : Sl) : Vt × Vt × Int := (s.key, s.val, s.fl)
def ents (l : List Sl) : List (Vt × Vt × Int) := (l.filter (fun s => s.live)).map ent
end Go.Proofs.YtgdkjkfbknbgkaaGreatDoor
