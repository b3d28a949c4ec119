/- Tables: each method by what is seen, with the blocks that are the table's own. -/
import Derived.Test.YtbeapojjbgkalaaDoorFu
namespace Go.Proofs.YtbeapojjbgkalaaDoor
open Go.RowKit

/-- Table t lies from B on; F are its own blocks; O is what is seen of it. -/
def Tf (B t : Nat) (F : Nat → Prop) (O : Ob) (w : World) : Prop := ∃ T vs vb vc, TabAt w B t T vs vb vc ∧ Good T ∧ obs T = O ∧ F = Foot t T vs vb vc
/-- The table's own blocks go over from F to F'; of what lay there nothing else changes. -/
structure Fs (F F' : Nat → Prop) (w w' : World) : Prop where
  touch : Touch F w w'
  fresh : ∀ k, F' k → F k ∨ w.heap.size ≤ k
theorem Fs.refl (F : Nat → Prop) (w : World) : Fs F F w w := ⟨Touch.refl _ _, fun _ h => .inl h⟩
theorem Fs.trans {F F1 F2 : Nat → Prop} {a b c : World} (h : Fs F F1 a b) (h2 : Fs F1 F2 b c) : Fs F F2 a c :=
  ⟨⟨h2.touch.os.trans h.touch.os, h2.touch.tape.trans h.touch.tape, h2.touch.output.trans h.touch.output, Nat.le_trans h.touch.size h2.touch.size,
    fun k hk hn => (h2.touch.block k (Nat.lt_of_lt_of_le hk h.touch.size) (fun hs => by rcases h.fresh k hs with h3 | h3; exact hn h3; omega)).trans (h.touch.block k hk hn)⟩,
    fun k hk => by
      rcases h2.fresh k hk with h3 | h3
      · exact h.fresh k h3
      · exact .inr (Nat.le_trans h.touch.size h3)⟩
theorem Fs.of_below {F : Nat → Prop} {w w' : World} (h : Below w.heap.size w w') : Fs F F w w' := ⟨Touch.of_below h, fun _ h => .inl h⟩
section
variable {B t : Nat} {F : Nat → Prop} {O : Ob} {w w' : World}
theorem Tf.on (h : Tf B t F O w) (hb : Below w.heap.size w w') : Tf B t F O w' := by
  obtain ⟨T, vs, vb, vc, h1, h2, h3, h4⟩ := h
  exact ⟨T, vs, vb, vc, h1.on hb, h2, h3, h4⟩
theorem Tf.touch {S : Nat → Prop} (h : Tf B t F O w) (ht : Touch S w w') (hn : ∀ k, F k → ¬ S k) : Tf B t F O w' := by
  obtain ⟨T, vs, vb, vc, h1, h2, h3, rfl⟩ := h
  exact ⟨T, vs, vb, vc, h1.touch ht hn, h2, h3, rfl⟩
theorem Tf.tb (h : Tf B t F O w) : Tb B t O w := by
  obtain ⟨T, vs, vb, vc, h1, h2, h3, h4⟩ := h
  exact ⟨T, vs, vb, vc, h1, h2, h3⟩
theorem Tb.tf (h : Tb B t O w) : ∃ F, Tf B t F O w := by
  obtain ⟨T, vs, vb, vc, h1, h2, h3⟩ := h
  exact ⟨_, T, vs, vb, vc, h1, h2, h3, rfl⟩
theorem Tf.lt (h : Tf B t F O w) (k : Nat) (hk : F k) : B ≤ k ∧ k < w.heap.size := by
  obtain ⟨T, vs, vb, vc, h1, h2, h3, rfl⟩ := h
  exact Foot.lt h1 hk
theorem Tf.le (h : Tf B t F O w) : B ≤ w.heap.size := h.tb.le
theorem Tf.lab (h : Tf B t F O w) (k : Nat) (hk : F k) : Lab w k 73 ∨ Lab w k 80 ∨ Lab w k 3 ∨ Lab w k 32 ∨ ∃ a b, Box w k 133 #[.pointer (some ⟨t, 0, none⟩), a, b] := by
  obtain ⟨T, vs, vb, vc, h1, h2, h3, rfl⟩ := h
  rcases hk with rfl | e | e | e | ⟨d, hd, rfl⟩
  · exact .inl h1.box.lab
  · exact .inr (.inl (own_lab h1.os k e))
  · exact .inr (.inr (.inl (own_lab h1.ob k e)))
  · exact .inr (.inr (.inr (.inl (own_lab h1.oc k e))))
  · obtain ⟨m, hm, rfl⟩ := List.mem_iff_getElem.1 hd
    exact .inr (.inr (.inr (.inr ⟨_, _, (h1.cs m _ (List.getElem?_eq_getElem hm)).2⟩)))
/-- A block of another type is none of the table's. -/
theorem Tf.not_lab (h : Tf B t F O w) {g : Nat} {e : TypeId} (hl : Lab w g e) (he : e ≠ 73 ∧ e ≠ 80 ∧ e ≠ 3 ∧ e ≠ 32 ∧ e ≠ 133) : ¬ F g := fun hk => by
  rcases h.lab g hk with h1 | h1 | h1 | h1 | ⟨a, b, h1⟩
  · exact hl.ne h1 he.1 rfl
  · exact hl.ne h1 he.2.1 rfl
  · exact hl.ne h1 he.2.2.1 rfl
  · exact hl.ne h1 he.2.2.2.1 rfl
  · exact hl.ne h1.lab he.2.2.2.2 rfl
theorem Tf.not_val (h : Tf B t F O w) {g : Nat} {cs : Array Value} (hg : Box w g 45 cs) : ¬ F g := h.not_lab hg.lab (by decide)
/-- A closed cursor is none of the table's. -/
theorem Tf.not_closed (h : Tf B t F O w) {g : Nat} {x y : Value} (hg : Box w g 133 #[.pointer none, x, y]) : ¬ F g := fun hk => by
  rcases h.lab g hk with h1 | h1 | h1 | h1 | ⟨a, b, h1⟩
  · exact hg.lab.ne h1 (by decide) rfl
  · exact hg.lab.ne h1 (by decide) rfl
  · exact hg.lab.ne h1 (by decide) rfl
  · exact hg.lab.ne h1 (by decide) rfl
  · have := (show w.heap[g]? = _ from hg).symm.trans h1
    simp at this
theorem Fs.box {F F' : Nat → Prop} {w w' : World} (h : Fs F F' w w') {g : Nat} {e : TypeId} {cs : Array Value} (hg : Box w g e cs) (hn : ¬ F g) : Box w' g e cs ∧ ¬ F' g :=
  ⟨hg.touch h.touch hn, fun hk => (h.fresh g hk).elim hn (fun h2 => by have := hg.lt; omega)⟩
theorem Fs.val {F' : Nat → Prop} (h : Tf B t F O w) (hs : Fs F F' w w') {g : Nat} {cs : Array Value} (hg : Box w g 45 cs) : Box w' g 45 cs := (hs.box hg (h.not_val hg)).1
theorem Fs.below {F' : Nat → Prop} (h : Tf B t F O w) (hs : Fs F F' w w') : Below B w w' := hs.touch.below h.le (fun k hk => (h.lt k hk).1)
theorem Fs.fr {F' : Nat → Prop} (h : Tf B t F O w) (hs : Fs F F' w w') : Fr B w w' := ⟨hs.below h, fun _ _ hg => hs.val h hg⟩
theorem Tf.post {T T' : Tab} {vs vb vc : Value} (hG : Good T') (ho : obs T' = O) (hp : TabPost B t T' (Foot t T vs vb vc) w w') : ∃ F', Tf B t F' O w' ∧ Fs (Foot t T vs vb vc) F' w w' := by
  obtain ⟨vs', vb', vc', h1, h2, h3⟩ := hp
  exact ⟨_, ⟨T', vs', vb', vc', h1, hG, ho, rfl⟩, h2, h3⟩
end
def PutP (B t : Nat) (F : Nat → Prop) (O : Ob) (w w' : World) : Prop := ∃ F', Tf B t F' O w' ∧ Fs F F' w w'
theorem put_tf {B t : Nat} {F : Nat → Prop} {O : Ob} {w : World} (h : Tf B t F O w) (h1 : O.1.length < 40000) (h2 : O.2.length < 100000) (k v : Vt) (f : Int) (hk : k.2.2.size ≤ 1000) :
    Calls Tryd.prog 11 #[.pointer (some ⟨t, 0, none⟩), valV k, valV v, .int .i64 f] w fun e w' => e = .returned (.tuple #[]) ∧ PutP B t F (putO O (keyT k) v f) w w' := by
  obtain ⟨T, vs, vb, vc, hT, hG, ho, rfl⟩ := h
  obtain ⟨s1, s2⟩ := obs_sizes hG ho
  refine (put_any B t T vs vb vc hG (by omega) (by omega) k v f hk w hT).mono ?_
  rintro e w' ⟨rfl, T', hG', ho', _, _, hp⟩
  exact ⟨rfl, Tf.post hG' (by rw [ho', ho]) hp⟩
def DelP (B t : Nat) (F : Nat → Prop) (O : Ob) (k : Vt) (w : World) (e : Ending) (w' : World) : Prop := ∃ r : Bool, e = .returned (.bool r) ∧ (r = true ↔ hasK O.1 k) ∧ PutP B t F (delO O k) w w'
theorem del_tf {B t : Nat} {F : Nat → Prop} {O : Ob} {w : World} (h : Tf B t F O w) (h1 : O.1.length < 40000) (h2 : O.2.length < 100000) (k : Vt) (hk : k.2.2.size ≤ 1000) :
    Calls Tryd.prog 43 #[.pointer (some ⟨t, 0, none⟩), valV k] w (DelP B t F O (keyT k) w) := by
  obtain ⟨T, vs, vb, vc, hT, hG, ho, rfl⟩ := h
  obtain ⟨s1, s2⟩ := obs_sizes hG ho
  refine (del_any B t T vs vb vc hG (by omega) (by omega) k hk w hT).mono ?_
  rintro e w' ⟨r, rfl, hr, T', hG', ho', _, _, hp⟩
  exact ⟨r, rfl, by rw [hr, ho], Tf.post hG' (by rw [ho', ho]) hp⟩
theorem cursor_tf {B t : Nat} {F : Nat → Prop} {O : Ob} {w : World} (h : Tf B t F O w) (h2 : O.2.length < 100000) :
    Calls Tryd.prog 64 #[.pointer (some ⟨t, 0, none⟩)] w fun e w' => e = .returned (.pointer (some ⟨w.heap.size, 0, none⟩)) ∧ PutP B t F (O.1, O.2 ++ [(w.heap.size, O.1)]) w w' := by
  obtain ⟨T, vs, vb, vc, hT, hG, ho, rfl⟩ := h
  obtain ⟨s1, s2⟩ := obs_sizes hG ho
  refine (cursor_any B t T vs vb vc (by omega) w hT).mono ?_
  rintro e w' ⟨rfl, hp⟩
  exact ⟨rfl, Tf.post (good_cur hG _) (by rw [obs_cur, ho]) hp⟩
theorem cut_good {T : Tab} (hG : Good T) (i c q : Nat) (hq : q ≤ T.sl.length) : Good (cutT T i c q) :=
  ⟨⟨hG.inv.hlen, hG.inv.nb, hG.inv.cap, hG.inv.next, hG.inv.live, hG.inv.uniq, hG.inv.cnt, hG.inv.hlt⟩, hG.slack, fun y hy => by
    rcases List.mem_or_eq_of_mem_set (show y ∈ T.cur.set i (c, q) from hy) with h | h
    · exact hG.cat y h
    · rw [h]; exact hq⟩
theorem cut_foot {T : Tab} {t i c a q : Nat} {vs vb vc : Value} (hc : T.cur[i]? = some (c, a)) : Foot t (cutT T i c q) vs vb vc = Foot t T vs vb vc := by
  have hi := (List.getElem?_eq_some_iff.1 hc).1
  funext k
  apply propext
  constructor
  · rintro (h | h | h | h | ⟨x, hx, h⟩)
    · exact .inl h
    · exact .inr (.inl h)
    · exact .inr (.inr (.inl h))
    · exact .inr (.inr (.inr (.inl h)))
    · rcases List.mem_or_eq_of_mem_set (show x ∈ T.cur.set i (c, q) from hx) with h2 | h2
      · exact .inr (.inr (.inr (.inr ⟨x, h2, h⟩)))
      · exact .inr (.inr (.inr (.inr ⟨(c, a), List.mem_of_getElem? hc, by rw [← h, h2]⟩)))
  · rintro (h | h | h | h | ⟨x, hx, h⟩)
    · exact .inl h
    · exact .inr (.inl h)
    · exact .inr (.inr (.inl h))
    · exact .inr (.inr (.inr (.inl h)))
    · obtain ⟨j, hj⟩ := List.mem_iff_getElem?.1 hx
      by_cases e : i = j
      · subst e
        rw [hc] at hj
        cases hj
        exact .inr (.inr (.inr (.inr ⟨(c, q), List.mem_of_getElem? (List.getElem?_set_self hi), h⟩)))
      · exact .inr (.inr (.inr (.inr ⟨x, List.mem_of_getElem? (by rw [show (cutT T i c q).cur = T.cur.set i (c, q) from rfl, List.getElem?_set_ne e]; exact hj), h⟩)))
theorem next_tf {B t : Nat} {F : Nat → Prop} {O : Ob} {w : World} (h : Tf B t F O w) (h1 : O.1.length < 40000) (i c : Nat) (x : En) (r : List En) (hi : O.2[i]? = some (c, x :: r)) :
    Calls Tryd.prog 66 #[.pointer (some ⟨c, 0, none⟩)] w fun e w' => e = .returned (.tuple #[valV x.1, valV x.2.1, .int .i64 x.2.2, .bool true]) ∧ Tf B t F (O.1, O.2.set i (c, r)) w' ∧ Touch F w w' := by
  obtain ⟨T, vs, vb, vc, hT, hG, ho, rfl⟩ := h
  obtain ⟨s1, s2⟩ := obs_sizes hG ho
  subst ho
  unfold obs at hi
  rw [List.getElem?_map] at hi
  obtain ⟨⟨c', a⟩, hc, he⟩ := Option.map_eq_some_iff.1 hi
  simp only [Prod.mk.injEq] at he
  obtain ⟨rfl, hx⟩ := he
  have hsl := hG.slack
  refine (next_some B t T vs vb vc (by omega) i c' a hc x r hx w hT).mono ?_
  rintro e w' ⟨q, rfl, hq, hr, hT', ht⟩
  refine ⟨rfl, ⟨cutT T i c' q, vs, vb, vc, hT', cut_good hG i c' q hq, ?_, (cut_foot hc).symm⟩, ht.mono (fun k hk => .inr (.inr (.inr (.inr ⟨(c', a), List.mem_of_getElem? hc, hk.symm⟩))))⟩
  unfold obs
  show (ents T.sl, (T.cur.set i (c', q)).map _) = _
  rw [List.map_set, ← hr]
  rfl
/-- What a table has without cursor c. -/
theorem set_take_perm {α : Type} : ∀ (l : List α) (i : Nat) (x z : α), l[i]? = some x → l[l.length - 1]? = some z → (x :: (l.set i z).take (l.length - 1)).Perm l := by
  intro l i x z hx hz
  rcases List.eq_nil_or_concat l with rfl | ⟨m, y, rfl⟩
  · simp at hx
  · simp only [List.concat_eq_append, List.length_append, List.length_cons, List.length_nil, Nat.add_sub_cancel] at *
    rw [List.getElem?_append_right (Nat.le_refl _)] at hz
    simp at hz
    subst hz
    by_cases hi : i < m.length
    · rw [List.getElem?_append_left hi] at hx
      rw [List.set_append_left _ _ hi, List.take_left' (by simp)]
      have h1 : (x :: m.set i y).Perm (y :: m) := by
        obtain ⟨h2, rfl⟩ := List.getElem?_eq_some_iff.1 hx
        have e1 : m = m.take i ++ m[i] :: m.drop (i + 1) := by rw [← List.drop_eq_getElem_cons h2, List.take_append_drop]
        have e2 : m.set i y = m.take i ++ y :: m.drop (i + 1) := by rw [List.set_eq_take_append_cons_drop, if_pos h2]
        rw [e2]
        conv => rhs; rw [e1]
        refine ((List.Perm.cons _ List.perm_middle).trans (List.Perm.swap _ _ _)).trans ?_
        exact List.Perm.cons _ List.perm_middle.symm
      exact h1.trans (List.perm_append_singleton y m).symm
    · have hi2 : i = m.length := by
        have := (List.getElem?_eq_some_iff.1 hx).1
        simp at this; omega
      subst hi2
      rw [List.getElem?_append_right (Nat.le_refl _)] at hx
      simp at hx
      subst hx
      rw [List.set_append_right _ _ (Nat.le_refl _), List.take_left' rfl]
      exact (List.perm_append_singleton _ m).symm
/-- Cursor c is closed and none of the table's any more. -/
def ShutP (B t : Nat) (F : Nat → Prop) (O : Ob) (c : Nat) (r : List En) (w w' : World) : Prop := ∃ F' L, Tf B t F' (O.1, L) w' ∧ Fs F F' w w' ∧ ((c, r) :: L).Perm O.2 ∧ ∃ x y, Box w' c 133 #[.pointer none, x, y]
theorem clT_good {T : Tab} (hG : Good T) (i : Nat) (z : Nat × Nat) (hz : z.2 ≤ T.sl.length) : Good (clT T i z) :=
  ⟨⟨hG.inv.hlen, hG.inv.nb, hG.inv.cap, hG.inv.next, hG.inv.live, hG.inv.uniq, hG.inv.cnt, hG.inv.hlt⟩, hG.slack, fun y hy => by
    rcases List.mem_or_eq_of_mem_set (List.mem_of_mem_take (show y ∈ (T.cur.set i z).take (T.cur.length - 1) from hy)) with h | h
    · exact hG.cat y h
    · rw [h]; exact hz⟩
theorem shut_post {B t : Nat} {T : Tab} {vs vb vc : Value} {w w' : World} (hG : Good T) (i c a : Nat) (hc : T.cur[i]? = some (c, a)) (z : Nat × Nat) (hz : T.cur[T.cur.length - 1]? = some z) (hp : TabPost B t (clT T i z) (Foot t T vs vb vc) w w') (hb : ∃ x y, Box w' c 133 #[.pointer none, x, y]) :
    ShutP B t (Foot t T vs vb vc) (obs T) c (ents (T.sl.drop a)) w w' := by
  obtain ⟨F', h1, h2⟩ := Tf.post (clT_good hG i z (hG.cat z (List.mem_of_getElem? hz))) rfl hp
  refine ⟨F', _, h1, h2, ?_, hb⟩
  have := (set_take_perm T.cur i (c, a) z hc hz).map (fun c : Nat × Nat => (c.1, ents (T.sl.drop c.2)))
  exact this
theorem close_tf {B t : Nat} {F : Nat → Prop} {O : Ob} {w : World} (h : Tf B t F O w) (h2 : O.2.length < 100000) (c : Nat) (r : List En) (hi : (c, r) ∈ O.2) :
    Calls Tryd.prog 65 #[.pointer (some ⟨c, 0, none⟩)] w fun e w' => e = .returned (.tuple #[]) ∧ ShutP B t F O c r w w' := by
  obtain ⟨T, vs, vb, vc, hT, hG, ho, rfl⟩ := h
  obtain ⟨s1, s2⟩ := obs_sizes hG ho
  subst ho
  obtain ⟨⟨c', a⟩, hm, he⟩ := List.mem_map.1 (show (c, r) ∈ T.cur.map _ from hi)
  simp only [Prod.mk.injEq] at he
  obtain ⟨rfl, rfl⟩ := he
  obtain ⟨i, hc⟩ := List.mem_iff_getElem?.1 hm
  refine (close_any B t T vs vb vc (by omega) i c' a hc w hT).mono ?_
  rintro e w' ⟨rfl, z, hz, hp, hb⟩
  exact ⟨rfl, shut_post hG i c' a hc z hz hp ⟨_, _, hb⟩⟩
theorem end_tf {B t : Nat} {F : Nat → Prop} {O : Ob} {w : World} (h : Tf B t F O w) (h1 : O.1.length < 40000) (h2 : O.2.length < 100000) (c : Nat) (hi : (c, []) ∈ O.2) :
    Calls Tryd.prog 66 #[.pointer (some ⟨c, 0, none⟩)] w fun e w' => e = .returned (.tuple #[zeroV, zeroV, .int .i64 0, .bool false]) ∧ ShutP B t F O c [] w w' := by
  obtain ⟨T, vs, vb, vc, hT, hG, ho, rfl⟩ := h
  obtain ⟨s1, s2⟩ := obs_sizes hG ho
  subst ho
  obtain ⟨⟨c', a⟩, hm, he⟩ := List.mem_map.1 (show (c, []) ∈ T.cur.map _ from hi)
  simp only [Prod.mk.injEq] at he
  obtain ⟨rfl, hx⟩ := he
  obtain ⟨i, hc⟩ := List.mem_iff_getElem?.1 hm
  have hsl := hG.slack
  have hi := (List.getElem?_eq_some_iff.1 hc).1
  refine (next_end B t T vs vb vc (by omega) (by omega) i c' a hc (hG.cat _ hm) hx w hT).mono ?_
  rintro e w' ⟨rfl, q, z, hq, hqe, hz, hp, hb⟩
  refine ⟨rfl, ?_⟩
  have h3 := shut_post (cut_good hG i c' q hq) i c' q (show (cutT T i c' q).cur[i]? = some (c', q) from List.getElem?_set_self hi) z (by rw [show (cutT T i c' q).cur.length = T.cur.length from List.length_set]; exact hz) (by rw [cut_foot hc]; exact hp) hb
  rw [cut_foot hc, show obs (cutT T i c' q) = obs T from ?_, show ents ((cutT T i c' q).sl.drop q) = [] from hqe] at h3
  · exact h3
  · unfold obs
    show (ents T.sl, (T.cur.set i (c', q)).map _) = _
    rw [List.map_set]
    congr 1
    apply List.ext_getElem?
    intro j
    by_cases e : i = j
    · subst e
      rw [List.getElem?_set_self (by simpa using hi), List.getElem?_map, hc]
      show some (c', ents (T.sl.drop q)) = some (c', ents (T.sl.drop a))
      rw [hqe, hx]
    · rw [List.getElem?_set_ne e]
      rfl
theorem new_tf {B : Nat} {w : World} (hB : B ≤ w.heap.size) : Calls Tryd.prog 9 #[] w fun e w' => e = .returned (.pointer (some ⟨w.heap.size, 0, none⟩)) ∧ Tf B w.heap.size (fun k => k = w.heap.size) ([], []) w' ∧ Below w.heap.size w w' := by
  refine (tnew_any w).mono ?_
  rintro e w' ⟨rfl, rfl⟩
  refine ⟨rfl, ⟨T0, _, _, _, tab0 w B hB, good0, rfl, ?_⟩, (Below.refl _ _).alloc (Nat.le_refl _) _⟩
  funext k
  apply propext
  constructor
  · intro h; exact .inl h
  · rintro (h | h | h | h | ⟨x, hx, h⟩)
    · exact h
    · simp [Value.ownBlock] at h
    · simp [Value.ownBlock] at h
    · simp [Value.ownBlock] at h
    · simp [T0] at hx
set_option maxRecDepth 100000 in
theorem open_shut (c : Nat) (a b : Value) (w : World) (h : Box w c 133 #[.pointer none, a, b]) : Calls Tryd.prog 79 #[.pointer (some ⟨c, 0, none⟩)] w fun e w' => e = .returned (.bool false) ∧ w' = w := by
  have c0 : w.cell? ⟨c, 0, none⟩ = some (.pointer none) := h.at_ 0
  clear h
  go_enter Tryd.func79, Tryd.ntmps79
  go_wp2
  go_ret
  exact ⟨rfl, rfl⟩
set_option maxRecDepth 100000 in
theorem close_shut (c : Nat) (a b : Value) (w : World) (h : Box w c 133 #[.pointer none, a, b]) : Calls Tryd.prog 65 #[.pointer (some ⟨c, 0, none⟩)] w fun e w' => e = .returned (.tuple #[]) ∧ w' = w := by
  have HO := Veil.mk (open_shut c a b w h)
  clear h
  go_enter Tryd.func65, Tryd.ntmps65
  go_wp2_with (first | (go_at_call 79; ((with_reducible refine HO.out.mono ?_); rintro e w1 ⟨rfl, rfl⟩)))
  exact bodyPost_ret (results_none rfl _ _ _) rfl ⟨rfl, rfl⟩
set_option maxRecDepth 100000 in
theorem next_shut (c : Nat) (a b : Value) (w : World) (h : Box w c 133 #[.pointer none, a, b]) : Calls Tryd.prog 66 #[.pointer (some ⟨c, 0, none⟩)] w fun e w' => e = .returned (.tuple #[zeroV, zeroV, .int .i64 0, .bool false]) ∧ Below w.heap.size w w' := by
  have HO := Veil.mk (open_shut c a b _ ((h.more (.cells #[.int .i64 0, .int .i64 0, .string ⟨#[]⟩] 45)).more (.cells #[.int .i64 0, .int .i64 0, .string ⟨#[]⟩] 45)))
  clear h
  go_enter Tryd.func66, Tryd.ntmps66
  go_wp2_with (first | (go_at_call 79; ((with_reducible refine HO.out.mono ?_); rintro e w1 ⟨rfl, rfl⟩)))
  exact bodyPost_ret (v := .tuple #[zeroV, zeroV, .int .i64 0, .bool false]) (by simp [results, Tryd.results66, go_sem]) rfl ⟨rfl, ((Below.refl _ _).alloc (Nat.le_refl _) _).alloc (by simp) _⟩
end Go.Proofs.YtbeapojjbgkalaaDoor
