/- Tables: each method, by what is seen. -/
import Derived.Test.YtbeapojjbgkalaaDoorFq
namespace Go.Proofs.YtbeapojjbgkalaaDoor
open Go.RowKit

/-- A table t stands from B on, and O is what is seen of it. -/
def Tb (B t : Nat) (O : Ob) (w : World) : Prop := ∃ T vs vb vc, TabAt w B t T vs vb vc ∧ Good T ∧ obs T = O
/-- What lies below B stands, and so does each box of a value. -/
structure Fr (B : Nat) (w w' : World) : Prop where
  low : Below B w w'
  kept : ∀ g cs, Box w g 45 cs → Box w' g 45 cs
theorem Fr.refl (B : Nat) (w : World) : Fr B w w := ⟨Below.refl _ _, fun _ _ h => h⟩
theorem Fr.trans {B : Nat} {a b c : World} (h : Fr B a b) (h2 : Fr B b c) : Fr B a c := ⟨h.low.trans h2.low, fun g cs hg => h2.kept g cs (h.kept g cs hg)⟩
theorem Fr.of_below {B : Nat} {w w' : World} (hB : B ≤ w.heap.size) (h : Below w.heap.size w w') : Fr B w w' := ⟨h.mono hB, fun _ _ hg => hg.on h hg.lt⟩
theorem Tb.on {B t : Nat} {O : Ob} {w w' : World} (h : Tb B t O w) (hb : Below w.heap.size w w') : Tb B t O w' := by
  obtain ⟨T, vs, vb, vc, h1, h2, h3⟩ := h
  exact ⟨T, vs, vb, vc, h1.on hb, h2, h3⟩
theorem Tb.le {B t : Nat} {O : Ob} {w : World} (h : Tb B t O w) : B ≤ w.heap.size := by
  obtain ⟨T, vs, vb, vc, h1, h2, h3⟩ := h
  have := h1.bt
  have := h1.box.lt
  omega
theorem foot_val {w : World} {B t : Nat} {T : Tab} {vs vb vc : Value} (h : TabAt w B t T vs vb vc) {g : Nat} {cs : Array Value} (hg : Box w g 45 cs) : ¬ Foot t T vs vb vc g := fun hk => by
  have hl := hg.lab
  rcases hk with e | e | e | e | ⟨d, hd, e⟩
  · rw [e] at hl; exact hl.ne h.box.lab (by decide) rfl
  · exact (own_lab h.os g e).ne hl (by decide) rfl
  · exact (own_lab h.ob g e).ne hl (by decide) rfl
  · exact (own_lab h.oc g e).ne hl (by decide) rfl
  · obtain ⟨m, hm, rfl⟩ := List.mem_iff_getElem.1 hd
    have := (h.cs m _ (List.getElem?_eq_getElem hm)).2.lab
    rw [e] at this
    exact this.ne hl (by decide) rfl
theorem fr_touch {w w' : World} {B t : Nat} {T : Tab} {vs vb vc : Value} (h : TabAt w B t T vs vb vc) (ht : Touch (Foot t T vs vb vc) w w') : Fr B w w' :=
  ⟨ht.below (by have := h.bt; have := h.box.lt; omega) (fun k hk => (Foot.lt h hk).1), fun g cs hg => hg.touch ht (foot_val h hg)⟩
theorem Tb.post {B t : Nat} {T T' : Tab} {vs vb vc : Value} {O : Ob} {w w' : World} (h : TabAt w B t T vs vb vc) (hG : Good T') (ho : obs T' = O) (hp : TabPost B t T' (Foot t T vs vb vc) w w') : Tb B t O w' ∧ Fr B w w' := by
  obtain ⟨vs', vb', vc', h1, h2, h3⟩ := hp
  exact ⟨⟨T', vs', vb', vc', h1, hG, ho⟩, fr_touch h h2⟩
theorem obs_sizes {T : Tab} (h : Good T) {O : Ob} (ho : obs T = O) : T.cnt = O.1.length ∧ T.cur.length = O.2.length := by
  subst ho
  refine ⟨?_, by unfold obs; rw [List.length_map]⟩
  show T.cnt = (ents T.sl).length
  rw [ents_len]
  exact h.inv.cnt
theorem put_tb {B t : Nat} {O : Ob} {w : World} (h : Tb B t O w) (h1 : O.1.length < 40000) (h2 : O.2.length < 100000) (k v : Vt) (f : Int) (hk : k.2.2.size ≤ 1000) :
    Calls Tryd.prog 11 #[.pointer (some ⟨t, 0, none⟩), valV k, valV v, .int .i64 f] w fun e w' => e = .returned (.tuple #[]) ∧ Tb B t (putO O (keyT k) v f) w' ∧ Fr B w w' := by
  obtain ⟨T, vs, vb, vc, hT, hG, ho⟩ := h
  obtain ⟨s1, s2⟩ := obs_sizes hG ho
  refine (put_any B t T vs vb vc hG (by omega) (by omega) k v f hk w hT).mono ?_
  rintro e w' ⟨rfl, T', hG', ho', _, _, hp⟩
  exact ⟨rfl, Tb.post hT hG' (by rw [ho', ho]) hp⟩
theorem del_tb {B t : Nat} {O : Ob} {w : World} (h : Tb B t O w) (h1 : O.1.length < 40000) (h2 : O.2.length < 100000) (k : Vt) (hk : k.2.2.size ≤ 1000) :
    Calls Tryd.prog 43 #[.pointer (some ⟨t, 0, none⟩), valV k] w fun e w' => ∃ r : Bool, e = .returned (.bool r) ∧ (r = true ↔ hasK O.1 (keyT k)) ∧ Tb B t (delO O (keyT k)) w' ∧ Fr B w w' := by
  obtain ⟨T, vs, vb, vc, hT, hG, ho⟩ := h
  obtain ⟨s1, s2⟩ := obs_sizes hG ho
  refine (del_any B t T vs vb vc hG (by omega) (by omega) k hk w hT).mono ?_
  rintro e w' ⟨r, rfl, hr, T', hG', ho', _, _, hp⟩
  exact ⟨r, rfl, by rw [hr, ho], Tb.post hT hG' (by rw [ho', ho]) hp⟩
theorem cursor_tb {B t : Nat} {O : Ob} {w : World} (h : Tb B t O w) (h2 : O.2.length < 100000) :
    Calls Tryd.prog 64 #[.pointer (some ⟨t, 0, none⟩)] w fun e w' => ∃ c, e = .returned (.pointer (some ⟨c, 0, none⟩)) ∧ Tb B t (O.1, O.2 ++ [(c, O.1)]) w' ∧ Fr B w w' := by
  obtain ⟨T, vs, vb, vc, hT, hG, ho⟩ := h
  obtain ⟨s1, s2⟩ := obs_sizes hG ho
  refine (cursor_any B t T vs vb vc (by omega) w hT).mono ?_
  rintro e w' ⟨rfl, hp⟩
  exact ⟨_, rfl, Tb.post hT (good_cur hG _) (by rw [obs_cur, ho]) hp⟩
theorem next_tb {B t : Nat} {O : Ob} {w : World} (h : Tb B t O w) (h1 : O.1.length < 40000) (i c : Nat) (x : En) (r : List En) (hi : O.2[i]? = some (c, x :: r)) :
    Calls Tryd.prog 66 #[.pointer (some ⟨c, 0, none⟩)] w fun e w' => e = .returned (.tuple #[valV x.1, valV x.2.1, .int .i64 x.2.2, .bool true]) ∧ Tb B t (O.1, O.2.set i (c, r)) w' ∧ Fr B w w' := by
  obtain ⟨T, vs, vb, vc, hT, hG, ho⟩ := h
  obtain ⟨s1, s2⟩ := obs_sizes hG ho
  subst ho
  unfold obs at hi
  rw [List.getElem?_map] at hi
  obtain ⟨⟨c', a⟩, hc, he⟩ := Option.map_eq_some_iff.1 hi
  simp only [Prod.mk.injEq] at he
  obtain ⟨rfl, hx⟩ := he
  have hsl := hG.slack
  refine (next_some B t T vs vb vc (by omega) i c' a hc x r hx w hT).mono ?_
  rintro e w' ⟨q, rfl, hq, hr, hT', ht⟩
  refine ⟨rfl, ⟨cutT T i c' q, vs, vb, vc, hT', ⟨⟨hG.inv.hlen, hG.inv.nb, hG.inv.cap, hG.inv.next, hG.inv.live, hG.inv.uniq, hG.inv.cnt, hG.inv.hlt⟩, hG.slack, fun y hy => ?_⟩, ?_⟩, fr_touch hT (ht.mono (fun k hk => .inr (.inr (.inr (.inr ⟨(c', a), List.mem_of_getElem? hc, hk.symm⟩)))))⟩
  · rcases List.mem_or_eq_of_mem_set (show y ∈ T.cur.set i (c', q) from hy) with h | h
    · exact hG.cat y h
    · rw [h]; exact hq
  · unfold obs
    show (ents T.sl, (T.cur.set i (c', q)).map _) = _
    rw [List.map_set, ← hr]
    rfl
theorem get_tb {B t : Nat} {O : Ob} {w : World} (h : Tb B t O w) (k : Vt) (hk : k.2.2.size ≤ 1000) :
    Calls Tryd.prog 16 #[.pointer (some ⟨t, 0, none⟩), valV k] w fun e w' => ((∃ x ∈ O.1, x.1 = keyT k ∧ e = .returned (.tuple #[valV x.2.1, .int .i64 x.2.2, .bool true])) ∨ (¬ hasK O.1 (keyT k) ∧ e = .returned (.tuple #[zeroV, .int .i64 0, .bool false]))) ∧ Tb B t O w' ∧ Fr B w w' := by
  have hle := h.le
  have hh := h
  obtain ⟨T, vs, vb, vc, hT, hG, ho⟩ := h
  refine (tget_any B t T vs vb vc hG.inv k hk w hT).mono ?_
  rintro e w' ⟨hr, hb⟩
  rw [ho] at hr
  exact ⟨hr, hh.on hb, Fr.of_below hle hb⟩
theorem len_tb {B t : Nat} {O : Ob} {w : World} (h : Tb B t O w) : Calls Tryd.prog 19 #[.pointer (some ⟨t, 0, none⟩)] w fun e w' => e = .returned (.int .i64 (O.1.length : Int)) ∧ w' = w := by
  obtain ⟨T, vs, vb, vc, hT, hG, ho⟩ := h
  rw [← (obs_sizes hG ho).1]
  exact len_any B t T vs vb vc w hT
theorem new_tb {B : Nat} {w : World} (hB : B ≤ w.heap.size) : Calls Tryd.prog 9 #[] w fun e w' => ∃ t, e = .returned (.pointer (some ⟨t, 0, none⟩)) ∧ Tb B t ([], []) w' ∧ Fr B w w' := by
  refine (tnew_any w).mono ?_
  rintro e w' ⟨rfl, rfl⟩
  exact ⟨_, rfl, ⟨T0, _, _, _, tab0 w B hB, good0, rfl⟩, Fr.of_below hB ((Below.refl _ _).alloc (Nat.le_refl _) _)⟩
end Go.Proofs.YtbeapojjbgkalaaDoor
