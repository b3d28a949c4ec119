/- grow: arrays, any plan; the walk of ShowValues. -/
import Derived.Test.YtgdkjkfbknbgkaaGreatDoorKj
import Derived.Test.YtgdkjkfbknbgkaaGreatDoorKe
namespace Go.Proofs.YtgdkjkfbknbgkaaGreatDoor
open Go Go.RowKit
attribute [local go_sem] Oper.semAt_some

theorem kp_grown {w w' : World} {B n sz : Nat} {T : TypeId} {v : Value} {xs : List Value} (h : w.ownsRow B T sz v n xs) (hg : w.grownBy w' v.ownBlock) : Kp [T] w w' := fun k t hl ht => hg.block k (lab_lt hl) (fun e => by
  have e2 : t = T := by
    by_cases c : t = T
    · exact c
    · exact absurd rfl (hl.ne (own_lab h k e.symm) c)
  subst e2
  simp at ht)
/-- x = append(x, e) in such a region: ib makes the new element's row, ia appends. -/
structure ApT (WD : World) (B : Nat) (T : TypeId) (sz n : Nat) (pv : Value) (xs cs : List Value) (ib ia : Nat) (d : Nat → Bool) (us : Nat → Value) (w : World) : Prop where
  z : d ia = false → w.ownsRow B T sz pv n xs
  b : d ib = true → ∃ g, us ib = .slice (some ⟨g, 0, none⟩) 1 1 ∧ (d ia = false → Lab w g T ∧ ∀ j u, cs[j]? = some u → w.cell? ((⟨g, 0, none⟩ : Addr).add j) = some u)
  s : d ia = true → d ib = true ∧ ∃ r cap, us ia = .slice (some ⟨r, 0, none⟩) (n + 1) cap ∧ w.ownsRow B T sz (.slice (some ⟨r, 0, none⟩) (n + 1) cap) (n + 1) (xs ++ cs) ∧ (pv.ownBlock = some r ∨ WD.heap.size ≤ r)
section
variable {WD : World} {B : Nat} {T : TypeId} {sz n : Nat} {pv : Value} {xs cs : List Value} {ib ia : Nat} {d : Nat → Bool} {us : Nat → Value} {w w' : World}
theorem ApT.other (h : ApT WD B T sz n pv xs cs ib ia d us w) (i : Nat) (v : Value) (hb : i ≠ ib) (ha : i ≠ ia) {ts : List TypeId} (hk : Kp ts w w') (ht : ts.contains T = false) : ApT WD B T sz n pv xs cs ib ia (upd d i true) (upd us i v) w' := by
  refine ⟨fun e => ?_, fun e => ?_, fun e => ?_⟩
  · rw [upd_ne _ _ (Ne.symm ha)] at e
    exact own_kp (h.z e) hk ht
  · rw [upd_ne _ _ (Ne.symm hb)] at e
    rw [upd_ne _ _ (Ne.symm hb), upd_ne _ _ (Ne.symm ha)]
    obtain ⟨g, h1, h2⟩ := h.b e
    refine ⟨g, h1, fun e2 => ?_⟩
    obtain ⟨h3, h4⟩ := h2 e2
    refine ⟨hk.lab h3 ht, fun j u hj => ?_⟩
    have h9 := h4 j u hj
    rw [cell_of_row2] at h9 ⊢
    rw [cell_blk (hk g _ h3 ht)]
    exact h9
  · rw [upd_ne _ _ (Ne.symm ha)] at e
    rw [upd_ne _ _ (Ne.symm hb), upd_ne _ _ (Ne.symm ha)]
    obtain ⟨h1, r, cap, h2, h3, h4⟩ := h.s e
    exact ⟨h1, r, cap, h2, own_kp h3 hk ht, h4⟩
theorem ApT.mk_ (h : ApT WD B T sz n pv xs cs ib ia d us w) (hba : ib ≠ ia) (hd : d ib = false) : ApT WD B T sz n pv xs cs ib ia (upd d ib true) (upd us ib (.slice (some ⟨w.heap.size, 0, none⟩) 1 1)) (w.alloc (.cells cs.toArray T)) := by
  have hda : d ia = false := by
    cases e : d ia with
    | false => rfl
    | true => rw [(h.s e).1] at hd; cases hd
  refine ⟨fun _ => (h.z hda).alloc _, fun _ => ⟨w.heap.size, upd_same _ _ _, fun _ => ⟨⟨_, _, (Box.new w T cs.toArray)⟩, news_at _ _ rfl _ _⟩⟩, fun e => ?_⟩
  rw [upd_ne _ _ (Ne.symm hba), hda] at e
  cases e
theorem ApT.app (h : ApT WD B T sz n pv xs cs ib ia d us w) (hba : ib ≠ ia) (hsz : WD.heap.size ≤ w.heap.size) (hb : d ib = true) {r cap : Nat} (ho : w'.ownsRow B T sz (.slice (some ⟨r, 0, none⟩) (n + 1) cap) (n + 1) (xs ++ cs)) (hr : pv.ownBlock = some r ∨ r = w.heap.size) : ApT WD B T sz n pv xs cs ib ia (upd d ia true) (upd us ia (.slice (some ⟨r, 0, none⟩) (n + 1) cap)) w' := by
  refine ⟨fun e => ?_, fun _ => ?_, fun _ => ?_⟩
  · rw [upd_same] at e; cases e
  · rw [upd_ne _ _ hba]
    obtain ⟨g, h1, h2⟩ := h.b hb
    exact ⟨g, h1, fun e => (by rw [upd_same] at e; cases e)⟩
  · rw [upd_ne _ _ hba, upd_same]
    exact ⟨hb, r, cap, rfl, ho, hr.imp id (fun e => by omega)⟩
end

abbrev VTy : TypeId := 30
abbrev RTy : TypeId := 33
abbrev vL (v : Vt) : List Value := [.int .i64 v.1, .int .i64 v.2.1, .string v.2.2]
abbrev rL (x : RVt) : List Value := [.int .i64 x.1.1, .int .i64 x.1.2.1, .string x.1.2.2, .pointer x.2]
abbrev aObj (ev : Value) : Array Value := rObj ⟨#[65, 114, 114, 97, 121]⟩ ev 0 0 ⟨#[]⟩
/-- Where the region stands. -/
structure R27 (WD : World) (B ob n : Nat) (av ev : Value) (fa fe : List Value) (v : Vt) (x : RVt) (d : Nat → Bool) (us : Nat → Value) (w : World) : Prop where
  ta : ApT WD B VTy 3 n av fa (vL v) 3 4 d us w
  tb : ApT WD B RTy 4 n ev fe (rL x) 10 11 d us w
  z16 : d 16 = false → Box w ob 79 (aObj ev)
  s16 : d 16 = true → d 11 = true ∧ Box w ob 79 (aObj (us 11))
  c13 : d 13 = true → d 4 = true ∧ us 13 = us 4
  n13 : d 13 = false → us 13 = av
  tch : Touch (fun k => av.ownBlock = some k ∨ ev.ownBlock = some k ∨ k = ob) WD w
section
variable {WD : World} {B ob n : Nat} {av ev : Value} {fa fe : List Value} {v : Vt} {x : RVt} {d : Nat → Bool} {us : Nat → Value} {w w' : World}
theorem R27.rest (h : R27 WD B ob n av ev fa fe v x d us w) (i : Nat) (u : Value) (hi : d i = false) (h16 : i ≠ 16) (h13 : i ≠ 13) {ts : List TypeId} (hk : Kp ts w w') (ht : ts.contains 79 = false) : (upd d i true 16 = false → Box w' ob 79 (aObj ev)) ∧ (upd d i true 16 = true → upd d i true 11 = true ∧ Box w' ob 79 (aObj (upd us i u 11))) ∧ (upd d i true 13 = true → upd d i true 4 = true ∧ upd us i u 13 = upd us i u 4) := by
  have key : ∀ j, d j = true → upd d i true j = true ∧ upd us i u j = us j := fun j hj => by
    have : j ≠ i := fun e => by subst e; rw [hj] at hi; cases hi
    rw [upd_ne _ _ this, upd_ne _ _ this]
    exact ⟨hj, rfl⟩
  refine ⟨fun e => ?_, fun e => ?_, fun e => ?_⟩
  · rw [upd_ne _ _ (Ne.symm h16)] at e
    exact hk.box (h.z16 e) ht
  · rw [upd_ne _ _ (Ne.symm h16)] at e
    obtain ⟨h1, h2⟩ := h.s16 e
    rw [(key 11 h1).2]
    exact ⟨(key 11 h1).1, hk.box h2 ht⟩
  · rw [upd_ne _ _ (Ne.symm h13)] at e
    obtain ⟨h1, h2⟩ := h.c13 e
    rw [(key 4 h1).2, (key 13 e).2]
    exact ⟨(key 4 h1).1, h2⟩
theorem R27.n_ (h : R27 WD B ob n av ev fa fe v x d us w) (i : Nat) (u : Value) (hi : i ≠ 13) : upd d i true 13 = false → upd us i u 13 = av := fun e => by
  rw [upd_ne _ _ (Ne.symm hi)] at e ⊢
  exact h.n13 e
theorem R27.pure (h : R27 WD B ob n av ev fa fe v x d us w) (i : Nat) (u : Value) (hi : d i = false) (hn : i ≠ 3 ∧ i ≠ 4 ∧ i ≠ 10 ∧ i ≠ 11 ∧ i ≠ 13 ∧ i ≠ 16) : R27 WD B ob n av ev fa fe v x (upd d i true) (upd us i u) w := by
  obtain ⟨q1, q2, q3⟩ := h.rest i u hi hn.2.2.2.2.2 hn.2.2.2.2.1 (Kp.refl (ts := [])) rfl
  exact ⟨h.ta.other i u hn.1 hn.2.1 (Kp.refl (ts := [])) rfl, h.tb.other i u hn.2.2.1 hn.2.2.2.1 (Kp.refl (ts := [])) rfl, q1, q2, q3, h.n_ i u hn.2.2.2.2.1, h.tch⟩
theorem R27.a3 (h : R27 WD B ob n av ev fa fe v x d us w) (hi : d 3 = false) : R27 WD B ob n av ev fa fe v x (upd d 3 true) (upd us 3 (.slice (some ⟨w.heap.size, 0, none⟩) 1 1)) (w.alloc (.cells (vC v) VTy)) := by
  have hb : Below w.heap.size w (w.alloc (.cells (vC v) VTy)) := (Below.refl _ _).alloc (Nat.le_refl _) _
  obtain ⟨q1, q2, q3⟩ := h.rest 3 (.slice (some ⟨w.heap.size, 0, none⟩) 1 1) hi (by decide) (by decide) (Kp.of_below (ts := []) hb) rfl
  exact ⟨h.ta.mk_ (by decide) hi, h.tb.other 3 _ (by decide) (by decide) (Kp.of_below (ts := []) hb) rfl, q1, q2, q3, h.n_ _ _ (by decide), h.tch.trans (Touch.of_below hb)⟩
theorem R27.b10 (h : R27 WD B ob n av ev fa fe v x d us w) (hi : d 10 = false) : R27 WD B ob n av ev fa fe v x (upd d 10 true) (upd us 10 (.slice (some ⟨w.heap.size, 0, none⟩) 1 1)) (w.alloc (.cells (rC x) RTy)) := by
  have hb : Below w.heap.size w (w.alloc (.cells (rC x) RTy)) := (Below.refl _ _).alloc (Nat.le_refl _) _
  obtain ⟨q1, q2, q3⟩ := h.rest 10 (.slice (some ⟨w.heap.size, 0, none⟩) 1 1) hi (by decide) (by decide) (Kp.of_below (ts := []) hb) rfl
  exact ⟨h.ta.other 10 _ (by decide) (by decide) (Kp.of_below (ts := []) hb) rfl, h.tb.mk_ (by decide) hi, q1, q2, q3, h.n_ _ _ (by decide), h.tch.trans (Touch.of_below hb)⟩
theorem R27.a4 (h : R27 WD B ob n av ev fa fe v x d us w) (hi : d 4 = false) (hb : d 3 = true) {r cap : Nat} (ho : w'.ownsRow B VTy 3 (.slice (some ⟨r, 0, none⟩) (n + 1) cap) (n + 1) (fa ++ vL v)) (hg : w.grownBy w' av.ownBlock) (hr : av.ownBlock = some r ∨ r = w.heap.size) : R27 WD B ob n av ev fa fe v x (upd d 4 true) (upd us 4 (.slice (some ⟨r, 0, none⟩) (n + 1) cap)) w' := by
  have hk := kp_grown (h.ta.z hi) hg
  obtain ⟨q1, q2, q3⟩ := h.rest 4 (.slice (some ⟨r, 0, none⟩) (n + 1) cap) hi (by decide) (by decide) hk rfl
  exact ⟨h.ta.app (by decide) h.tch.size hb ho hr, h.tb.other 4 _ (by decide) (by decide) hk rfl, q1, q2, q3, h.n_ _ _ (by decide), h.tch.trans (Touch.of_grown hg (fun k hk => .inl hk))⟩
theorem R27.b11 (h : R27 WD B ob n av ev fa fe v x d us w) (hi : d 11 = false) (hb : d 10 = true) {r cap : Nat} (ho : w'.ownsRow B RTy 4 (.slice (some ⟨r, 0, none⟩) (n + 1) cap) (n + 1) (fe ++ rL x)) (hg : w.grownBy w' ev.ownBlock) (hr : ev.ownBlock = some r ∨ r = w.heap.size) : R27 WD B ob n av ev fa fe v x (upd d 11 true) (upd us 11 (.slice (some ⟨r, 0, none⟩) (n + 1) cap)) w' := by
  have hk := kp_grown (h.tb.z hi) hg
  obtain ⟨q1, q2, q3⟩ := h.rest 11 (.slice (some ⟨r, 0, none⟩) (n + 1) cap) hi (by decide) (by decide) hk rfl
  exact ⟨h.ta.other 11 _ (by decide) (by decide) hk rfl, h.tb.app (by decide) h.tch.size hb ho hr, q1, q2, q3, h.n_ _ _ (by decide), h.tch.trans (Touch.of_grown hg (fun k hk => .inr (.inl hk)))⟩
theorem R27.p13 (h : R27 WD B ob n av ev fa fe v x d us w) (hb : d 4 = true) : R27 WD B ob n av ev fa fe v x (upd d 13 true) (upd us 13 (us 4)) w := by
  refine ⟨h.ta.other 13 _ (by decide) (by decide) (Kp.refl (ts := [])) rfl, h.tb.other 13 _ (by decide) (by decide) (Kp.refl (ts := [])) rfl, fun e => ?_, fun e => ?_, fun _ => ?_, fun e => (by rw [upd_same] at e; cases e), h.tch⟩
  · rw [upd_ne _ _ (by decide)] at e
    exact h.z16 e
  · rw [upd_ne _ _ (by decide)] at e
    rw [upd_ne _ _ (by decide), upd_ne _ _ (by decide)]
    exact h.s16 e
  · rw [upd_same, upd_ne _ _ (by decide), upd_ne _ _ (by decide)]
    exact ⟨hb, rfl⟩
theorem R27.p16 (h : R27 WD B ob n av ev fa fe v x d us w) (hi : d 16 = false) (hb : d 11 = true) (u : Value) (hu : us 11 = u) : R27 WD B ob n av ev fa fe v x (upd d 16 true) (upd us 16 undef) (w.setCell ⟨ob, 3, none⟩ u) := by
  have hz := h.z16 hi
  have hk : Kp [79] w (w.setCell ⟨ob, 3, none⟩ u) := Kp.put hz.lab rfl _ _
  refine ⟨h.ta.other 16 _ (by decide) (by decide) hk rfl, h.tb.other 16 _ (by decide) (by decide) hk rfl, fun e => ?_, fun _ => ?_, fun e => ?_, h.n_ _ _ (by decide), h.tch.trans ((Touch.put (S := fun k => k = ob) rfl _ _).mono (fun k hk => .inr (.inr hk)))⟩
  · rw [upd_same] at e; cases e
  · rw [upd_ne _ _ (by decide), upd_ne _ _ (by decide), hu]
    exact ⟨hb, hz.put 3 u⟩
  · rw [upd_ne _ _ (by decide)] at e
    rw [upd_ne _ _ (by decide), upd_ne _ _ (by decide), upd_ne _ _ (by decide)]
    exact h.c13 e
theorem R27.start (ha : w.ownsRow B VTy 3 av n fa) (he : w.ownsRow B RTy 4 ev n fe) (hb : Box w ob 79 (aObj ev)) (h13 : us 13 = av) : R27 w B ob n av ev fa fe v x (fun _ => false) us w :=
  ⟨⟨fun _ => ha, fun e => (by cases e), fun e => (by cases e)⟩, ⟨fun _ => he, fun e => (by cases e), fun e => (by cases e)⟩, fun _ => hb, fun e => (by cases e), fun e => (by cases e), fun _ => h13, Touch.refl _ _⟩
end

/-- Blocks that no loop's own row, no object under way and no result is in. -/
def FF (w0 : World) (av ev : Value) (ob vb rb b : Nat) : Prop := w0.heap.size ≤ b ∧ av.ownBlock ≠ some b ∧ ev.ownBlock ≠ some b ∧ b ≠ ob ∧ b ≠ vb ∧ b ≠ rb
theorem RowF.lt {F : Nat → Prop} {W : World} {ev : Value} {l : List Vt} (hf : RowF F ev) (hr : RowV W ev l) : RowF (fun b => F b ∧ b < W.heap.size) ev := fun ad n cap e => by
  refine ⟨hf ad n cap e, ?_⟩
  obtain ⟨ao, cap2, e2, -, -, h3⟩ := hr
  rw [e] at e2
  injection e2 with e3 e4 e5
  obtain ⟨g, e6, hl, -⟩ := h3 ad e3.symm
  rw [e6]
  exact lab_lt hl
theorem RRowF.lt {F : Nat → Prop} {W : World} {ev : Value} {l : List RVt} (hr : RRowF F W ev l) : RRowF (fun b => F b ∧ b < W.heap.size) W ev l := by
  obtain ⟨ao, cap, e, h1, h2⟩ := hr
  refine ⟨ao, cap, e, h1, fun ad had => ?_⟩
  obtain ⟨g, e2, hf, hl, hc⟩ := h2 ad had
  exact ⟨g, e2, ⟨hf, lab_lt hl⟩, hl, hc⟩
theorem ShB.lt {F : Nat → Prop} {W : World} {os : List OS} {v : Vt} {x : RVt} {s : ByteArray} (h : ShB F W os v x s) : ShB (fun b => F b ∧ b < W.heap.size) W os v x s := by
  rcases h with h | ⟨i, b, l, o, rc, h1, h2, h3, h4, h5, h6, h7, h8⟩ | ⟨i, b, cs, c, cn, nm, o, rc, h1, h2, h3, h4, h5, h6, h7, h8, h9, h10⟩
  · exact .inl h
  · exact .inr (.inl ⟨i, b, l, o, rc, h1, h2, h3, h4, h5, ⟨h6, h7.lt⟩, h7, h8⟩)
  · exact .inr (.inr ⟨i, b, cs, c, cn, nm, o, rc, h1, h2, h3, h4, h5, h6, h7, ⟨h8, h9.lt⟩, h9, h10⟩)
theorem ArrC.lt {F : Nat → Prop} {W : World} {os : List OS} {v : Vt} {x : RVt} {l : List Vt} {xs : List RVt} (h : ArrC F W os v x l xs) : ArrC (fun b => F b ∧ b < W.heap.size) W os v x l xs := by
  obtain ⟨hl, h3, i, b, cs, ev, o, rc, rev, q1, q2, q3, q4, q5, q6, q7, q8, q9, q10, q11, q12, q13⟩ := h
  exact ⟨hl, h3, i, b, cs, ev, o, rc, rev, q1, q2, q3, q4, q5, q6, q7.lt q6, q8, ⟨q9, q10.lt⟩, q10, q11, q12, q13.lt⟩
theorem Sh.lt {F : Nat → Prop} {W : World} {os : List OS} : ∀ (k : Nat) (v : Vt) (x : RVt) (s : ByteArray), Sh F W os k v x s → Sh (fun b => F b ∧ b < W.heap.size) W os k v x s := by
  intro k
  induction k with
  | zero =>
    rintro v x s (h | ⟨h, l, xs, ha⟩)
    · exact .inl h.lt
    · exact .inr ⟨h, l, xs, ha.lt⟩
  | succ k ih =>
    rintro v x s (h | ⟨l, xs, parts, ha, h1, h2, h3, h4⟩)
    · exact .inl h.lt
    · exact .inr ⟨l, xs, parts, ha.lt, h1, h2, fun i y z p a b c => ih _ _ _ (h3 i y z p a b c), h4⟩
theorem kp_touch {w w' : World} {S : Nat → Prop} {ts : List TypeId} (ht : Touch S w w') (hS : ∀ k t, S k → Lab w k t → ts.contains t = true) : Kp ts w w' := fun k t hl hc => ht.block k (lab_lt hl) (fun hk => by rw [hS k t hk hl] at hc; cases hc)
theorem Lab.same {w : World} {k : Nat} {t t' : TypeId} (h : Lab w k t) (h' : Lab w k t') : t' = t := by
  by_cases e : t' = t
  · exact e
  · exact absurd rfl (h'.ne h e)
theorem rrow_own {W : World} {B : Nat} {v : Value} {l : List RVt} (h : W.ownsRow B RTy 4 v l.length (flatR l)) : RRowF (fun b => B ≤ b) W v l := by
  have hlt := fun k hk => own_lt h k hk
  rcases h.2 with ⟨rfl, h0⟩ | ⟨g, cap, cur, rfl, hB, hb, hc, _⟩
  · have : l = [] := List.length_eq_zero_iff.1 h0
    subst this
    exact ⟨none, 0, rfl, fun _ => rfl, fun ad h => (by cases h)⟩
  · refine ⟨_, cap, rfl, fun h => (by cases h), fun ad had => ⟨g, by injection had with had; exact had.symm, (hlt g rfl).1, ⟨cur, _, hb⟩, fun j u hj => ?_⟩⟩
    have hjl : j < (flatR l).length := (List.getElem?_eq_some_iff.1 hj).1
    rw [flatR_len] at hjl
    rw [h.cellAt j hjl]
    exact hj
theorem flatV_snoc (l : List Vt) (v : Vt) : flatV (l ++ [v]) = flatV l ++ vL v := by simp [flatV]
theorem flatR_snoc (l : List RVt) (x : RVt) : flatR (l ++ [x]) = flatR l ++ rL x := by simp [flatR]
theorem pick_list {P : Nat → ByteArray → Prop} : ∀ n, (∀ i, i < n → ∃ p, P i p) → ∃ l : List ByteArray, l.length = n ∧ ∀ (i : Nat) p, l[i]? = some p → P i p
  | 0, _ => ⟨[], rfl, fun i p h => by simp at h⟩
  | n + 1, h => by
    obtain ⟨l, hl, hp⟩ := pick_list n (fun i hi => h i (by omega))
    obtain ⟨p, hpn⟩ := h n (by omega)
    refine ⟨l ++ [p], by simp [hl], fun i q hq => ?_⟩
    by_cases e : i < n
    · rw [List.getElem?_append_left (by omega)] at hq
      exact hp i q hq
    · rw [List.getElem?_append_right (by omega)] at hq
      have hi := (List.getElem?_eq_some_iff.1 hq).1
      simp at hi
      have e2 : i = n := by omega
      subst e2
      simp [hl] at hq
      subst hq
      exact hpn
theorem arrS_size (parts : List ByteArray) (k : Nat) (h : parts.length ≤ 3) (hp : ∀ p ∈ parts, p.size ≤ bnd k) : (arrS parts).size ≤ bnd (k + 1) := by
  have hb : bnd (k + 1) = 4 * bnd k := by unfold bnd; rw [Nat.pow_succ]; omega
  have hlo := bnd_lo k
  have sz : ∀ p : ByteArray, p.data.toList.length = p.size := fun p => by rw [Array.length_toList]; rfl
  have key : (Lib.join (parts.map (·.data.toList)) [44, 32]).length ≤ 3 * bnd k + 6 := by
    match parts, h, hp with
    | [], _, _ => simp [Lib.join]
    | [a], _, hp =>
      have := hp a (by simp)
      simp [Lib.join_one, sz]
      omega
    | [a, b], _, hp =>
      have := hp a (by simp)
      have := hp b (by simp)
      simp [Lib.join_cons, Lib.joinTail, sz]
      omega
    | [a, b, c], _, hp =>
      have := hp a (by simp)
      have := hp b (by simp)
      have := hp c (by simp)
      simp [Lib.join_cons, Lib.joinTail, sz]
      omega
  unfold arrS
  rw [ByteArray.size_append, ByteArray.size_append]
  show 1 + (_ : Array UInt8).size + 1 ≤ _
  rw [List.size_toArray]
  omega
theorem bnd_top (k : Nat) (hk : k ≤ 3) : bnd k ≤ 1000000 := by
  have : k = 0 ∨ k = 1 ∨ k = 2 ∨ k = 3 := by omega
  rcases this with rfl | rfl | rfl | rfl <;> decide
/-- Where the loop stands. -/
structure ARI (w0 : World) (h A m : Nat) (f : Nat → Int) (os0 : List OS) (n at0 ob pb vb rb : Nat) (plan : Array Value) (k at1 : Nat) (av ev : Value) (vs : List Vt) (xs : List RVt) (os1 : List OS) (wr : World) : Prop where
  mm : Y.MM wr h A m f os1
  ext : ∃ e, os1 = os0 ++ e
  bel : Below A w0 wr
  kp : Kp arT w0 wr
  b5 : Box wr pb 24 plan
  b8 : Box wr vb 30 #[.int .i64 0, .int .i64 0, .string ⟨#[]⟩]
  b9 : Box wr rb 33 #[.int .i64 0, .int .i64 0, .string ⟨#[]⟩, .pointer none]
  bo : Box wr ob 79 (aObj ev)
  oa : wr.ownsRow w0.heap.size VTy 3 av vs.length (flatV vs)
  oe : wr.ownsRow w0.heap.size RTy 4 ev vs.length (flatR xs)
  lx : xs.length = vs.length
  lv : vs.length ≤ k
  lo : at0 + 1 ≤ at1
  hi : at1 ≤ n
  cnt : os1.length + (n - at1) + 1 ≤ os0.length + (n - at0)
  na : av.ownBlock ≠ some vb
  ne : ev.ownBlock ≠ some rb
  fr : A ≤ w0.heap.size ∧ w0.heap.size ≤ ob ∧ w0.heap.size ≤ vb ∧ w0.heap.size ≤ rb
  sh : ∀ (i : Nat) y z, vs[i]? = some y → xs[i]? = some z → ∀ k, k ≤ 3 → ∃ s, s.size ≤ bnd k ∧ Sh (FF w0 av ev ob vb rb) wr os1 k y z s
section
variable {w0 : World} {h A m : Nat} {f : Nat → Int} {os0 : List OS} {n at0 ob pb vb rb : Nat} {plan : Array Value} {k at1 : Nat} {av ev : Value} {vs : List Vt} {xs : List RVt} {os1 : List OS} {wr : World}
/-- A round: a value by a call, then both appends. -/
theorem ARI.next (H : ARI w0 h A m f os0 n at0 ob pb vb rb plan k at1 av ev vs xs os1 wr) {v : Vt} {x : RVt} {at2 : Nat} {os2 : List OS} {w6 WD wE : World} (hm6 : Y.MM w6 h A m f os2) (hx6 : ∃ e, os2 = os1 ++ e) (hb6 : Below A wr w6) (hk6 : Kp arT wr w6) (hlo : at1 ≤ at2) (hhi : at2 ≤ n) (hcnt : os2.length + (n - at2) ≤ os1.length + (n - at1)) (hs6 : ∀ k, k ≤ 3 → ∃ s, s.size ≤ bnd k ∧ Sh (fun b => wr.heap.size ≤ b) w6 os2 k v x s) (hbD : Below w6.heap.size w6 WD) {d : Nat → Bool} {us : Nat → Value} (hR : R27 WD w0.heap.size ob vs.length av ev (flatV vs) (flatR xs) v x d us wE) (hd : ∀ i, i < 18 → d i = true) : ∃ av2 ev2, us 13 = av2 ∧ ARI w0 h A m f os0 n at0 ob pb vb rb plan (k + 1) at2 av2 ev2 (vs ++ [v]) (xs ++ [x]) os2 wE := by
  obtain ⟨-, r, cap, ha1, ha2, ha3⟩ := hR.ta.s (hd 4 (by omega))
  obtain ⟨-, r2, cap2, he1, he2, he3⟩ := hR.tb.s (hd 11 (by omega))
  obtain ⟨-, hob⟩ := hR.s16 (hd 16 (by omega))
  obtain ⟨-, h13⟩ := hR.c13 (hd 13 (by omega))
  rw [he1] at hob
  have hszr : wr.heap.size ≤ w6.heap.size := hb6.size
  have hszD : w6.heap.size ≤ WD.heap.size := hbD.size
  have hsz0 : w0.heap.size ≤ wr.heap.size := H.bel.size
  have halt : ∀ k, av.ownBlock = some k → w0.heap.size ≤ k ∧ k < wr.heap.size := fun k hk => own_lt H.oa k hk
  have helt : ∀ k, ev.ownBlock = some k → w0.heap.size ≤ k ∧ k < wr.heap.size := fun k hk => own_lt H.oe k hk
  have hblt := H.bo.lt
  have hvlt := H.b8.lt
  have hrlt := H.b9.lt
  have hkD : Kp arT wr WD := hk6.trans (Kp.of_below hbD)
  have hbeD : Below A wr WD := hb6.trans (hbD.mono (Nat.le_trans (Nat.le_trans H.fr.1 hsz0) hszr))
  have hlabs : ∀ q t, (av.ownBlock = some q ∨ ev.ownBlock = some q ∨ q = ob) → Lab WD q t → [VTy, RTy, 79].contains t = true := fun q t hq hl => by
    rcases hq with hq | hq | hq
    · have := hl.same (hkD.lab (own_lab H.oa q hq) rfl)
      subst this
      decide
    · have := hl.same (hkD.lab (own_lab H.oe q hq) rfl)
      subst this
      decide
    · subst hq
      have := hl.same (hkD.lab H.bo.lab rfl)
      subst this
      decide
  have hkT := kp_touch hR.tch hlabs
  have hav : (us 4).ownBlock = some r := by rw [ha1]; rfl
  have hevb : (us 11).ownBlock = some r2 := by rw [he1]; rfl
  have hlow : ∀ q, (av.ownBlock = some q ∨ ev.ownBlock = some q ∨ q = ob) → w0.heap.size ≤ q := fun q hq => by
    rcases hq with hq | hq | hq
    · exact (halt q hq).1
    · exact (helt q hq).1
    · rw [hq]; exact H.fr.2.1
  have hvn : ¬ (av.ownBlock = some vb ∨ ev.ownBlock = some vb ∨ vb = ob) := fun hq => by
    rcases hq with hq | hq | hq
    · exact H.na hq
    · exact absurd rfl (H.b8.lab.ne (own_lab H.oe vb hq) (by decide))
    · exact H.b8.lab.ne H.bo.lab (by decide) hq
  have hrn : ¬ (av.ownBlock = some rb ∨ ev.ownBlock = some rb ∨ rb = ob) := fun hq => by
    rcases hq with hq | hq | hq
    · exact absurd rfl (H.b9.lab.ne (own_lab H.oa rb hq) (by decide))
    · exact H.ne hq
    · exact H.b9.lab.ne H.bo.lab (by decide) hq
  have hFF : ∀ b, b < WD.heap.size → w0.heap.size ≤ b → av.ownBlock ≠ some b → ev.ownBlock ≠ some b → b ≠ ob → b ≠ vb → b ≠ rb → FF w0 (us 4) (us 11) ob vb rb b := fun b h1 h2 h3 h4 h5 h6 h7 => by
    refine ⟨h2, fun e => ?_, fun e => ?_, h5, h6, h7⟩
    · rw [hav] at e
      have e := Option.some.inj e
      rcases ha3 with ha3 | ha3
      · exact h3 (by rw [← e]; exact ha3)
      · omega
    · rw [hevb] at e
      have e := Option.some.inj e
      rcases he3 with he3 | he3
      · exact h4 (by rw [← e]; exact he3)
      · omega
  obtain ⟨ex1, hex1⟩ := H.ext
  obtain ⟨ex2, hex2⟩ := hx6
  have hpre : ∀ (i : Nat) (o : OS), os1[i]? = some o → os2[i]? = some o := fun i o hi => by
    rw [hex2, List.getElem?_append_left (List.getElem?_eq_some_iff.1 hi).1]
    exact hi
  refine ⟨us 4, us 11, h13, ?_⟩
  rw [ha1, he1] at *
  refine ⟨(hm6.on hbD).kp hkT (by decide), ⟨ex1 ++ ex2, by rw [hex2, hex1, List.append_assoc]⟩, H.bel.trans (hbeD.trans (hR.tch.below (Nat.le_trans H.fr.1 (Nat.le_trans hsz0 hbeD.size)) (fun q hq => Nat.le_trans H.fr.1 (hlow q hq)))), ?_, hkT.box (hkD.box H.b5 rfl) (by decide), (hkD.box H.b8 rfl).touch hR.tch hvn, (hkD.box H.b9 rfl).touch hR.tch hrn, hob, ?_, ?_, ?_, ?_, ?_, hhi, ?_, ?_, ?_, H.fr, ?_⟩
  · intro q t hl ht
    have h1 := (H.kp.trans hkD) q t hl ht
    have hq := lab_lt hl
    exact (hR.tch.block q (Nat.lt_of_lt_of_le hq (Nat.le_trans hsz0 hbeD.size)) (fun hs => by have := hlow q hs; omega)).trans h1
  · rw [List.length_append, flatV_snoc]
    exact ha2
  · rw [List.length_append, flatR_snoc]
    exact he2
  · rw [List.length_append, List.length_append, H.lx]
    rfl
  · rw [List.length_append]
    have := H.lv
    show vs.length + 1 ≤ _
    omega
  · have := H.lo
    omega
  · have := H.cnt
    omega
  · intro e
    have e : r = vb := Option.some.inj e
    rcases ha3 with ha3 | ha3
    · exact hvn (.inl (by rw [← e]; exact ha3))
    · omega
  · intro e
    have e : r2 = rb := Option.some.inj e
    rcases he3 with he3 | he3
    · exact hrn (.inr (.inl (by rw [← e]; exact he3)))
    · omega
  · intro i y z hy hz k hk
    by_cases hi : i < vs.length
    · rw [List.getElem?_append_left hi] at hy
      rw [List.getElem?_append_left (by rw [H.lx]; exact hi)] at hz
      obtain ⟨s, hs1, hs2⟩ := H.sh i y z hy hz k hk
      refine ⟨s, hs1, (Sh.go ?_ hpre ?_ k y z s (Sh.lt k y z s hs2))⟩
      · refine (Pres.kp hkD rfl rfl rfl).trans (fun q t hq hl _ => hR.tch.block q (lab_lt hl) (fun hs => ?_))
        obtain ⟨⟨-, q1, q2, q3, -⟩, -⟩ := hq
        rcases hs with hs | hs | hs
        · exact q1 hs
        · exact q2 hs
        · exact q3 hs
      · rintro b ⟨⟨q0, q1, q2, q3, q4, q5⟩, hbl⟩
        exact hFF b (by omega) q0 q1 q2 q3 q4 q5
    · rw [List.getElem?_append_right (by omega)] at hy
      rw [List.getElem?_append_right (by rw [H.lx]; omega), H.lx] at hz
      have hiy := (List.getElem?_eq_some_iff.1 hy).1
      simp at hiy
      have e2 : i - vs.length = 0 := by omega
      rw [e2] at hy hz
      have hy : v = y := by simpa using hy
      have hz : x = z := by simpa using hz
      subst hy hz
      obtain ⟨s, hs1, hs2⟩ := hs6 k hk
      refine ⟨s, hs1, (Sh.go ?_ (fun _ _ h => h) ?_ k v x s (Sh.lt k v x s hs2))⟩
      · refine (Pres.on hbD).trans (fun q t hq hl _ => hR.tch.block q (lab_lt hl) (fun hs => ?_))
        have hq1 : wr.heap.size ≤ q := hq.1
        rcases hs with hs | hs | hs
        · have := (halt q hs).2; omega
        · have := (helt q hs).2; omega
        · omega
      · rintro b ⟨hb1, hb2⟩
        have hb1 : wr.heap.size ≤ b := hb1
        refine hFF b (by omega) (by omega) (fun e => ?_) (fun e => ?_) (by omega) (by omega) (by omega)
        · have := (halt b e).2; omega
        · have := (helt b e).2; omega
/-- Behind the loop: the array on both sides. -/
theorem ARI.post (H : ARI w0 h A m f os0 n at0 ob pb vb rb plan k at1 av ev vs xs os1 wr) (hk3 : k ≤ 3) {b : Nat} {ev2 : Value} {w8 : World} (hm : Y.MM w8 h A m f (os1 ++ [(b, objC 1 (f 2) false (.pointer none) ev2)])) (hr : RowV w8 ev2 vs) (hb : Below A wr w8) (hkp : Kp arT wr w8) (hev : ∀ ad n cap, ev2 = .slice (some ad) n cap → wr.heap.size < ad.block) :
    GPost w0 A h m f os0 n at0 (.returned (.tuple #[valV (9, (os1.length : Int) + 1, ⟨#[]⟩), RV (9, 0, ⟨#[]⟩) (some ⟨ob, 0, none⟩), .int .i64 (at1 : Int)])) (st4 (st3 w8 vb (9, (os1.length : Int) + 1, ⟨#[]⟩)) rb ((9, 0, ⟨#[]⟩), some ⟨ob, 0, none⟩)) := by
  have hb8 : Box w8 vb _ _ := hkp.box H.b8 rfl
  have hb9 : Box w8 rb _ _ := hkp.box H.b9 rfl
  obtain ⟨-, -, ht⟩ := two_st rfl rfl hb8 hb9 (9, (os1.length : Int) + 1, ⟨#[]⟩) ((9, 0, ⟨#[]⟩), some ⟨ob, 0, none⟩)
  obtain ⟨w9, hw9⟩ : ∃ w9, st4 (st3 w8 vb (9, (os1.length : Int) + 1, ⟨#[]⟩)) rb ((9, 0, ⟨#[]⟩), some ⟨ob, 0, none⟩) = w9 := ⟨_, rfl⟩
  have hm9 := mm_st4 (mm_st3 hm hb8.lab (9, (os1.length : Int) + 1, ⟨#[]⟩)) (rb := rb) (hb9.touch (st3_touch w8 vb (9, (os1.length : Int) + 1, ⟨#[]⟩)) (fun e => hb9.lab.ne hb8.lab (by decide) e)).lab ((9, 0, ⟨#[]⟩), some ⟨ob, 0, none⟩)
  rw [hw9] at ht hm9 ⊢
  have hsz0 : w0.heap.size ≤ wr.heap.size := H.bel.size
  have hblt := H.bo.lt
  have hvlt := H.b8.lt
  have hrlt := H.b9.lt
  obtain ⟨ex1, hex1⟩ := H.ext
  have hlab : ∀ q t, (q = vb ∨ q = rb) → Lab w8 q t → [VTy, RTy].contains t = true := fun q t hq hl => by
    rcases hq with rfl | rfl
    · have := hl.same hb8.lab; subst this; decide
    · have := hl.same hb9.lab; subst this; decide
  have hk9 := kp_touch ht hlab
  have hpF : Pres (FF w0 av ev ob vb rb) wr w9 := (Pres.kp hkp rfl rfl rfl).trans (fun q t hq hl _ => ht.block q (lab_lt hl) (fun hs => by rcases hs with hs | hs; exact hq.2.2.2.2.1 hs; exact hq.2.2.2.2.2 hs))
  have hrow : RowV w9 ev2 vs := by
    have hp : Pres (fun q => wr.heap.size < q) w8 w9 := fun q t hq hl _ => ht.block q (lab_lt hl) (fun hs => by have hq : wr.heap.size < q := hq; rcases hs with rfl | rfl <;> omega)
    exact hp.row hr hev
  have hoe : w9.ownsRow w0.heap.size RTy 4 ev xs.length (flatR xs) := by
    rw [H.lx]
    refine own_touch (own_kp H.oe hkp rfl) ht (fun q hq hs => ?_)
    rcases hs with rfl | rfl
    · exact absurd rfl (H.b8.lab.ne (own_lab H.oe q hq) (by decide))
    · exact H.ne hq
  have hbo : Box w9 ob _ _ := hk9.box (hkp.box H.bo rfl) (by decide)
  have hl3 : vs.length ≤ 3 := Nat.le_trans H.lv hk3
  have hA : ArrC (fun b => w0.heap.size ≤ b) w9 (os1 ++ [(b, objC 1 (f 2) false (.pointer none) ev2)]) (9, (os1.length : Int) + 1, ⟨#[]⟩) ((9, 0, ⟨#[]⟩), some ⟨ob, 0, none⟩) vs xs := by
    refine ⟨H.lx, hl3, os1.length, b, objC 1 (f 2) false (.pointer none) ev2, ev2, ob, aObj ev, ev, rfl, ?_, ?_, rfl, rfl, hrow, fun ad n cap e => ?_, rfl, H.fr.2.1, hbo, rfl, rfl, rrow_own hoe⟩
    · rw [List.getElem?_append_right (Nat.le_refl _), Nat.sub_self]
      rfl
    · show (16 : Nat) ≠ 3
      decide
    · have := hev ad n cap e
      show _ ≤ _
      omega
  refine ⟨(9, (os1.length : Int) + 1, ⟨#[]⟩), ((9, 0, ⟨#[]⟩), some ⟨ob, 0, none⟩), at1, _, rfl, hm9, ⟨ex1 ++ [(b, objC 1 (f 2) false (.pointer none) ev2)], by rw [hex1, List.append_assoc]⟩, H.bel.trans (hb.trans (ht.below (Nat.le_trans H.fr.1 (Nat.le_trans hsz0 hb.size)) (fun q hq => by have := H.fr; rcases hq with rfl | rfl <;> omega))), ?_, by have := H.lo; omega, H.hi, by rw [List.length_append]; have := H.cnt; show os1.length + 1 + _ ≤ _; omega, fun k hk => ?_⟩
  · intro q t hl htt
    have h1 := (H.kp.trans hkp) q t hl htt
    have hq := lab_lt hl
    exact (ht.block q (Nat.lt_of_lt_of_le hq (Nat.le_trans hsz0 hb.size)) (fun hs => by have := H.fr; rcases hs with rfl | rfl <;> omega)).trans h1
  · match k, hk with
    | 0, _ => exact ⟨⟨#[91, 46, 46, 93]⟩, by decide, .inr ⟨rfl, vs, xs, hA⟩⟩
    | k + 1, hk =>
      obtain ⟨parts, hpl, hps⟩ := pick_list (P := fun i p => ∀ y z, vs[i]? = some y → xs[i]? = some z → p.size ≤ bnd k ∧ Sh (fun b => w0.heap.size ≤ b) w9 (os1 ++ [(b, objC 1 (f 2) false (.pointer none) ev2)]) k y z p) vs.length (fun i hi => by
        have hy : vs[i]? = some vs[i] := List.getElem?_eq_getElem hi
        have hz : xs[i]? = some (xs[i]'(by rw [H.lx]; exact hi)) := List.getElem?_eq_getElem (by rw [H.lx]; exact hi)
        obtain ⟨s, hs1, hs2⟩ := H.sh i _ _ hy hz k (by omega)
        refine ⟨s, fun y z hy2 hz2 => ?_⟩
        rw [hy] at hy2
        rw [hz] at hz2
        cases hy2
        cases hz2
        refine ⟨hs1, Sh.go hpF (fun j o hj => ?_) (fun q hq => hq.1) k _ _ s hs2⟩
        rw [List.getElem?_append_left (List.getElem?_eq_some_iff.1 hj).1]
        exact hj)
      have hpb : ∀ p ∈ parts, p.size ≤ bnd k := fun p hp => by
        obtain ⟨i, hi, he⟩ := List.getElem_of_mem hp
        have hi2 : i < vs.length := by omega
        exact (hps i p (by rw [← he]; exact List.getElem?_eq_getElem hi) _ _ (List.getElem?_eq_getElem hi2) (List.getElem?_eq_getElem (by rw [H.lx]; exact hi2))).1
      exact ⟨arrS parts, arrS_size parts k (by omega) hpb, .inr ⟨vs, xs, parts, hA, hpl, fun p hp => Nat.le_trans (hpb p hp) (bnd_top k (by omega)), fun i y z p hy hz hp => (hps i p hp y z hy hz).2, rfl⟩⟩
end
end Go.Proofs.YtgdkjkfbknbgkaaGreatDoor
namespace Go.Proofs.YtgdkjkfbknbgkaaGreatDoor
open Go Go.RowKit
attribute [local go_sem] Oper.semAt_some

theorem Tryz.infoR : (Tryz.prog.info? 33).map (fun i => (i.zero, i.size, i.bytes)) = some (some (.agg #[.int .i64 0, .int .i64 0, .string ⟨#[]⟩, .pointer none]), 4, 40) := by kernel_rfl
section
variable {w : World} {h A m : Nat} {f : Nat → Int} {os : List OS}
set_option maxHeartbeats 2000000 in
set_option maxRecDepth 100000 in
theorem grow_arr (H : Y.MM w h A m f os) (a : Option Addr) (n c : Nat) (ps : List PI) (B : Nat) (HP : PlA w B a n ps) (hBA : B ≤ A) (hn5 : n ≤ 500) (at_ dp : Nat) {x : PI} (hx : ps[at_]? = some x) (hx1 : (x.k.tmod 12 + 12).tmod 12 = 11) (hx2 : (x.k.tmod 12 + 12) % 12 = 11) (hx3 : 0 < x.k.tmod 12 + 12) (hx4 : x.k.tmod 12 < 12) (q : Nat) (hq : bits .and .i64 x.n 3 = (q : Int)) (hq4 : q < 4) (hlen : os.length + (n - at_) ≤ 100000) (IH : Veil (dp ≤ 6 → ∀ (at2 : Nat) (os2 : List OS) (w2 : World), at2 < n → Y.MM w2 h A m f os2 → PlA w2 B a n ps → os2.length + (n - at2) ≤ 100000 → Calls Tryz.prog 10 #[(.pointer (some ⟨m, 0, none⟩)), .agg #[.slice a n c], .int .i64 (at2 : Int), .int .i64 ((dp : Int) + 1)] w2 (GPost w2 A h m f os2 n at2))) : Calls Tryz.prog 10 #[(.pointer (some ⟨m, 0, none⟩)), .agg #[.slice a n c], .int .i64 (at_ : Int), .int .i64 (dp : Int)] w (GPost w A h m f os n at_) := by
  obtain ⟨pb, hpb⟩ : ∃ pb, w.heap.size = pb := ⟨_, rfl⟩
  obtain ⟨vb, hvb⟩ : ∃ vb, pb + 1 = vb := ⟨_, rfl⟩
  obtain ⟨rb, hrb⟩ : ∃ rb, vb + 1 = rb := ⟨_, rfl⟩
  obtain ⟨W0, hW0⟩ : ∃ W0, ((w.alloc (.cells #[.slice a n c] 24)).alloc (.cells #[.int .i64 0, .int .i64 0, .string ⟨#[]⟩] 30)).alloc (.cells #[.int .i64 0, .int .i64 0, .string ⟨#[]⟩, .pointer none] 33) = W0 := ⟨_, rfl⟩
  have bx := frame0 w W0 #[.slice a n c] pb vb rb hpb hvb hrb hW0
  have HW0 := Veil.mk (And.intro hW0 (And.intro hpb (And.intro hvb hrb)))
  have x0 : W0.cell? ⟨pb, 0, none⟩ = some (.slice a n c) := bx.2.1.at_ 0
  have hmem := List.mem_of_getElem? hx
  have hlt0 : at_ < n := by have := (List.getElem?_eq_some_iff.1 hx).1; have := HP.len; omega
  have HP0 := HP.on (bx.1.mono (Nat.le_of_lt (Nat.lt_of_le_of_lt hBA H.alt)))
  obtain ⟨pa, po, rfl, hpl, hpc⟩ := HP0.cells (by omega)
  obtain ⟨c0, c1, c2⟩ := hpc at_ x hx
  obtain ⟨-, -, -, ⟨hn1, hn2⟩, sa, sc, e1, -⟩ := HP.rd x hmem
  rw [e1] at c2
  obtain ⟨xl, hxl⟩ : ∃ y, x.l.length = y := ⟨_, rfl⟩
  obtain ⟨xk, hxk⟩ : ∃ y, x.k = y := ⟨_, rfl⟩
  obtain ⟨xn, hxn⟩ : ∃ y, x.n = y := ⟨_, rfl⟩
  rw [hxl] at c2
  rw [hxk] at c0 hx1 hx2 hx3 hx4
  rw [hxn] at c1 hn1 hn2
  have hge : ¬ (n : Int) ≤ (at_ : Int) := by omega
  have hat : (at_ : Int) < (n : Int) := by omega
  have ha0 : (0 : Int) ≤ (at_ : Int) := by omega
  have han : (at_ : Int) ≤ 500 := by omega
  obtain ⟨xb, hxb⟩ : ∃ xb, W0.heap.size = xb := ⟨_, rfl⟩
  obtain ⟨W1, hW1⟩ : ∃ W1, W0.alloc (.cells #[.int .i64 xk, .int .i64 xn, .slice sa xl sc] 82) = W1 := ⟨_, rfl⟩
  have bz := frame1 bx hxb hW1
  have HW1 := Veil.mk (And.intro hW1 hxb)
  have y0 : W1.cell? ⟨xb, 0, none⟩ = some (.int .i64 xk) := bz.2.2.2.2.2.1.at_ 0
  have y1 : W1.cell? ⟨xb, 1, none⟩ = some (.int .i64 xn) := bz.2.2.2.2.2.1.at_ 1
  have y2 : W1.cell? ⟨xb, 2, none⟩ = some (.slice sa xl sc) := bz.2.2.2.2.2.1.at_ 2
  have p0 : W1.cell? ⟨pb, 0, none⟩ = some (.slice (some ⟨pa, po, none⟩) n c) := bz.2.1.at_ 0
  have HX := Veil.mk (And.intro H bz)
  have HQ := Veil.mk (And.intro HP (And.intro hmem (And.intro e1 (And.intro hxl (And.intro hxk hxn)))))
  have v0 : W1.cell? ⟨vb, 0, none⟩ = some (.int .i64 0) := bz.2.2.1.at_ 0
  have v1 : W1.cell? ⟨vb, 1, none⟩ = some (.int .i64 0) := bz.2.2.1.at_ 1
  have v2 : W1.cell? ⟨vb, 2, none⟩ = some (.string ⟨#[]⟩) := bz.2.2.1.at_ 2
  have r0 : W1.cell? ⟨rb, 0, none⟩ = some (.int .i64 0) := bz.2.2.2.1.at_ 0
  have r1 : W1.cell? ⟨rb, 1, none⟩ = some (.int .i64 0) := bz.2.2.2.1.at_ 1
  have r2 : W1.cell? ⟨rb, 2, none⟩ = some (.string ⟨#[]⟩) := bz.2.2.2.1.at_ 2
  have r3 : W1.cell? ⟨rb, 3, none⟩ = some (.pointer none) := bz.2.2.2.1.at_ 3
  have f0 := bz.2.2.1.free 0
  have f1 := bz.2.2.1.free 1
  have f2 := bz.2.2.1.free 2
  have g0 := bz.2.2.2.1.free 0
  have g1 := bz.2.2.2.1.free 1
  have g2 := bz.2.2.2.1.free 2
  have g3 := bz.2.2.2.1.free 3
  have hvr : (vb = rb) = False := by simp; have := HW0.out; omega
  have hrv : (rb = vb) = False := by simp; have := HW0.out; omega
  clear hge
  have hge : ¬ (n : Int) ≤ (at_ : Int) := by omega
  have hpl9 : True := trivial
  rw [hxn] at hq
  have hq0 : (0 : Int) ≤ (q : Int) := by omega
  have hq3 : (q : Int) < 4 := by omega
  clear H bx bz hW0 hpb hvb hrb HP hW1 hxb HP0 hpc hx hxk hxn hxl hpl hmem e1
  go_enter Tryz.func10, Tryz.ntmps10
  go_upto_region 1 with (fail)
  rw [HW0.out.1, HW0.out.2.1, HW0.out.2.2.1, HW0.out.2.2.2]
  go_upto_region 4 with (fail)
  rw [HW1.out.1, HW1.out.2]
  clear c0 c1 c2 x0 hge hpl9
  go_upto_region 23 with (fail)
  obtain ⟨ob, hob⟩ : ∃ ob, W1.heap.size = ob := ⟨_, rfl⟩
  obtain ⟨W2, hW2⟩ : ∃ W2, W1.alloc (.cells (aObj (.slice none 0 0)) 79) = W2 := ⟨_, rfl⟩
  have hbb : Below W1.heap.size W1 W2 := by rw [← hW2]; exact (Below.refl _ _).alloc (Nat.le_refl _) _
  have hbo : Box W2 ob 79 (aObj (.slice none 0 0)) := by rw [← hW2, ← hob]; exact Box.new _ _ _
  have hbw : Below w.heap.size w W2 := HX.out.2.1.trans (hbb.mono HX.out.2.1.size)
  have t1 : W2.cell? ⟨xb, 1, none⟩ = some (.int .i64 xn) := (HX.out.2.2.2.2.2.2.1.below hbb).at_ 1
  have HI0 : Veil (ARI w h A m f os n at_ ob pb vb rb #[.slice (some ⟨pa, po, none⟩) n c] 0 (at_ + 1) (.slice none 0 0) (.slice none 0 0) [] [] os W2) := ⟨⟨HX.out.1.on hbw, ⟨[], by simp⟩, hbw.mono (Nat.le_of_lt HX.out.1.alt), Kp.of_below hbw, HX.out.2.2.1.below hbb, HX.out.2.2.2.1.below hbb, HX.out.2.2.2.2.1.below hbb, hbo, World.ownsRow_nil .., World.ownsRow_nil .., rfl, Nat.le_refl _, Nat.le_refl _, by omega, by omega, (by intro e; cases e), (by intro e; cases e), (by
    have := HW0.out.2
    have := HX.out.1.alt
    have := HX.out.2.2.2.2.2.1
    have := HX.out.2.2.2.2.2.2.2
    omega), fun i y z hy => by simp at hy⟩⟩
  rw [hW2]
  rw [hob]
  clear hW2 hob hbb hbo hbw
  go_upto_region 24 with (fail)
  clear t1 v0 v1 v2 r0 r1 r2 r3 f0 f1 f2 g0 g1 g2 g3 y0 y1 y2 p0 hx1 hx2 hx3 hx4
  go_loopw [2, 16, 126] (fun av_ sv iv wr => ∃ (k at1 : Nat) (ev : Value) (vs : List Vt) (xs : List RVt) (os1 : List OS), k ≤ q ∧ iv = .int .i64 (k : Int) ∧ av_ = .int .i64 (at1 : Int) ∧ ARI w h A m f os n at_ ob pb vb rb #[.slice (some ⟨pa, po, none⟩) n c] k at1 sv ev vs xs os1 wr) (fun _ _ i _ => q - (intOf i).toNat)
  case atStart =>
    exact ⟨0, at_ + 1, .slice none 0 0, [], [], os, Nat.zero_le _, rfl, by go_num, HI0.out⟩
  case round =>
    obtain ⟨k, at1, ev, vs, xs, os1, hk, rfl, rfl, H0⟩ := hrel
    have hk0 : (0 : Int) ≤ (k : Int) := by omega
    obtain ⟨av, hav⟩ : ∃ av, av = u16 := ⟨_, rfl⟩
    subst hav
    have H := Veil.mk H0
    clear H0
    have c5 : wr.cell? ⟨pb, 0, none⟩ = some (.slice (some ⟨pa, po, none⟩) n c) := H.out.b5.at_ 0
    have hdp0 : (0 : Int) ≤ (dp : Int) := by omega
    have hat0 : (0 : Int) ≤ (at1 : Int) := by omega
    clear HI0
    by_cases hlt : k < q
    · have hlt' : (k : Int) < (q : Int) := by omega
      by_cases hdp : 6 < dp
      · have hdp' : (6 : Int) < (dp : Int) := by omega
        have HARR := Veil.mk (H.out.mm.array av vs (RowV.own H.out.oa) (by have := H.out.lv; omega) (by have := H.out.cnt; omega))
        go_wp2_with (go_at_call 24; ((with_reducible refine HARR.out.mono ?_); rintro e w8 ⟨rfl, b8, ev8, -, hm8, hr8, hbe8, hk8, -, hev8⟩; have q8 := hk8.box H.out.b8 rfl; have q9 := hk8.box H.out.b9 rfl; have v0 := q8.at_ 0; have v1 := q8.at_ 1; have v2 := q8.at_ 2; have f0 := q8.free 0; have f1 := q8.free 1; have f2 := q8.free 2; have r0 := q9.at_ 0; have r1 := q9.at_ 1; have r2 := q9.at_ 2; have r3 := q9.at_ 3; have g0 := q9.free 0; have g1 := q9.free 1; have g2 := q9.free 2; have g3 := q9.free 3; have HE8 := Veil.mk (And.intro hm8 (And.intro hr8 (And.intro hbe8 (And.intro hk8 hev8)))); have HQ8 := Veil.mk (And.intro q8 q9); clear hm8 hr8 hbe8 hk8 hev8 q8 q9))
        clear v0 v1 v2 r0 r1 r2 r3 f0 f1 f2 g0 g1 g2 g3
        obtain ⟨q1, q2, -⟩ := two_st rfl rfl HQ8.out.1 HQ8.out.2 (9, (os1.length : Int) + 1, ⟨#[]⟩) ((9, 0, ⟨#[]⟩), some ⟨ob, 0, none⟩)
        have y0 := q1.at_ 0
        have y1 := q1.at_ 1
        have y2 := q1.at_ 2
        have z0 := q2.at_ 0
        have z1 := q2.at_ 1
        have z2 := q2.at_ 2
        have z3 := q2.at_ 3
        exact bodyPost_ret (v := .tuple #[valV (9, (os1.length : Int) + 1, ⟨#[]⟩), RV (9, 0, ⟨#[]⟩) (some ⟨ob, 0, none⟩), .int .i64 (at1 : Int)]) (by simp [results, Tryz.results10, go_sem, y0, y1, y2, z0, z1, z2, z3]) rfl (H.out.post (by omega) HE8.out.1 HE8.out.2.1 HE8.out.2.2.1 HE8.out.2.2.2.1 HE8.out.2.2.2.2)
      · have hdp' : ¬ (6 : Int) < (dp : Int) := by omega
        by_cases han1 : n ≤ at1
        · have han' : (n : Int) ≤ (at1 : Int) := by omega
          have HARR := Veil.mk (H.out.mm.array av vs (RowV.own H.out.oa) (by have := H.out.lv; omega) (by have := H.out.cnt; omega))
          go_wp2_with (go_at_call 24; ((with_reducible refine HARR.out.mono ?_); rintro e w8 ⟨rfl, b8, ev8, -, hm8, hr8, hbe8, hk8, -, hev8⟩; have q8 := hk8.box H.out.b8 rfl; have q9 := hk8.box H.out.b9 rfl; have v0 := q8.at_ 0; have v1 := q8.at_ 1; have v2 := q8.at_ 2; have f0 := q8.free 0; have f1 := q8.free 1; have f2 := q8.free 2; have r0 := q9.at_ 0; have r1 := q9.at_ 1; have r2 := q9.at_ 2; have r3 := q9.at_ 3; have g0 := q9.free 0; have g1 := q9.free 1; have g2 := q9.free 2; have g3 := q9.free 3; have HE8 := Veil.mk (And.intro hm8 (And.intro hr8 (And.intro hbe8 (And.intro hk8 hev8)))); have HQ8 := Veil.mk (And.intro q8 q9); clear hm8 hr8 hbe8 hk8 hev8 q8 q9))
          clear v0 v1 v2 r0 r1 r2 r3 f0 f1 f2 g0 g1 g2 g3
          obtain ⟨q1, q2, -⟩ := two_st rfl rfl HQ8.out.1 HQ8.out.2 (9, (os1.length : Int) + 1, ⟨#[]⟩) ((9, 0, ⟨#[]⟩), some ⟨ob, 0, none⟩)
          have y0 := q1.at_ 0
          have y1 := q1.at_ 1
          have y2 := q1.at_ 2
          have z0 := q2.at_ 0
          have z1 := q2.at_ 1
          have z2 := q2.at_ 2
          have z3 := q2.at_ 3
          exact bodyPost_ret (v := .tuple #[valV (9, (os1.length : Int) + 1, ⟨#[]⟩), RV (9, 0, ⟨#[]⟩) (some ⟨ob, 0, none⟩), .int .i64 (at1 : Int)]) (by simp [results, Tryz.results10, go_sem, y0, y1, y2, z0, z1, z2, z3]) rfl (H.out.post (by omega) HE8.out.1 HE8.out.2.1 HE8.out.2.2.1 HE8.out.2.2.2.1 HE8.out.2.2.2.2)
        · have han' : ¬ (n : Int) ≤ (at1 : Int) := by omega
          have HIH := Veil.mk (IH.out (by omega) at1 os1 wr (by omega) H.out.mm (HQ.out.1.on (H.out.bel.mono hBA)) (by have := H.out.cnt; omega))
          have hdp1 : (dp : Int) ≤ 6 := by omega
          go_upto_region 27 with (go_at_call 10; ((with_reducible refine HIH.out.mono ?_); rintro e w6 ⟨v, y, at2, os2, rfl, hm6, hx6, hb6, hk6, hlo6, hhi6, hc6, hs6⟩; have H6 := Veil.mk (And.intro hm6 (And.intro hx6 (And.intro hb6 (And.intro hk6 (And.intro hlo6 (And.intro hhi6 (And.intro hc6 hs6))))))); clear hm6 hx6 hb6 hk6 hlo6 hhi6 hc6 hs6))
          obtain ⟨zb, hzb⟩ : ∃ zb, w6.heap.size = zb := ⟨_, rfl⟩
          obtain ⟨yb, hyb⟩ : ∃ yb, zb + 1 = yb := ⟨_, rfl⟩
          obtain ⟨W7, hW7⟩ : ∃ W7, (w6.alloc (.cells (vC v) 30)).alloc (.cells (rC y) 33) = W7 := ⟨_, rfl⟩
          obtain ⟨WD, hWD⟩ : ∃ WD, W7.drew = WD := ⟨_, rfl⟩
          have hb7 : Below w6.heap.size w6 WD := by rw [← hWD, ← hW7]; exact (((Below.refl _ _).alloc (Nat.le_refl _) _).alloc (by simp) _).drew
          have hz7 : Box WD zb 30 (vC v) := by rw [← hWD, ← hW7, ← hzb]; exact ((Box.new _ _ _).more _).drew
          have hy7 : Box WD yb 33 (rC y) := by
            rw [← hWD, ← hW7, ← hyb, ← hzb]
            have := Box.new (w6.alloc (.cells (vC v) 30)) 33 (rC y)
            rw [World.size_alloc] at this
            exact this.drew
          have HBD := Veil.mk hb7
          have hs6 := H6.out.2.2.1.size
          have HR0 : Veil (WD.ownsRow w.heap.size VTy 3 av vs.length (flatV vs) ∧ WD.ownsRow w.heap.size RTy 4 ev vs.length (flatR xs) ∧ Box WD ob 79 (aObj ev)) := ⟨own_below (own_kp H.out.oa H6.out.2.2.2.1 rfl) hb7, own_below (own_kp H.out.oe H6.out.2.2.2.1 rfl) hb7, (H6.out.2.2.2.1.box H.out.bo rfl).below hb7⟩
          have HZ : Veil (Box WD zb 30 (vC v) ∧ ¬ (av.ownBlock = some zb ∨ ev.ownBlock = some zb ∨ zb = ob)) := ⟨hz7, fun hq => by
            have hobl := H.out.bo.lt
            rcases hq with hq | hq | hq
            · have := (own_lt H.out.oa zb hq).2; omega
            · have := (own_lt H.out.oe zb hq).2; omega
            · omega⟩
          have HY : Veil (Box WD yb 33 (rC y) ∧ ¬ (av.ownBlock = some yb ∨ ev.ownBlock = some yb ∨ yb = ob)) := ⟨hy7, fun hq => by
            have hobl := H.out.bo.lt
            rcases hq with hq | hq | hq
            · have := (own_lt H.out.oa yb hq).2; omega
            · have := (own_lt H.out.oe yb hq).2; omega
            · omega⟩
          have HLV : Veil (vs.length ≤ 3) := ⟨by have := H.out.lv; omega⟩
          have HSW : Veil (w.heap.size ≤ WD.heap.size) := ⟨by have := H.out.bel.size; have := hb7.size; omega⟩
          have HWD := Veil.mk hWD
          rw [hW7]
          rw [hzb, hyb]
          clear hW7 hzb hyb hWD hb7 hz7 hy7 hs6
          obtain ⟨iv0, iv1, iv2, iv3, iv4⟩ := info_parts Tryz.infoW
          obtain ⟨ir0, ir1, ir2, ir3, ir4⟩ := info_parts Tryz.infoR
          refine wp_region_chain (some (· = (.pointer (some ⟨ob, 0, none⟩))) :: some (· = av) :: some (· = (valV v)) :: none :: none :: some (· = (.pointer (some ⟨ob, 0, none⟩))) :: some (· = (.pointer (some ⟨ob, 0, none⟩))) :: some (· = (.pointer (some ⟨ob, 3, none⟩))) :: some (· = ev) :: some (· = (RV y.1 y.2)) :: none :: none :: some (· = (.int .i64 (at2 : Int))) :: none :: some (· = (.pointer (some ⟨ob, 0, none⟩))) :: some (· = (.pointer (some ⟨ob, 3, none⟩))) :: none :: some (· = (.int .i64 (at2 : Int))) :: [] : List (Option (Value → Prop))) (R27 WD w.heap.size ob vs.length av ev (flatV vs) (flatR xs) v y) [some 147, some 148, some 149, some 150, some 151, some 152, some 153, some 154, some 155, some 156, some 157, some 158, some 159, some 16, some 160, some 161, none, some 2] (curV' _ [some 147, some 148, some 149, some 150, some 151, some 152, some 153, some 154, some 155, some 156, some 157, some 158, some 159, some 16, some 160, some 161, none, some 2]) (by kernel_rfl) rfl rfl (puts_cur _ _) ((show R27 WD _ _ _ _ _ _ _ _ _ _ _ W7.drew by rw [HWD.out]; exact R27.start HR0.out.1 HR0.out.2.1 HR0.out.2.2 rfl)) ?_ (by kernel_rfl) ?_
          · refine Steps.cons rfl (fun bb aa w' hbs hb0 hbp hI K hK => ?_) ?_
            · obtain ⟨us, hus, ha, hI⟩ := hI
              obtain ⟨u0, u1, u2, u3, u4, u5, u6, u7, u8, u9, u10, u11, u12, u13, u14, u15, u16, u17, rfl⟩ := lenA18 hus
              have HI := Veil.mk hI
              clear hI
              rw [ha]
              simp only [puts, setAll, List.setIfInBounds_toArray, List.set_cons_zero, List.set_cons_succ]
              go_simp
              exact hK _ _ (chain_step HI.out hus hbs 0 _ (by show 0 < 18; decide) rfl hbp (val_of rfl rfl) (HI.out.ph.pure 0 _ hb0 (by decide)) (by simp only [puts, setAll, List.set_cons_zero, List.set_cons_succ, List.setIfInBounds_toArray]))
            refine Steps.cons rfl (fun bb aa w' hbs hb0 hbp hI K hK => ?_) ?_
            · obtain ⟨us, hus, ha, hI⟩ := hI
              obtain ⟨u0, u1, u2, u3, u4, u5, u6, u7, u8, u9, u10, u11, u12, u13, u14, u15, u16, u17, rfl⟩ := lenA18 hus
              have h13 := (hI.bwd [1] 13 1 (by kernel_rfl) rfl hb0)
              have e13 : av = u13 := (hI.ph.n13 h13).symm
              subst e13
              clear h13
              have HI := Veil.mk hI
              clear hI
              rw [ha]
              simp only [puts, setAll, List.setIfInBounds_toArray, List.set_cons_zero, List.set_cons_succ]
              go_simp
              exact hK _ _ (chain_step HI.out hus hbs 1 _ (by show 1 < 18; decide) rfl hbp (val_of rfl rfl) (HI.out.ph.pure 1 _ hb0 (by decide)) (by simp only [puts, setAll, List.set_cons_zero, List.set_cons_succ, List.setIfInBounds_toArray]))
            refine Steps.cons rfl (fun bb aa w' hbs hb0 hbp hI K hK => ?_) ?_
            · obtain ⟨us, hus, ha, hI⟩ := hI
              obtain ⟨u0, u1, u2, u3, u4, u5, u6, u7, u8, u9, u10, u11, u12, u13, u14, u15, u16, u17, rfl⟩ := lenA18 hus
              have c0 := (HZ.out.1.touch hI.ph.tch HZ.out.2).at_ 0
              have c1 := (HZ.out.1.touch hI.ph.tch HZ.out.2).at_ 1
              have c2 := (HZ.out.1.touch hI.ph.tch HZ.out.2).at_ 2
              have HI := Veil.mk hI
              clear hI
              rw [ha]
              simp only [puts, setAll, List.setIfInBounds_toArray, List.set_cons_zero, List.set_cons_succ]
              go_simp
              exact hK _ _ (chain_step HI.out hus hbs 2 _ (by show 2 < 18; decide) rfl hbp (val_of rfl rfl) (HI.out.ph.pure 2 _ hb0 (by decide)) (by simp only [puts, setAll, List.set_cons_zero, List.set_cons_succ, List.setIfInBounds_toArray]))
            refine Steps.cons rfl (fun bb aa w' hbs hb0 hbp hI K hK => ?_) ?_
            · obtain ⟨us, hus, ha, hI⟩ := hI
              obtain ⟨u0, u1, u2, u3, u4, u5, u6, u7, u8, u9, u10, u11, u12, u13, u14, u15, u16, u17, rfl⟩ := lenA18 hus
              have e2 : u2 = (valV v) := hI.val 2 _ rfl (gen_after 2 (by kernel_rfl) hbp)
              subst e2
              have HI := Veil.mk hI
              clear hI
              rw [ha]
              simp only [puts, setAll, List.setIfInBounds_toArray, List.set_cons_zero, List.set_cons_succ]
              go_simp
              exact hK _ _ (chain_step HI.out hus hbs 3 _ (by show 3 < 18; decide) rfl hbp (none_of rfl) (HI.out.ph.a3 hb0) (by simp only [puts, setAll, List.set_cons_zero, List.set_cons_succ, List.setIfInBounds_toArray]))
            refine Steps.cons rfl (fun bb aa w' hbs hb0 hbp hI K hK => ?_) ?_
            · obtain ⟨us, hus, ha, hI⟩ := hI
              obtain ⟨u0, u1, u2, u3, u4, u5, u6, u7, u8, u9, u10, u11, u12, u13, u14, u15, u16, u17, rfl⟩ := lenA18 hus
              have e1 : av = u1 := (hI.val 1 _ rfl (gen_after 1 (by kernel_rfl) hbp)).symm
              subst e1
              have ho := hI.ph.ta.z hb0
              have hj := gen_after 3 (by kernel_rfl) hbp
              obtain ⟨gq, hgq, hcq⟩ := hI.ph.ta.b hj
              have hcq := (hcq hb0).2
              replace hgq : u3 = .slice (some ⟨gq, 0, none⟩) 1 1 := hgq
              subst hgq
              have hszq := hI.ph.tch.size
              have HI := Veil.mk hI
              clear hI
              rw [ha]
              simp only [puts, setAll, List.setIfInBounds_toArray, List.set_cons_zero, List.set_cons_succ]
              clear ha
              refine wp_append_lies _ (.tmp 148) (.tmp 150) 57 rfl w.heap.size VTy iv0 (.agg #[.int .i64 0, .int .i64 0, .string ⟨#[]⟩]) 3 32 Tryz.underlying57 iv1 iv2 iv3 iv4 rfl (by decide) av vs.length (flatV vs) (by simp [Act.eval]) ho ⟨gq, 0, none⟩ 1 1 (vL v) (by simp [Act.eval]) rfl hcq (by simp [Value.oneCell']) (by decide) (by have := HLV.out; unfold maxLen; omega) (by have := HLV.out; omega) (Nat.le_trans HSW.out hszq) _ rfl ?_
              intro r cap' w3 hown' hgrow3 hblk hg3
              exact hK _ _ (chain_step HI.out hus hbs 4 _ (by show 4 < 18; decide) rfl hbp (none_of rfl) (HI.out.ph.a4 hb0 hj hown' hgrow3 hblk) (by simp only [Act.put, puts, setAll, List.set_cons_zero, List.set_cons_succ, List.setIfInBounds_toArray]))
            refine Steps.cons rfl (fun bb aa w' hbs hb0 hbp hI K hK => ?_) ?_
            · obtain ⟨us, hus, ha, hI⟩ := hI
              obtain ⟨u0, u1, u2, u3, u4, u5, u6, u7, u8, u9, u10, u11, u12, u13, u14, u15, u16, u17, rfl⟩ := lenA18 hus
              have HI := Veil.mk hI
              clear hI
              rw [ha]
              simp only [puts, setAll, List.setIfInBounds_toArray, List.set_cons_zero, List.set_cons_succ]
              go_simp
              exact hK _ _ (chain_step HI.out hus hbs 5 _ (by show 5 < 18; decide) rfl hbp (val_of rfl rfl) (HI.out.ph.pure 5 _ hb0 (by decide)) (by simp only [puts, setAll, List.set_cons_zero, List.set_cons_succ, List.setIfInBounds_toArray]))
            refine Steps.cons rfl (fun bb aa w' hbs hb0 hbp hI K hK => ?_) ?_
            · obtain ⟨us, hus, ha, hI⟩ := hI
              obtain ⟨u0, u1, u2, u3, u4, u5, u6, u7, u8, u9, u10, u11, u12, u13, u14, u15, u16, u17, rfl⟩ := lenA18 hus
              have e5 : u5 = (.pointer (some ⟨ob, 0, none⟩)) := hI.val 5 _ rfl (gen_after 5 (by kernel_rfl) hbp)
              subst e5
              have HI := Veil.mk hI
              clear hI
              rw [ha]
              simp only [puts, setAll, List.setIfInBounds_toArray, List.set_cons_zero, List.set_cons_succ]
              go_simp
              exact hK _ _ (chain_step HI.out hus hbs 6 _ (by show 6 < 18; decide) rfl hbp (val_of rfl rfl) (HI.out.ph.pure 6 _ hb0 (by decide)) (by simp only [puts, setAll, List.set_cons_zero, List.set_cons_succ, List.setIfInBounds_toArray]))
            refine Steps.cons rfl (fun bb aa w' hbs hb0 hbp hI K hK => ?_) ?_
            · obtain ⟨us, hus, ha, hI⟩ := hI
              obtain ⟨u0, u1, u2, u3, u4, u5, u6, u7, u8, u9, u10, u11, u12, u13, u14, u15, u16, u17, rfl⟩ := lenA18 hus
              have e6 : u6 = (.pointer (some ⟨ob, 0, none⟩)) := hI.val 6 _ rfl (gen_after 6 (by kernel_rfl) hbp)
              subst e6
              have HI := Veil.mk hI
              clear hI
              rw [ha]
              simp only [puts, setAll, List.setIfInBounds_toArray, List.set_cons_zero, List.set_cons_succ]
              go_simp
              exact hK _ _ (chain_step HI.out hus hbs 7 _ (by show 7 < 18; decide) rfl hbp (val_of rfl rfl) (HI.out.ph.pure 7 _ hb0 (by decide)) (by simp only [puts, setAll, List.set_cons_zero, List.set_cons_succ, List.setIfInBounds_toArray]))
            refine Steps.cons rfl (fun bb aa w' hbs hb0 hbp hI K hK => ?_) ?_
            · obtain ⟨us, hus, ha, hI⟩ := hI
              obtain ⟨u0, u1, u2, u3, u4, u5, u6, u7, u8, u9, u10, u11, u12, u13, u14, u15, u16, u17, rfl⟩ := lenA18 hus
              have e7 : u7 = (.pointer (some ⟨ob, 3, none⟩)) := hI.val 7 _ rfl (gen_after 7 (by kernel_rfl) hbp)
              subst e7
              have h16 := (hI.bwd [8] 16 8 (by kernel_rfl) rfl hb0)
              have c0 := (hI.ph.z16 h16).at_ 3
              clear h16
              have HI := Veil.mk hI
              clear hI
              rw [ha]
              simp only [puts, setAll, List.setIfInBounds_toArray, List.set_cons_zero, List.set_cons_succ]
              go_simp
              exact hK _ _ (chain_step HI.out hus hbs 8 _ (by show 8 < 18; decide) rfl hbp (val_of rfl rfl) (HI.out.ph.pure 8 _ hb0 (by decide)) (by simp only [puts, setAll, List.set_cons_zero, List.set_cons_succ, List.setIfInBounds_toArray]))
            refine Steps.cons rfl (fun bb aa w' hbs hb0 hbp hI K hK => ?_) ?_
            · obtain ⟨us, hus, ha, hI⟩ := hI
              obtain ⟨u0, u1, u2, u3, u4, u5, u6, u7, u8, u9, u10, u11, u12, u13, u14, u15, u16, u17, rfl⟩ := lenA18 hus
              have c0 := (HY.out.1.touch hI.ph.tch HY.out.2).at_ 0
              have c1 := (HY.out.1.touch hI.ph.tch HY.out.2).at_ 1
              have c2 := (HY.out.1.touch hI.ph.tch HY.out.2).at_ 2
              have c3 := (HY.out.1.touch hI.ph.tch HY.out.2).at_ 3
              have HI := Veil.mk hI
              clear hI
              rw [ha]
              simp only [puts, setAll, List.setIfInBounds_toArray, List.set_cons_zero, List.set_cons_succ]
              go_simp
              exact hK _ _ (chain_step HI.out hus hbs 9 _ (by show 9 < 18; decide) rfl hbp (val_of rfl rfl) (HI.out.ph.pure 9 _ hb0 (by decide)) (by simp only [puts, setAll, List.set_cons_zero, List.set_cons_succ, List.setIfInBounds_toArray]))
            refine Steps.cons rfl (fun bb aa w' hbs hb0 hbp hI K hK => ?_) ?_
            · obtain ⟨us, hus, ha, hI⟩ := hI
              obtain ⟨u0, u1, u2, u3, u4, u5, u6, u7, u8, u9, u10, u11, u12, u13, u14, u15, u16, u17, rfl⟩ := lenA18 hus
              have e9 : u9 = (RV y.1 y.2) := hI.val 9 _ rfl (gen_after 9 (by kernel_rfl) hbp)
              subst e9
              have HI := Veil.mk hI
              clear hI
              rw [ha]
              simp only [puts, setAll, List.setIfInBounds_toArray, List.set_cons_zero, List.set_cons_succ]
              go_simp
              exact hK _ _ (chain_step HI.out hus hbs 10 _ (by show 10 < 18; decide) rfl hbp (none_of rfl) (HI.out.ph.b10 hb0) (by simp only [puts, setAll, List.set_cons_zero, List.set_cons_succ, List.setIfInBounds_toArray]))
            refine Steps.cons rfl (fun bb aa w' hbs hb0 hbp hI K hK => ?_) ?_
            · obtain ⟨us, hus, ha, hI⟩ := hI
              obtain ⟨u0, u1, u2, u3, u4, u5, u6, u7, u8, u9, u10, u11, u12, u13, u14, u15, u16, u17, rfl⟩ := lenA18 hus
              have e8 : ev = u8 := (hI.val 8 _ rfl (gen_after 8 (by kernel_rfl) hbp)).symm
              subst e8
              have ho := hI.ph.tb.z hb0
              have hj := gen_after 10 (by kernel_rfl) hbp
              obtain ⟨gq, hgq, hcq⟩ := hI.ph.tb.b hj
              have hcq := (hcq hb0).2
              replace hgq : u10 = .slice (some ⟨gq, 0, none⟩) 1 1 := hgq
              subst hgq
              have hszq := hI.ph.tch.size
              have HI := Veil.mk hI
              clear hI
              rw [ha]
              simp only [puts, setAll, List.setIfInBounds_toArray, List.set_cons_zero, List.set_cons_succ]
              clear ha
              refine wp_append_lies _ (.tmp 155) (.tmp 157) 73 rfl w.heap.size RTy ir0 (.agg #[.int .i64 0, .int .i64 0, .string ⟨#[]⟩, .pointer none]) 4 40 Tryz.underlying73 ir1 ir2 ir3 ir4 rfl (by decide) ev vs.length (flatR xs) (by simp [Act.eval]) ho ⟨gq, 0, none⟩ 1 1 (rL y) (by simp [Act.eval]) rfl hcq (by simp [Value.oneCell']) (by decide) (by have := HLV.out; unfold maxLen; omega) (by have := HLV.out; omega) (Nat.le_trans HSW.out hszq) _ rfl ?_
              intro r cap' w3 hown' hgrow3 hblk hg3
              exact hK _ _ (chain_step HI.out hus hbs 11 _ (by show 11 < 18; decide) rfl hbp (none_of rfl) (HI.out.ph.b11 hb0 hj hown' hgrow3 hblk) (by simp only [Act.put, puts, setAll, List.set_cons_zero, List.set_cons_succ, List.setIfInBounds_toArray]))
            refine Steps.cons rfl (fun bb aa w' hbs hb0 hbp hI K hK => ?_) ?_
            · obtain ⟨us, hus, ha, hI⟩ := hI
              obtain ⟨u0, u1, u2, u3, u4, u5, u6, u7, u8, u9, u10, u11, u12, u13, u14, u15, u16, u17, rfl⟩ := lenA18 hus
              have HI := Veil.mk hI
              clear hI
              rw [ha]
              simp only [puts, setAll, List.setIfInBounds_toArray, List.set_cons_zero, List.set_cons_succ]
              go_simp
              exact hK _ _ (chain_step HI.out hus hbs 12 _ (by show 12 < 18; decide) rfl hbp (val_of rfl rfl) (HI.out.ph.pure 12 _ hb0 (by decide)) (by simp only [puts, setAll, List.set_cons_zero, List.set_cons_succ, List.setIfInBounds_toArray]))
            refine Steps.cons rfl (fun bb aa w' hbs hb0 hbp hI K hK => ?_) ?_
            · obtain ⟨us, hus, ha, hI⟩ := hI
              obtain ⟨u0, u1, u2, u3, u4, u5, u6, u7, u8, u9, u10, u11, u12, u13, u14, u15, u16, u17, rfl⟩ := lenA18 hus
              have hj := gen_after 4 (by kernel_rfl) hbp
              have HI := Veil.mk hI
              clear hI
              rw [ha]
              simp only [puts, setAll, List.setIfInBounds_toArray, List.set_cons_zero, List.set_cons_succ]
              go_simp
              exact hK _ _ (chain_step HI.out hus hbs 13 u4 (by show 13 < 18; decide) rfl hbp (none_of rfl) (HI.out.ph.p13 hj) (by simp only [puts, setAll, List.set_cons_zero, List.set_cons_succ, List.setIfInBounds_toArray]))
            refine Steps.cons rfl (fun bb aa w' hbs hb0 hbp hI K hK => ?_) ?_
            · obtain ⟨us, hus, ha, hI⟩ := hI
              obtain ⟨u0, u1, u2, u3, u4, u5, u6, u7, u8, u9, u10, u11, u12, u13, u14, u15, u16, u17, rfl⟩ := lenA18 hus
              have e0 : u0 = (.pointer (some ⟨ob, 0, none⟩)) := hI.val 0 _ rfl (gen_after 0 (by kernel_rfl) hbp)
              subst e0
              have HI := Veil.mk hI
              clear hI
              rw [ha]
              simp only [puts, setAll, List.setIfInBounds_toArray, List.set_cons_zero, List.set_cons_succ]
              go_simp
              exact hK _ _ (chain_step HI.out hus hbs 14 _ (by show 14 < 18; decide) rfl hbp (val_of rfl rfl) (HI.out.ph.pure 14 _ hb0 (by decide)) (by simp only [puts, setAll, List.set_cons_zero, List.set_cons_succ, List.setIfInBounds_toArray]))
            refine Steps.cons rfl (fun bb aa w' hbs hb0 hbp hI K hK => ?_) ?_
            · obtain ⟨us, hus, ha, hI⟩ := hI
              obtain ⟨u0, u1, u2, u3, u4, u5, u6, u7, u8, u9, u10, u11, u12, u13, u14, u15, u16, u17, rfl⟩ := lenA18 hus
              have e14 : u14 = (.pointer (some ⟨ob, 0, none⟩)) := hI.val 14 _ rfl (gen_after 14 (by kernel_rfl) hbp)
              subst e14
              have HI := Veil.mk hI
              clear hI
              rw [ha]
              simp only [puts, setAll, List.setIfInBounds_toArray, List.set_cons_zero, List.set_cons_succ]
              go_simp
              exact hK _ _ (chain_step HI.out hus hbs 15 _ (by show 15 < 18; decide) rfl hbp (val_of rfl rfl) (HI.out.ph.pure 15 _ hb0 (by decide)) (by simp only [puts, setAll, List.set_cons_zero, List.set_cons_succ, List.setIfInBounds_toArray]))
            refine Steps.cons rfl (fun bb aa w' hbs hb0 hbp hI K hK => ?_) ?_
            · obtain ⟨us, hus, ha, hI⟩ := hI
              obtain ⟨u0, u1, u2, u3, u4, u5, u6, u7, u8, u9, u10, u11, u12, u13, u14, u15, u16, u17, rfl⟩ := lenA18 hus
              have e15 : u15 = (.pointer (some ⟨ob, 3, none⟩)) := hI.val 15 _ rfl (gen_after 15 (by kernel_rfl) hbp)
              subst e15
              have hj := gen_after 11 (by kernel_rfl) hbp
              obtain ⟨-, rq, cq, huq, -⟩ := hI.ph.tb.s hj
              replace huq : u11 = .slice (some ⟨rq, 0, none⟩) (vs.length + 1) cq := huq
              subst huq
              have hq := hI.ph.z16 hb0
              have z3 := hq.at_ 3
              have f3 := hq.free 3
              clear hq
              have HI := Veil.mk hI
              clear hI
              rw [ha]
              simp only [puts, setAll, List.setIfInBounds_toArray, List.set_cons_zero, List.set_cons_succ]
              go_simp
              exact hK _ _ (chain_step HI.out hus hbs 16 undef (by show 16 < 18; decide) rfl hbp (none_of rfl) (HI.out.ph.p16 hb0 hj _ rfl) (by simp only [puts, setAll, List.set_cons_zero, List.set_cons_succ, List.setIfInBounds_toArray]))
            refine Steps.cons rfl (fun bb aa w' hbs hb0 hbp hI K hK => ?_) ?_
            · obtain ⟨us, hus, ha, hI⟩ := hI
              obtain ⟨u0, u1, u2, u3, u4, u5, u6, u7, u8, u9, u10, u11, u12, u13, u14, u15, u16, u17, rfl⟩ := lenA18 hus
              have e12 : u12 = (.int .i64 (at2 : Int)) := hI.val 12 _ rfl (gen_after 12 (by kernel_rfl) hbp)
              subst e12
              have HI := Veil.mk hI
              clear hI
              rw [ha]
              simp only [puts, setAll, List.setIfInBounds_toArray, List.set_cons_zero, List.set_cons_succ]
              go_simp
              exact hK _ _ (chain_step HI.out hus hbs 17 _ (by show 17 < 18; decide) rfl hbp (val_of rfl rfl) (HI.out.ph.pure 17 _ hb0 (by decide)) (by simp only [puts, setAll, List.set_cons_zero, List.set_cons_succ, List.setIfInBounds_toArray]))
            exact Steps.nil
          · intro us wE hus dd hD2 hJ
            obtain ⟨p0, p1, p2, p3, p4, p5, p6, p7, p8, p9, p10, p11, p12, p13, p14, p15, p16, p17, rfl⟩ := lenA18 hus
            have hph := hJ.ph
            have e0 : p0 = (.pointer (some ⟨ob, 0, none⟩)) := hJ.val 0 _ rfl (hD2 0 (by show 0 < 18; decide))
            subst e0
            have e1 : av = p1 := (hJ.val 1 _ rfl (hD2 1 (by show 1 < 18; decide))).symm
            subst e1
            have e2 : p2 = (valV v) := hJ.val 2 _ rfl (hD2 2 (by show 2 < 18; decide))
            subst e2
            have e5 : p5 = (.pointer (some ⟨ob, 0, none⟩)) := hJ.val 5 _ rfl (hD2 5 (by show 5 < 18; decide))
            subst e5
            have e6 : p6 = (.pointer (some ⟨ob, 0, none⟩)) := hJ.val 6 _ rfl (hD2 6 (by show 6 < 18; decide))
            subst e6
            have e7 : p7 = (.pointer (some ⟨ob, 3, none⟩)) := hJ.val 7 _ rfl (hD2 7 (by show 7 < 18; decide))
            subst e7
            have e8 : ev = p8 := (hJ.val 8 _ rfl (hD2 8 (by show 8 < 18; decide))).symm
            subst e8
            have e9 : p9 = (RV y.1 y.2) := hJ.val 9 _ rfl (hD2 9 (by show 9 < 18; decide))
            subst e9
            have e12 : p12 = (.int .i64 (at2 : Int)) := hJ.val 12 _ rfl (hD2 12 (by show 12 < 18; decide))
            subst e12
            have e14 : p14 = (.pointer (some ⟨ob, 0, none⟩)) := hJ.val 14 _ rfl (hD2 14 (by show 14 < 18; decide))
            subst e14
            have e15 : p15 = (.pointer (some ⟨ob, 3, none⟩)) := hJ.val 15 _ rfl (hD2 15 (by show 15 < 18; decide))
            subst e15
            have e17 : p17 = (.int .i64 (at2 : Int)) := hJ.val 17 _ rfl (hD2 17 (by show 17 < 18; decide))
            subst e17
            clear hJ
            have hR := hph
            clear hph
            obtain ⟨av2, ev2, h13, hN⟩ := H.out.next H6.out.1 H6.out.2.1 H6.out.2.2.1 H6.out.2.2.2.1 H6.out.2.2.2.2.1 H6.out.2.2.2.2.2.1 H6.out.2.2.2.2.2.2.1 H6.out.2.2.2.2.2.2.2 HBD.out hR hD2
            replace h13 : p13 = av2 := h13
            subst h13
            have HN := Veil.mk hN
            have hl1 := H6.out.2.2.2.2.2.1
            clear hN hR hD2
            simp only [puts, setAll, List.setIfInBounds_toArray, List.set_cons_zero, List.set_cons_succ]
            go_wp2
            go_roundw
            case rel => exact ⟨k + 1, at2, ev2, vs ++ [v], xs ++ [y], os2, by omega, by go_num, rfl, HN.out⟩
            case measure => simp [intOf]; omega
    · have hlt' : ¬ (k : Int) < (q : Int) := by omega
      have HARR := Veil.mk (H.out.mm.array av vs (RowV.own H.out.oa) (by have := H.out.lv; omega) (by have := H.out.cnt; omega))
      go_wp2_with (go_at_call 24; ((with_reducible refine HARR.out.mono ?_); rintro e w8 ⟨rfl, b8, ev8, -, hm8, hr8, hbe8, hk8, -, hev8⟩; have q8 := hk8.box H.out.b8 rfl; have q9 := hk8.box H.out.b9 rfl; have v0 := q8.at_ 0; have v1 := q8.at_ 1; have v2 := q8.at_ 2; have f0 := q8.free 0; have f1 := q8.free 1; have f2 := q8.free 2; have r0 := q9.at_ 0; have r1 := q9.at_ 1; have r2 := q9.at_ 2; have r3 := q9.at_ 3; have g0 := q9.free 0; have g1 := q9.free 1; have g2 := q9.free 2; have g3 := q9.free 3; have HE8 := Veil.mk (And.intro hm8 (And.intro hr8 (And.intro hbe8 (And.intro hk8 hev8)))); have HQ8 := Veil.mk (And.intro q8 q9); clear hm8 hr8 hbe8 hk8 hev8 q8 q9))
      clear v0 v1 v2 r0 r1 r2 r3 f0 f1 f2 g0 g1 g2 g3
      obtain ⟨q1, q2, -⟩ := two_st rfl rfl HQ8.out.1 HQ8.out.2 (9, (os1.length : Int) + 1, ⟨#[]⟩) ((9, 0, ⟨#[]⟩), some ⟨ob, 0, none⟩)
      have y0 := q1.at_ 0
      have y1 := q1.at_ 1
      have y2 := q1.at_ 2
      have z0 := q2.at_ 0
      have z1 := q2.at_ 1
      have z2 := q2.at_ 2
      have z3 := q2.at_ 3
      exact bodyPost_ret (v := .tuple #[valV (9, (os1.length : Int) + 1, ⟨#[]⟩), RV (9, 0, ⟨#[]⟩) (some ⟨ob, 0, none⟩), .int .i64 (at1 : Int)]) (by simp [results, Tryz.results10, go_sem, y0, y1, y2, z0, z1, z2, z3]) rfl (H.out.post (by omega) HE8.out.1 HE8.out.2.1 HE8.out.2.2.1 HE8.out.2.2.2.1 HE8.out.2.2.2.2)
end
end Go.Proofs.YtgdkjkfbknbgkaaGreatDoor
namespace Go.Proofs.YtgdkjkfbknbgkaaGreatDoor
open Go Go.RowKit
attribute [local go_sem] Oper.semAt_some

section
variable {h A m : Nat} {f : Nat → Int}
theorem grow_one {w : World} {os : List OS} (H : Y.MM w h A m f os) (a : Option Addr) (n c : Nat) (ps : List PI) (B : Nat) (HP : PlA w B a n ps) (hBA : B ≤ A) (hn5 : n ≤ 500) (at_ dp : Nat) (hp5 : ∀ x ∈ ps, x.l.length ≤ 500) (hat : at_ ≤ n) (hlen : os.length + (n - at_) ≤ 100000) (IH : Veil (dp ≤ 6 → ∀ (at2 : Nat) (os2 : List OS) (w2 : World), at2 < n → Y.MM w2 h A m f os2 → PlA w2 B a n ps → os2.length + (n - at2) ≤ 100000 → Calls Tryz.prog 10 #[(.pointer (some ⟨m, 0, none⟩)), .agg #[.slice a n c], .int .i64 (at2 : Int), .int .i64 ((dp : Int) + 1)] w2 (GPost w2 A h m f os2 n at2))) : Calls Tryz.prog 10 #[(.pointer (some ⟨m, 0, none⟩)), .agg #[.slice a n c], .int .i64 (at_ : Int), .int .i64 (dp : Int)] w (GPost w A h m f os n at_) := by
  by_cases he : n = at_
  · exact grow_end H a n c hn5 at_ dp he
  obtain ⟨x, hx⟩ : ∃ x, ps[at_]? = some x := ⟨_, List.getElem?_eq_getElem (by rw [HP.len]; omega)⟩
  obtain ⟨r, hr, hx1, hx2, hx3, hx4⟩ := rem_nat x.k 12 (by omega)
  rw [show ((12 : Nat) : Int) = 12 from rfl] at hx1 hx2 hx3 hx4
  have hl : os.length < 1000000 := by omega
  obtain rfl | rfl | rfl | rfl | rfl | rfl | rfl | rfl | rfl | rfl | rfl | rfl : r = 0 ∨ r = 1 ∨ r = 2 ∨ r = 3 ∨ r = 4 ∨ r = 5 ∨ r = 6 ∨ r = 7 ∨ r = 8 ∨ r = 9 ∨ r = 10 ∨ r = 11 := by omega
  · exact grow_plain H a n c ps B HP hBA hn5 at_ dp hx 0 hx1 hx2 hx3 hx4 (by omega)
  · exact grow_plain H a n c ps B HP hBA hn5 at_ dp hx 1 hx1 hx2 hx3 hx4 (by omega)
  · exact grow_bool H a n c ps B HP hBA hn5 at_ dp hx hx1 hx2 hx3 hx4
  · exact grow_int H a n c ps B HP hBA hn5 at_ dp hx hx1 hx2 hx3 hx4
  · exact grow_plain H a n c ps B HP hBA hn5 at_ dp hx 4 hx1 hx2 hx3 hx4 (by omega)
  · exact grow_inf H a n c ps B HP hBA hn5 at_ dp hx hx1 hx2 hx3 hx4
  · exact grow_plain H a n c ps B HP hBA hn5 at_ dp hx 6 hx1 hx2 hx3 hx4 (by omega)
  · exact grow_str H a n c ps B HP hBA hn5 at_ dp hx hx1 hx2 hx3 hx4 hp5
  · exact grow_sym H a n c ps B HP hBA hn5 at_ dp hx hx1 hx2 hx3 hx4 hp5 hl
  · exact grow_obj H a n c ps B HP hBA hn5 at_ dp hx hx1 hx2 hx3 hx4 hl
  · exact grow_plain H a n c ps B HP hBA hn5 at_ dp hx 10 hx1 hx2 hx3 hx4 (by omega)
  · obtain ⟨q, hq1, hq2⟩ := mask 2 (by decide) x.n
    exact grow_arr H a n c ps B HP hBA hn5 at_ dp hx hx1 hx2 hx3 hx4 q hq1 hq2 hlen IH
theorem grow_any (a : Option Addr) (n c : Nat) (ps : List PI) (B : Nat) (hBA : B ≤ A) (hn5 : n ≤ 500) (hp5 : ∀ x ∈ ps, x.l.length ≤ 500) : ∀ (r dp : Nat), dp + r = 7 → ∀ (at_ : Nat) (os : List OS) (w : World), at_ ≤ n → Y.MM w h A m f os → PlA w B a n ps → os.length + (n - at_) ≤ 100000 → Calls Tryz.prog 10 #[(.pointer (some ⟨m, 0, none⟩)), .agg #[.slice a n c], .int .i64 (at_ : Int), .int .i64 (dp : Int)] w (GPost w A h m f os n at_) := by
  intro r
  induction r with
  | zero =>
    intro dp hdp at_ os w hat H HP hlen
    exact grow_one H a n c ps B HP hBA hn5 at_ dp hp5 hat hlen ⟨fun hd => by omega⟩
  | succ r ih =>
    intro dp hdp at_ os w hat H HP hlen
    refine grow_one H a n c ps B HP hBA hn5 at_ dp hp5 hat hlen ⟨fun _ at2 os2 w2 h1 h2 h3 h4 => ?_⟩
    have := ih (dp + 1) (by omega) at2 os2 w2 (by omega) h2 h3 h4
    rw [show ((dp + 1 : Nat) : Int) = (dp : Int) + 1 by omega] at this
    exact this
end
end Go.Proofs.YtgdkjkfbknbgkaaGreatDoor
namespace Go.Proofs.YtgdkjkfbknbgkaaGreatDoor
open Go Go.RowKit
attribute [local go_sem] Oper.semAt_some

theorem PlA.up {w : World} {B B' : Nat} {a : Option Addr} {n : Nat} {l : List PI} (h : PlA w B a n l) (hB : B ≤ B') : PlA w B' a n l := by
  refine ⟨h.len, fun hn => ?_, fun x hx => ?_⟩
  · obtain ⟨b, o, e, hlt, hc⟩ := h.cells hn
    exact ⟨b, o, e, by omega, hc⟩
  · obtain ⟨h1, h2, h3, h4, sa, c, h5, h6⟩ := h.rd x hx
    refine ⟨h1, h2, h3, h4, sa, c, h5, fun h0 => ?_⟩
    obtain ⟨b, o, e, hlt, hc⟩ := h6 h0
    exact ⟨b, o, e, by omega, hc⟩
theorem PrL.y {w W : World} {h A m i : Nat} {os : List OS} (H : PrL w W h A m i os) : Y.MM W h A m (prF i) os := Y.MM.of_plain H.mm (fun o ho => by rw [H.pl o ho]; show (16 : Nat) ≠ 3; decide)
/-- What is shown of a value on both sides. -/
theorem both_shown {F : Nat → Prop} {W : World} {h A m : Nat} {f : Nat → Int} {os : List OS} {v : Vt} {x : RVt} {s : ByteArray} (H : Y.MM W h A m f os) (hT : M.Tb W) (hs : Sh F W os 3 v x s) : (∀ w', Below W.heap.size W w' → Calls Tryz.prog 11 #[(.pointer (some ⟨m, 0, none⟩)), valV v] w' fun e w9 => e = .returned (.string s) ∧ Below w'.heap.size w' w9) ∧ (∀ w', Below W.heap.size W w' → Calls Tryz.prog 12 #[RV x.1 x.2, .int .i64 0] w' fun e w9 => e = .returned (.string s) ∧ Below w'.heap.size w' w9) := by
  refine ⟨fun w' hb => ?_, fun w' hb => ?_⟩
  · have H2 := H.on hb
    exact show_shown H2.cell0 H2.mb.lt v s (Sh.shown H2 (hT.on hb) 3 v x s (Sh.go (Pres.on hb) (fun _ _ h => h) (fun _ h => h) 3 v x s hs))
  · exact Sh.rshow hT 3 (Nat.le_refl _) v x s hs w' hb
set_option maxHeartbeats 2000000 in
set_option maxRecDepth 100000 in
theorem values_law (a : Option Addr) (n c : Nat) (ps : List PI) (w : World) (hS : PlA w w.heap.size a n ps) (hT : M.Tb w) : Calls Tryz.prog 3 #[.agg #[.slice a n c]] w fun e w' => e = .returned (.bool true) ∧ Below w.heap.size w w' := by
  have HS := Veil.mk hS
  have HT := Veil.mk hT
  have HFT : Veil (∀ w, Calls Tryz.prog 7 #[] w fun e w' => e = .returned (.bool true) ∧ Below w.heap.size w w') := ⟨fit_any⟩
  have HMC := Veil.mk (fun W => machine_any W)
  obtain ⟨pb, hpb⟩ : ∃ pb, w.heap.size = pb := ⟨_, rfl⟩
  obtain ⟨W0, hW0⟩ : ∃ W0, w.alloc (.cells #[.slice a n c] 24) = W0 := ⟨_, rfl⟩
  have b1 := Box.new w 24 #[.slice a n c]
  have bb : Below w.heap.size w (w.alloc (.cells #[.slice a n c] 24)) := (Below.refl _ _).alloc (Nat.le_refl _) _
  rw [hW0] at b1 bb
  rw [hpb] at b1
  have HBB := Veil.mk (And.intro bb b1)
  have HW0 := Veil.mk (And.intro hW0 hpb)
  clear hW0 hpb b1 bb hS hT
  go_enter Tryz.func3, Tryz.ntmps3
  go_upto_region 1 with (fail)
  rw [HW0.out.1, HW0.out.2]
  go_upto_region 3 with (first | (go_at_call 7; ((with_reducible refine (HFT.out _).mono ?_); rintro e9 w2 ⟨rfl, hb2⟩)))
  have HB2 : Veil (Below w.heap.size w w2 ∧ Box w2 pb 24 #[.slice a n c]) := ⟨HBB.out.1.trans (hb2.mono HBB.out.1.size), HBB.out.2.below hb2⟩
  have HLT := Veil.mk (light_any a n c ps w2 ((HS.out.on HB2.out.1).up HB2.out.1.size))
  have p0 : w2.cell? ⟨pb, 0, none⟩ = some (.slice a n c) := HB2.out.2.at_ 0
  clear hb2 HFT
  go_wp2_with (first | (go_at_call 8; ((with_reducible refine HLT.out.mono ?_); rintro e9 w3 ⟨v3, rfl, hb3, hv3⟩; refine Hid.out ?_)))
  have HB3 : Veil (Below w.heap.size w w3 ∧ Box w3 pb 24 #[.slice a n c] ∧ (v3 = true → n ≤ 500 ∧ ∀ x ∈ ps, x.l.length ≤ 500)) := ⟨HB2.out.1.trans (hb3.mono HB2.out.1.size), HB2.out.2.below hb3, hv3⟩
  clear hb3 hv3 HLT p0
  cases v3 with
  | false =>
    refine Lib.hid ?_
    go_wp2
    go_ret
    exact ⟨rfl, HB3.out.1⟩
  | true =>
    obtain ⟨hn5, hp5⟩ := HB3.out.2.2 rfl
    have HP5 := Veil.mk hp5
    clear hp5
    refine Lib.hid ?_
    go_upto_region 6 with (go_at_call 9; ((with_reducible refine (HMC.out _).mono ?_); rintro e w4 ⟨h, A, m, os0, rfl, hp4⟩; have HP4 := Veil.mk hp4; clear hp4))
    have HB4 : Veil (Below w.heap.size w w4 ∧ Box w4 pb 24 #[.slice a n c] ∧ w.heap.size ≤ A) := ⟨HB3.out.1.trans (HP4.out.bel.mono HB3.out.1.size), HB3.out.2.1.below HP4.out.bel, Nat.le_trans HB3.out.1.size HP4.out.lo⟩
    have HGR : Veil (Calls Tryz.prog 10 #[(.pointer (some ⟨m, 0, none⟩)), .agg #[.slice a n c], .int .i64 0, .int .i64 0] w4 (GPost w4 A h m (prF 21) os0 n 0)) := ⟨grow_any a n c ps w.heap.size HB4.out.2.2 hn5 HP5.out 7 0 rfl 0 os0 w4 (Nat.zero_le _) HP4.out.y (HS.out.on HB4.out.1) (by rw [HP4.out.len]; omega)⟩
    have p0 : w4.cell? ⟨pb, 0, none⟩ = some (.slice a n c) := HB4.out.2.1.at_ 0
    go_upto_region 7 with (go_at_call 10; ((with_reducible refine HGR.out.mono ?_); rintro e w5 ⟨v, x, at2, os2, rfl, hm5, -, hb5, -, -, -, -, hs5⟩; have H5 := Veil.mk (And.intro hm5 (And.intro hb5 hs5)); clear hm5 hb5 hs5))
    clear p0
    obtain ⟨s, -, hs⟩ := H5.out.2.2 3 (Nat.le_refl _)
    obtain ⟨zb, hzb⟩ : ∃ zb, w5.heap.size = zb := ⟨_, rfl⟩
    obtain ⟨yb, hyb⟩ : ∃ yb, zb + 1 = yb := ⟨_, rfl⟩
    obtain ⟨W7, hW7⟩ : ∃ W7, (w5.alloc (.cells (vC v) 30)).alloc (.cells (rC x) 33) = W7 := ⟨_, rfl⟩
    have hb7 : Below w5.heap.size w5 W7 := by rw [← hW7]; exact ((Below.refl _ _).alloc (Nat.le_refl _) _).alloc (by simp) _
    have hz7 : Box W7 zb 30 (vC v) := by rw [← hW7, ← hzb]; exact (Box.new _ _ _).more _
    have hy7 : Box W7 yb 33 (rC x) := by
      rw [← hW7, ← hyb, ← hzb]
      have := Box.new (w5.alloc (.cells (vC v) 30)) 33 (rC x)
      rwa [World.size_alloc] at this
    have hB5 : Below w.heap.size w w5 := HB4.out.1.trans (H5.out.2.1.mono HB4.out.2.2)
    have hB7 : Below w.heap.size w W7 := hB5.trans (hb7.mono hB5.size)
    have HSHOW := Veil.mk (both_shown (H5.out.1.on hb7) (HT.out.on hB7) (Sh.go (Pres.on hb7) (fun _ _ h => h) (fun _ h => h) 3 v x s hs))
    have HZ := Veil.mk hz7
    have HY := Veil.mk hy7
    have HBD := Veil.mk hB7
    rw [hW7]
    rw [hzb, hyb]
    clear hW7 hzb hyb hb7 hz7 hy7 hB5 hB7 hs
    refine wp_region_gen (.val (· = (.pointer (some ⟨m, 0, none⟩))) :: .val (· = (valV v)) :: .val (· = (.string s)) :: .val (· = (RV x.1 x.2)) :: .val (· = (.string s)) :: .val (· = (.bool true)) :: .val (· = (.bool true)) :: [] : List Kd) [some 20, some 21, some 22, some 23, some 24, some 25, some 2] (curV' _ [some 20, some 21, some 22, some 23, some 24, some 25, some 2]) (by kernel_rfl) rfl rfl (puts_cur _ _) ?_ (by kernel_rfl) ?_
    · refine Steps.cons rfl (fun bb aa w' hbs hb0 hbp hI K hK => ?_) ?_
      · obtain ⟨us, hus, ha, hI⟩ := hI
        obtain ⟨u0, u1, u2, u3, u4, u5, u6, rfl⟩ := lenA7 hus
        have HI := Veil.mk hI
        clear hI
        rw [ha]
        simp only [puts, setAll, List.setIfInBounds_toArray, List.set_cons_zero, List.set_cons_succ]
        go_simp
        exact hK _ _ (gen_val HI.out hus hbs 0 _ _ (by show 0 < 7; decide) (fit_of rfl) rfl hb0 rfl (Below.refl _ _) (by simp only [puts, setAll, List.set_cons_zero, List.set_cons_succ, List.setIfInBounds_toArray]))
      refine Steps.cons rfl (fun bb aa w' hbs hb0 hbp hI K hK => ?_) ?_
      · obtain ⟨us, hus, ha, hI⟩ := hI
        obtain ⟨u0, u1, u2, u3, u4, u5, u6, rfl⟩ := lenA7 hus
        have hch := hI.below
        have c0 : w'.cell? ⟨zb, 0, none⟩ = _ := (HZ.out.below hch).at_ 0
        have c1 : w'.cell? ⟨zb, 1, none⟩ = _ := (HZ.out.below hch).at_ 1
        have c2 : w'.cell? ⟨zb, 2, none⟩ = _ := (HZ.out.below hch).at_ 2
        clear hch
        have HI := Veil.mk hI
        clear hI
        rw [ha]
        simp only [puts, setAll, List.setIfInBounds_toArray, List.set_cons_zero, List.set_cons_succ]
        go_simp
        exact hK _ _ (gen_val HI.out hus hbs 1 _ _ (by show 1 < 7; decide) (fit_of rfl) rfl hb0 rfl (Below.refl _ _) (by simp only [puts, setAll, List.set_cons_zero, List.set_cons_succ, List.setIfInBounds_toArray]))
      refine Steps.cons rfl (fun bb aa w' hbs hb0 hbp hI K hK => ?_) ?_
      · obtain ⟨us, hus, ha, hI⟩ := hI
        obtain ⟨u0, u1, u2, u3, u4, u5, u6, rfl⟩ := lenA7 hus
        have e0 : u0 = (.pointer (some ⟨m, 0, none⟩)) := hI.val 0 _ rfl (gen_after 0 (by kernel_rfl) hbp)
        subst e0
        have e1 : u1 = (valV v) := hI.val 1 _ rfl (gen_after 1 (by kernel_rfl) hbp)
        subst e1
        have hch := hI.below
        have HX9 := Veil.mk (HSHOW.out.1 w' hch)
        clear hch
        have HI := Veil.mk hI
        clear hI
        rw [ha]
        simp only [puts, setAll, List.setIfInBounds_toArray, List.set_cons_zero, List.set_cons_succ]
        go_simp
        go_at_call 11
        refine HX9.out.mono ?_
        rintro e9 w9 ⟨rfl, hb9⟩
        go_simp
        exact hK _ _ (gen_val HI.out hus hbs 2 _ _ (by show 2 < 7; decide) (fit_of rfl) rfl hb0 rfl hb9 (by simp only [puts, setAll, List.set_cons_zero, List.set_cons_succ, List.setIfInBounds_toArray]))
      refine Steps.cons rfl (fun bb aa w' hbs hb0 hbp hI K hK => ?_) ?_
      · obtain ⟨us, hus, ha, hI⟩ := hI
        obtain ⟨u0, u1, u2, u3, u4, u5, u6, rfl⟩ := lenA7 hus
        have hch := hI.below
        have c0 : w'.cell? ⟨yb, 0, none⟩ = _ := (HY.out.below hch).at_ 0
        have c1 : w'.cell? ⟨yb, 1, none⟩ = _ := (HY.out.below hch).at_ 1
        have c2 : w'.cell? ⟨yb, 2, none⟩ = _ := (HY.out.below hch).at_ 2
        have c3 : w'.cell? ⟨yb, 3, none⟩ = _ := (HY.out.below hch).at_ 3
        clear hch
        have HI := Veil.mk hI
        clear hI
        rw [ha]
        simp only [puts, setAll, List.setIfInBounds_toArray, List.set_cons_zero, List.set_cons_succ]
        go_simp
        exact hK _ _ (gen_val HI.out hus hbs 3 _ _ (by show 3 < 7; decide) (fit_of rfl) rfl hb0 rfl (Below.refl _ _) (by simp only [puts, setAll, List.set_cons_zero, List.set_cons_succ, List.setIfInBounds_toArray]))
      refine Steps.cons rfl (fun bb aa w' hbs hb0 hbp hI K hK => ?_) ?_
      · obtain ⟨us, hus, ha, hI⟩ := hI
        obtain ⟨u0, u1, u2, u3, u4, u5, u6, rfl⟩ := lenA7 hus
        have e3 : u3 = (RV x.1 x.2) := hI.val 3 _ rfl (gen_after 3 (by kernel_rfl) hbp)
        subst e3
        have hch := hI.below
        have HX9 := Veil.mk (HSHOW.out.2 w' hch)
        clear hch
        have HI := Veil.mk hI
        clear hI
        rw [ha]
        simp only [puts, setAll, List.setIfInBounds_toArray, List.set_cons_zero, List.set_cons_succ]
        go_simp
        go_at_call 12
        refine HX9.out.mono ?_
        rintro e9 w9 ⟨rfl, hb9⟩
        go_simp
        exact hK _ _ (gen_val HI.out hus hbs 4 _ _ (by show 4 < 7; decide) (fit_of rfl) rfl hb0 rfl hb9 (by simp only [puts, setAll, List.set_cons_zero, List.set_cons_succ, List.setIfInBounds_toArray]))
      refine Steps.cons rfl (fun bb aa w' hbs hb0 hbp hI K hK => ?_) ?_
      · obtain ⟨us, hus, ha, hI⟩ := hI
        obtain ⟨u0, u1, u2, u3, u4, u5, u6, rfl⟩ := lenA7 hus
        have e2 : u2 = (.string s) := hI.val 2 _ rfl (gen_after 2 (by kernel_rfl) hbp)
        subst e2
        have e4 : u4 = (.string s) := hI.val 4 _ rfl (gen_after 4 (by kernel_rfl) hbp)
        subst e4
        have HI := Veil.mk hI
        clear hI
        rw [ha]
        simp only [puts, setAll, List.setIfInBounds_toArray, List.set_cons_zero, List.set_cons_succ]
        go_simp
        exact hK _ _ (gen_val HI.out hus hbs 5 _ _ (by show 5 < 7; decide) (fit_of rfl) rfl hb0 rfl (Below.refl _ _) (by simp only [puts, setAll, List.set_cons_zero, List.set_cons_succ, List.setIfInBounds_toArray]))
      refine Steps.cons rfl (fun bb aa w' hbs hb0 hbp hI K hK => ?_) ?_
      · obtain ⟨us, hus, ha, hI⟩ := hI
        obtain ⟨u0, u1, u2, u3, u4, u5, u6, rfl⟩ := lenA7 hus
        have e5 : u5 = (.bool true) := hI.val 5 _ rfl (gen_after 5 (by kernel_rfl) hbp)
        subst e5
        have HI := Veil.mk hI
        clear hI
        rw [ha]
        simp only [puts, setAll, List.setIfInBounds_toArray, List.set_cons_zero, List.set_cons_succ]
        go_simp
        exact hK _ _ (gen_val HI.out hus hbs 6 _ _ (by show 6 < 7; decide) (fit_of rfl) rfl hb0 rfl (Below.refl _ _) (by simp only [puts, setAll, List.set_cons_zero, List.set_cons_succ, List.setIfInBounds_toArray]))
      exact Steps.nil
    · intro us wE hus dd hD2 hJ
      obtain ⟨p0, p1, p2, p3, p4, p5, p6, rfl⟩ := lenA7 hus
      have hbE := hJ.below
      have e0 : p0 = (.pointer (some ⟨m, 0, none⟩)) := hJ.val 0 _ rfl (hD2 0 (by show 0 < 7; decide))
      subst e0
      have e1 : p1 = (valV v) := hJ.val 1 _ rfl (hD2 1 (by show 1 < 7; decide))
      subst e1
      have e2 : p2 = (.string s) := hJ.val 2 _ rfl (hD2 2 (by show 2 < 7; decide))
      subst e2
      have e3 : p3 = (RV x.1 x.2) := hJ.val 3 _ rfl (hD2 3 (by show 3 < 7; decide))
      subst e3
      have e4 : p4 = (.string s) := hJ.val 4 _ rfl (hD2 4 (by show 4 < 7; decide))
      subst e4
      have e5 : p5 = (.bool true) := hJ.val 5 _ rfl (hD2 5 (by show 5 < 7; decide))
      subst e5
      have e6 : p6 = (.bool true) := hJ.val 6 _ rfl (hD2 6 (by show 6 < 7; decide))
      subst e6
      clear hJ hD2
      have HE := Veil.mk hbE
      clear hbE
      simp only [puts, setAll, List.setIfInBounds_toArray, List.set_cons_zero, List.set_cons_succ]
      go_wp2
      go_ret
      exact ⟨rfl, HBD.out.trans (HE.out.mono HBD.out.size)⟩
end Go.Proofs.YtgdkjkfbknbgkaaGreatDoor
