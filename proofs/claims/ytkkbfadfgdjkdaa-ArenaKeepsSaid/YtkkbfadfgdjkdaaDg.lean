/- Package arena: marker.pair, where something waits. -/
import Derived.Test.YtkkbfadfgdjkdaaDf
import Derived.Test.YtkkbfadfgdjkdaaIh
import Derived.Test.YtkkbfadfgdjkdaaAn
import Derived.Test.YtkkbfadfgdjkdaaIr
namespace Go.Proofs.Ytkkbfadfgdjkdaa
open Go Go.RowKit

theorem len15 {α : Type} {us : List α} (h : us.length = 15) : ∃ a0 a1 a2 a3 a4 a5 a6 a7 a8 a9 a10 a11 a12 a13 a14, us = [a0, a1, a2, a3, a4, a5, a6, a7, a8, a9, a10, a11, a12, a13, a14] := by
  match us, h with
  | [a0, a1, a2, a3, a4, a5, a6, a7, a8, a9, a10, a11, a12, a13, a14], _ => exact ⟨a0, a1, a2, a3, a4, a5, a6, a7, a8, a9, a10, a11, a12, a13, a14, rfl⟩
/-- What pair may write of what lay there. -/
def PFoot (w : World) (b : Nat) (tv : Value) (j : Nat) : Prop := j = b ∨ (b < j ∧ Lab w j 3 ∧ tv.ownBlock ≠ some j)
abbrev bk (w0 : World) (b c : Nat) (D : DI) (key : Int) (u : Value) : Prop := w0.groupBack Try.prog 66 3 (b + 1) 3 .i64 b c D (.int .i64 key) (.int .i64 key) u
/-- What the look-up found. -/
structure Found (W1 : World) (b c : Nat) (D : DI) (key : Int) (tv u : Value) (w0 : World) (zs : List Int) : Prop where
  bel : Below W1.heap.size W1 w0
  back : bk w0 b c D key u
  own : w0.ownsInts (b + 1) 3 .i64 u zs
  wt : wtOf D key = zs
  len : zs.length ≤ c
  no : ∀ g, u.ownBlock = some g → ¬ (tv.ownBlock = some g)
def PairEnd (W1 : World) (b c : Nat) (D : DI) (tv : Value) (key val : Int) (w : World) : Prop :=
  ∃ D', (wtOf D' = fun k => if k = key then wtOf D key ++ [val] else wtOf D k) ∧ Grp w b (c + 1) D' ∧ w.Shuns b (fun g => tv.ownBlock = some g) ∧ Touch (PFoot W1 b tv) W1 w
def PairPh (W1 : World) (b c : Nat) (D : DI) (tv : Value) (key val : Int) (d : Nat → Bool) (us : Nat → Value) (w : World) : Prop :=
  if d 14 = true then PairEnd W1 b c D tv key val w
  else if d 13 = true then ∃ w0 u zs, Found W1 b c D key tv u w0 zs ∧ w0.grownBy w u.ownBlock ∧ w.ownsInts (b + 1) 3 .i64 (us 13) (zs ++ [val]) ∧ ((us 13).ownBlock = u.ownBlock ∨ ∃ g, (us 13).ownBlock = some g ∧ w0.heap.size ≤ g)
  else Below W1.heap.size W1 w ∧ (d 10 = true → ∃ w0 zs, Found W1 b c D key tv (us 10) w0 zs ∧ Below w0.heap.size w0 w) ∧ (d 12 = true → ∃ x, us 12 = .slice (some ⟨x, 0, none⟩) 1 1 ∧ Box w x 3 #[.int .i64 val])
section
variable {W1 w w' : World} {b c : Nat} {D : DI} {tv : Value} {key val : Int} {d : Nat → Bool} {us : Nat → Value}
theorem PairPh.early (h : PairPh W1 b c D tv key val d us w) (h1 : d 14 = false) (h2 : d 13 = false) : Below W1.heap.size W1 w ∧ (d 10 = true → ∃ w0 zs, Found W1 b c D key tv (us 10) w0 zs ∧ Below w0.heap.size w0 w) ∧ (d 12 = true → ∃ x, us 12 = .slice (some ⟨x, 0, none⟩) 1 1 ∧ Box w x 3 #[.int .i64 val]) := by
  unfold PairPh at h
  rw [h1, h2] at h
  simpa using h
theorem PairPh.at_ap (h : PairPh W1 b c D tv key val d us w) (h1 : d 14 = false) (h2 : d 13 = true) : ∃ w0 u zs, Found W1 b c D key tv u w0 zs ∧ w0.grownBy w u.ownBlock ∧ w.ownsInts (b + 1) 3 .i64 (us 13) (zs ++ [val]) ∧ ((us 13).ownBlock = u.ownBlock ∨ ∃ g, (us 13).ownBlock = some g ∧ w0.heap.size ≤ g) := by
  unfold PairPh at h
  rw [h1, h2] at h
  simpa using h
theorem PairPh.at_end (h : PairPh W1 b c D tv key val d us w) (h1 : d 14 = true) : PairEnd W1 b c D tv key val w := by
  unfold PairPh at h
  rw [h1] at h
  simpa using h
theorem PairPh.step (h : PairPh W1 b c D tv key val d us w) (i : Nat) (v : Value) (h1 : i ≠ 14) (h2 : i ≠ 13) (h3 : i ≠ 12) (h4 : i ≠ 10) : PairPh W1 b c D tv key val (upd d i true) (upd us i v) w := by
  unfold PairPh at h ⊢
  rw [upd_ne _ _ (fun e => h1 e.symm), upd_ne _ _ (fun e => h2 e.symm), upd_ne _ _ (fun e => h3 e.symm), upd_ne _ _ (fun e => h4 e.symm), upd_ne _ _ (fun e => h2 e.symm), upd_ne _ _ (fun e => h4 e.symm), upd_ne _ _ (fun e => h3 e.symm)]
  exact h
theorem PairPh.look (h : PairPh W1 b c D tv key val d us w) (h1 : d 14 = false) (h2 : d 13 = false) (u : Value) (zs : List Int) (hf : Found W1 b c D key tv u w zs) : PairPh W1 b c D tv key val (upd d 10 true) (upd us 10 u) w := by
  obtain ⟨e1, e2, e3⟩ := h.early h1 h2
  unfold PairPh
  rw [upd_ne _ _ (by decide), upd_ne _ _ (by decide), upd_same, upd_ne _ _ (by decide), upd_same, upd_ne _ _ (by decide), upd_ne _ _ (by decide), h1, h2]
  simp only [Bool.false_eq_true, if_false]
  exact ⟨e1, fun _ => ⟨w, zs, hf, Below.refl _ _⟩, e3⟩
theorem PairPh.row (h : PairPh W1 b c D tv key val d us w) (h1 : d 14 = false) (h2 : d 13 = false) : PairPh W1 b c D tv key val (upd d 12 true) (upd us 12 (.slice (some ⟨w.heap.size, 0, none⟩) 1 1)) (w.alloc (.cells #[.int .i64 val] 3)) := by
  obtain ⟨e1, e2, e3⟩ := h.early h1 h2
  unfold PairPh
  rw [upd_ne _ _ (by decide), upd_ne _ _ (by decide), upd_ne _ _ (by decide), upd_same, upd_ne _ _ (by decide), upd_ne _ _ (by decide), upd_same, h1, h2]
  simp only [Bool.false_eq_true, if_false]
  refine ⟨e1.alloc e1.size _, fun h3 => ?_, fun _ => ⟨_, rfl, Box.new _ _ _⟩⟩
  obtain ⟨w0, zs, hf, hb⟩ := e2 h3
  exact ⟨w0, zs, hf, hb.alloc hb.size _⟩
theorem PairPh.app {w0 : World} {u v' : Value} {zs : List Int} (h1 : d 14 = false) (hf : Found W1 b c D key tv u w0 zs) (hg : w0.grownBy w' u.ownBlock) (ho : w'.ownsInts (b + 1) 3 .i64 v' (zs ++ [val])) (hl : v'.ownBlock = u.ownBlock ∨ ∃ g, v'.ownBlock = some g ∧ w0.heap.size ≤ g) : PairPh W1 b c D tv key val (upd d 13 true) (upd us 13 v') w' := by
  unfold PairPh
  rw [upd_ne _ _ (by decide), upd_same, upd_same, h1]
  simp only [Bool.false_eq_true, if_false, if_true]
  exact ⟨w0, u, zs, hf, hg, ho, hl⟩
theorem PairPh.sto {v : Value} (h : PairEnd W1 b c D tv key val w') : PairPh W1 b c D tv key val (upd d 14 true) (upd us 14 v) w' := by
  unfold PairPh
  rw [upd_same]
  simpa using h
end
/-- What the rows shun behind a store. -/
theorem back_shuns {w0 w w2 : World} {b c : Nat} {D : DI} {key : Int} {u v' : Value} {zs : List Int} {No : Nat → Prop} (hkey : keyOf Try.prog 3 (.int .i64 key) = some (.int .i64 key)) (hg : Grp w0 b c D) (hc : c < maxLen) (hu : w0.ownsInts (b + 1) 3 .i64 u zs) (hs : w0.Shuns b No) (hno : ∀ g, v'.ownBlock = some g → ¬ No g) (hgr : w0.grownBy w u.ownBlock) (hrun : (Instr.mapUpdate 66 (.map (some b)) (.int .i64 key) v').run Try.prog w = .ok () w2) : w2.Shuns b No := by
  obtain ⟨es, clock, hb, F, hsz, _, hbb, _⟩ := hg
  have hblt : b < w0.heap.size := (Array.getElem?_eq_some_iff.1 hb).1
  have hb1 : w.heap[b]? = some (.map es clock) := (hgr.block b hblt (fun e1 => by have := (own_lt hu.1 b e1.symm).1; omega)).trans hb
  obtain ⟨es', clock', hb2, hwho⟩ := stored_who kLaw Try.underlying66 hb1 F (Nat.lt_of_le_of_lt hsz hc) hkey hrun
  intro es2 clock2 hb3 y hy g hyg
  rw [hb2] at hb3
  injection hb3 with hb3
  injection hb3 with h1 h2
  subst h1
  rcases hwho y hy with ⟨hy0, _⟩ | ⟨_, hval⟩
  · exact hs es clock hb y hy0 g hyg
  · exact hno g (hval ▸ hyg)
theorem pair_stored {W1 w : World} {b c : Nat} {D : DI} {tv : Value} {key val : Int} {w0 : World} {u v' : Value} {zs : List Int} (hkey : keyOf Try.prog 3 (.int .i64 key) = some (.int .i64 key)) (hg : Grp W1 b c D) (hs : W1.Shuns b (fun g => tv.ownBlock = some g)) (ht : ∀ g, tv.ownBlock = some g → g < W1.heap.size) (hc : c < 100000000000000)
    (hf : Found W1 b c D key tv u w0 zs) (hgr : w0.grownBy w u.ownBlock) (ho : w.ownsInts (b + 1) 3 .i64 v' (zs ++ [val])) (hl : v'.ownBlock = u.ownBlock ∨ ∃ g, v'.ownBlock = some g ∧ w0.heap.size ≤ g) :
    ∃ w2, (Instr.mapUpdate 66 (.map (some b)) (.int .i64 key) v').run Try.prog w = .ok () w2 ∧ PairEnd W1 b c D tv key val w2 := by
  obtain ⟨w2, hrun, h1, h2⟩ := hf.back w v' (zs ++ [val]) hgr ho (by rw [List.length_append]; have := hf.len; simp; omega) hl
  obtain ⟨hg0, hb0⟩ := hg.touch (S := fun _ => False) (Touch.of_below hf.bel) (fun _ _ h => h)
  have hs0 : w0.Shuns b (fun g => tv.ownBlock = some g) := Shuns.same hs hb0 (fun _ _ h => h)
  have hsz := hf.bel.size
  have hsh : w2.Shuns b (fun g => tv.ownBlock = some g) := back_shuns hkey hg0 (by unfold maxLen; omega) hf.own hs0 (fun g hg h => by
    rcases hl with h3 | ⟨g', h3, h4⟩
    · exact hf.no g (by rw [← h3]; exact hg) h
    · rw [h3] at hg
      cases hg
      have := ht _ h
      omega) hgr hrun
  refine ⟨w2, hrun, _, ?_, h1, hsh, ?_⟩
  · rw [wtOf_put hg.isMap key ho, hf.wt]
  · have t1 : Touch (fun j => u.ownBlock = some j) w0 w := Touch.of_grown hgr (fun j hj => hj)
    have t2 : Touch (fun j => j = b) w w2 := Touch.of_grown h2 (fun j hj => by cases hj; rfl)
    refine ((Touch.of_below hf.bel).later t1 (fun j hj hk => ?_)).trans (t2.mono (fun j hj => .inl hj))
    have hlt := own_lt hf.own.1 j hk
    obtain ⟨cs, fr, hlab⟩ := own_lab hf.own.1 j hk
    exact .inr ⟨by omega, ⟨cs, fr, (hf.bel.block j hj).symm.trans hlab⟩, hf.no j hk⟩
theorem PairPh.cell {W1 w : World} {b c : Nat} {D : DI} {tv : Value} {key val : Int} {d : Nat → Bool} {us : Nat → Value} (h : PairPh W1 b c D tv key val d us w) (h1 : d 14 = false) {m : Nat} {cs : Array Value} (hb : Box W1 m 68 cs) : Box w m 68 cs := by
  cases h2 : d 13 with
  | false => exact hb.on (h.early h1 h2).1 hb.lt
  | true =>
    obtain ⟨w0, u, zs, hf, hg, _⟩ := h.at_ap h1 h2
    have b0 := hb.on hf.bel hb.lt
    exact b0.grown hg (b0.apart hf.own.1 (by decide))
theorem found_at {W1 w : World} {b c : Nat} {D : DI} {tv : Value} {key : Int} (hb : Below W1.heap.size W1 w) (hg : Grp W1 b c D) (hs : W1.Shuns b (fun g => tv.ownBlock = some g)) (hc : c < 100000000000000) (hkey : keyOf Try.prog 3 (.int .i64 key) = some (.int .i64 key)) :
    ∃ u zs, (Instr.lookup 66 (.map (some b)) (.int .i64 key) false).run Try.prog w = .ok u w ∧ Found W1 b c D key tv u w zs := by
  obtain ⟨hg1, hb1⟩ := hg.touch (S := fun _ => False) (Touch.of_below hb) (fun _ _ h => h)
  obtain ⟨v, zs, hrun, hat, hoi, hzl, hback⟩ := hg1.at kLaw Try.underlying66 (zeroS w) (by unfold maxLen; omega) hkey
  refine ⟨v, zs, hrun, hb, hback, hoi, wtOf_at hoi hat, hzl, fun g hvg hN => ?_⟩
  obtain ⟨es, clock, he, F, _⟩ := hg1
  rcases Maps.fit_look false kLaw Try.underlying66 (zeroS w) he F hkey with ⟨hrun', _, _⟩ | ⟨e0, y, hm0, _, hrun', _, _, _⟩
  · rw [hrun] at hrun'
    injection hrun' with hrun'
    rw [hrun'] at hvg
    cases hvg
  · rw [hrun] at hrun'
    injection hrun' with hrun'
    rw [hb1] at he
    exact hs es clock he e0 hm0 g (by rw [hrun'] at hvg; exact hvg) hN
theorem key_wf {x : Int} (h : -9223372036854775808 ≤ x ∧ x ≤ 9223372036854775807) : (Lit.int .i64 x).wf = true := WalkArith.wf_i64 (by omega)
theorem MkW.paired {w w' : World} {N A m b c : Nat} {mv tv : Value} {M : List Bool} {todo : List Nat} {D : DI} {key val : Int} (h : MkW w N A m mv tv (.map (some b)) M todo D c) (he : PairEnd w b c D tv key val w') :
    ∃ D', MkW w' N A m mv tv (.map (some b)) M todo D' (c + 1) ∧ (wtOf D' = fun k => if k = key then wtOf D key ++ [val] else wtOf D k) := by
  obtain ⟨D', h1, h2, h3, h4⟩ := he
  rcases h.wm with ⟨e, _⟩ | ⟨b', e, hb, hg, hs⟩
  · cases e
  · injection e with e
    injection e with e
    subst e
    obtain ⟨es, clock, hmap⟩ := hg.blk
    have hn : ∀ j e, Lab w j e → (e ≠ 3 ∨ tv.ownBlock = some j) → ¬ PFoot w b tv j := fun j e hl h5 hp => by
      rcases hp with hp | ⟨_, hp, h6⟩
      · exact map_lab hmap hl hp
      · rcases h5 with h5 | h5
        · exact hl.ne hp h5 rfl
        · exact h6 h5
    exact ⟨D', ⟨⟨h.mk_.box.touch h4 (hn _ _ h.mk_.box.lab (.inl (by decide))), own_touch h.mk_.mo h4 (fun j hj => hn _ _ (own_lab h.mk_.mo j hj) (.inl (by decide))), own_touch h.mk_.tq h4 (fun j hj => hn _ _ (own_lab h.mk_.tq j hj) (.inr hj)), h.mk_.hm⟩, .inr ⟨b, rfl, hb, h2, h3⟩⟩, h1⟩
theorem PFoot.cel {w : World} {N A m b c : Nat} {mv tv : Value} {M : List Bool} {todo : List Nat} {D : DI} (h : MkW w N A m mv tv (.map (some b)) M todo D c) {j : Nat} (hj : PFoot w b tv j) : N ≤ j ∧ CelO w j ∧ ¬ Lab w j 65 := by
  rcases h.wm with ⟨e, _⟩ | ⟨b', e, hb, hg, hs⟩
  · cases e
  · injection e with e
    injection e with e
    subst e
    obtain ⟨es, clock, hmap⟩ := hg.blk
    rcases hj with rfl | ⟨h1, h2, _⟩
    · exact ⟨hb, .map hmap, fun hl => map_lab hmap hl rfl⟩
    · exact ⟨by omega, .lab h2, fun hl => hl.ne h2 (by decide) rfl⟩
def PairPost (N A m : Nat) (mv : Value) (d : AD) (M : List Bool) (todo : List Nat) (D : DI) (c : Nat) (p : Int × Int) (w : World) (e : Ending) (w' : World) : Prop :=
  e = .returned (.tuple #[]) ∧ Touch (fun j => N ≤ j ∧ CelO w j) w w' ∧ TM N w w' ∧ ∃ tv' pv' D', MkW w' N A m mv tv' pv' (pairP d ((M, todo), wtOf D) p).1.1 (pairP d ((M, todo), wtOf D) p).1.2 D' (c + 1) ∧ wtOf D' = (pairP d ((M, todo), wtOf D) p).2
theorem pair_post {N A m b c : Nat} {mv tv : Value} {d : AD} {M : List Bool} {todo : List Nat} {D : DI} {key val : Int} {w W5 w' : World} (hd : deadB d M key = true) (t5 : Touch (fun j => j = m) w W5) (hx : Lab w m 68) (hN : N ≤ m) (h : MkW W5 N A m mv tv (.map (some b)) M todo D c) (he : PairEnd W5 b c D tv key val w') :
    PairPost N A m mv d M todo D c (key, val) w (.returned (.tuple #[])) w' := by
  obtain ⟨D', h1, h2⟩ := h.paired he
  obtain ⟨_, _, _, _, t6⟩ := he
  have hp : pairP d ((M, todo), wtOf D) (key, val) = ((M, todo), fun k => if k = key then wtOf D key ++ [val] else wtOf D k) := by
    unfold pairP
    rw [if_pos hd]
    refine congrArg _ (funext fun k => ?_)
    by_cases e : k = key
    · simp only [e, if_true]
    · simp only [e, if_false]
  have hk : ∀ j, j < w.heap.size → PFoot W5 b tv j → N ≤ j ∧ (j = m ∨ (CelO w j ∧ ¬ Lab w j 65)) := fun j hj hp => by
    obtain ⟨q1, ⟨o, q2, q4, q5⟩, q3⟩ := PFoot.cel h hp
    by_cases e : j = m
    · exact ⟨q1, .inl e⟩
    · have hb := t5.block j hj e
      exact ⟨q1, .inr ⟨⟨o, hb.symm.trans q2, q4, q5⟩, fun ⟨cs, fr, hl⟩ => q3 ⟨cs, fr, hb.trans hl⟩⟩⟩
  refine ⟨rfl, (t5.mono (fun j hj => ⟨by omega, by rw [hj]; exact .lab hx⟩)).later t6 (fun j hj hp => ?_), ?_, tv, _, D', by rw [hp]; exact h1, by rw [hp]; exact h2⟩
  · obtain ⟨q1, q2⟩ := hk j hj hp
    rcases q2 with rfl | q2
    · exact ⟨q1, .lab hx⟩
    · exact ⟨q1, q2.1⟩
  · refine Touch.later (t5.mono (fun j hj => ⟨by omega, fun hl => hl.ne hx (by decide) hj⟩)) t6 (fun j hj hp => ?_)
    obtain ⟨q1, q2⟩ := hk j hj hp
    rcases q2 with rfl | q2
    · exact ⟨q1, fun hl => hl.ne hx (by decide) rfl⟩
    · exact ⟨q1, q2.2⟩
set_option maxHeartbeats 4000000 in
set_option maxRecDepth 100000 in
theorem pair_any (B A N m : Nat) (cv fv rv mv tv pv : Value) (d : AD) (M : List Bool) (todo : List Nat) (D : DI) (c : Nat) (hg : MGood d (M, todo)) (hL : d.cells.length < 1000000) (hc : c < 10000000000000) (key val : Int) (hv : -9223372036854775808 ≤ val ∧ val ≤ 9223372036854775807) (w : World) (hNw : N ≤ w.heap.size) (h : ArAt w B A cv fv rv d) (hm : MkW w N A m mv tv pv M todo D c) :
    Calls Try.prog 41 #[.pointer (some ⟨m, 0, none⟩), .int .i64 key, .int .i64 val] w (PairPost N A m mv d M todo D c (key, val) w) := by
  have HD : Veil (Calls Try.prog 29 #[.pointer (some ⟨m, 0, none⟩), .int .i64 key] w fun e w' => e = .returned (.bool (deadB d M key)) ∧ w' = w) := ⟨dead_any B A N m cv fv rv mv tv d M todo hg.len key w h hm.mk_⟩
  have HV := Veil.mk (key_wf hv)
  cases hd : deadB d M key with
  | false =>
    have HMK := Veil.mk (mark_w B A N m cv fv rv mv tv d M todo D c hg.len hg.todo hL val w hNw h hm)
    have HP : Veil (∀ w' tv', Touch (MFoot m mv tv) w w' → MkW w' N A m mv tv' pv (markP d (M, todo) val).1 (markP d (M, todo) val).2 D c → PairPost N A m mv d M todo D c (key, val) w (.returned (.tuple #[])) w') := ⟨fun w' tv' ht hm' => by
      have hp : pairP d ((M, todo), wtOf D) (key, val) = (markP d (M, todo) val, wtOf D) := by
        unfold pairP
        rw [if_neg (by show ¬ deadB d M key = true; rw [hd]; decide)]
      exact ⟨rfl, ht.mono (fun j hj => ⟨MFoot.lt hm.mk_ hj, hm.mk_.cells' hj⟩), TM.mark hm.mk_ ht, tv', pv, D, by rw [hp]; exact hm'.more (Nat.le_succ _), by rw [hp]⟩⟩
    rw [hd] at HD
    clear h hm hd hg hL hv HV
    go_enter Try.func41, Try.ntmps41
    go_wp2_with (first | (go_at_call 29; ((with_reducible refine HD.out.mono ?_); rintro e9 w9 ⟨rfl, h9⟩; subst w9)) | (go_at_call 26; ((with_reducible refine HMK.out.mono ?_); rintro e8 w8 ⟨rfl, ht8, tv8, hm8⟩)))
    exact bodyPost_ret (results_none rfl _ _ _) rfl (HP.out _ _ ht8 hm8)
  | true =>
    have hs : (d.get key).isSome = true := by
      unfold deadB at hd
      rw [Bool.and_eq_true] at hd
      exact hd.1
    have hr := AD.get_some hs
    have HKY := Veil.mk (Maps.keyOf_int_mk (P := Try.prog) (k := 3) Try.underlying3 (key_wf (x := key) (by omega)))
    have HDD := Veil.mk hd
    have hmw := hm.wm
    have hc : c < 100000000000000 := by omega
    rw [hd] at HD
    rcases hmw with ⟨rfl, rfl⟩ | ⟨b, rfl, hNb, hgr, hsh⟩
    · have hmm := @run_makeMap Try.prog
      obtain ⟨b, hb⟩ : ∃ b, w.heap.size = b := ⟨_, rfl⟩
      have hbx := hm.mk_.box
      have hmlt := hbx.lt
      have b1 : Box (w.alloc (.map #[] 0)) m 68 _ := hbx.more (.map #[] 0)
      have c3 : w.cell? ⟨m, 3, none⟩ = some (.map none) := hbx.at_ 3
      have c4 : (w.alloc (.map #[] 0)).cell? ⟨m, 3, none⟩ = some (.map none) := b1.at_ 3
      have c4f := b1.free 3
      have hbA : Below w.heap.size w (w.alloc (.map #[] 0)) := (Below.refl _ _).alloc (Nat.le_refl _) _
      have tp : Touch (fun j => j = m) (w.alloc (.map #[] 0)) ((w.alloc (.map #[] 0)).setCell ⟨m, 3, none⟩ (.map (some b))) := Touch.put (S := fun j => j = m) rfl _ _
      have t5 : Touch (fun j => j = m) w ((w.alloc (.map #[] 0)).setCell ⟨m, 3, none⟩ (.map (some b))) := (Touch.of_below hbA).trans tp
      have hgm : Grp (w.alloc (.map #[] 0)) b 0 (.map []) := by
        have := World.ownsGroups_made (H := Nat) w Try.prog 3 3 .i64
        rw [hb] at this
        exact this
      have hmb : m ≠ b := by omega
      have hga := hgm.touch tp (fun j hj e => by
        rcases hgm.foot hj with h1 | h1
        · exact hmb (e.symm.trans h1)
        · omega)
      have hsa : (w.alloc (.map #[] 0)).Shuns b (fun g => tv.ownBlock = some g) := by
        have := World.Shuns_made w (fun g => tv.ownBlock = some g)
        rw [hb] at this
        exact this
      have hM5 : MkW ((w.alloc (.map #[] 0)).setCell ⟨m, 3, none⟩ (.map (some b))) N A m mv tv (.map (some b)) M todo (.map []) c := by
        have k1 := hm.mk_.on hbA
        refine ⟨⟨b1.put 3 _, own_touch k1.mo tp (fun j hj e => (own_lab k1.mo j hj).ne b1.lab (by decide) e), own_touch k1.tq tp (fun j hj e => (own_lab k1.tq j hj).ne b1.lab (by decide) e), k1.hm⟩, .inr ⟨b, rfl, by omega, hga.1.more (Nat.zero_le _), Shuns.same hsa hga.2 (fun _ _ h => h)⟩⟩
      have T5 := Veil.mk (And.intro t5 (And.intro hbx.lab hm.mk_.hm))
      have HM5' := Veil.mk hM5
      have hq : ∀ w : World, (binOp .eql 66 (.map none) (.map none)).run Try.prog w = .ok (.bool true) w := fun _ => rfl
      have HB := Veil.mk hb
      clear h hm hd hg hL hv hs hr hbx b1 tp t5 hgm hga hsa hM5 hbA hmlt hb hmb
      go_enter Try.func41, Try.ntmps41
      go_upto_region 4 with (first | (go_at_call 29; ((with_reducible refine HD.out.mono ?_); rintro e9 w9 ⟨rfl, h9⟩; subst w9)))
      rw [HB.out]
      obtain ⟨W5, hW5⟩ : ∃ W5, (w.alloc (.map #[] 0)).setCell ⟨m, 3, none⟩ (.map (some b)) = W5 := ⟨_, rfl⟩
      rw [hW5] at HM5' T5 ⊢
      have HM5 := HM5'
      obtain ⟨D, hD⟩ : ∃ D : DI, (DataW.map [] : DI) = D := ⟨_, rfl⟩
      rw [hD] at HM5 ⊢
      clear hW5 HM5' HB c3 c4 c4f hmm
      obtain ⟨i0, hi, hz0, hz1, hz2⟩ := info_parts Try.infoI
      have HGR : Veil (Grp W5 b c D ∧ W5.Shuns b (fun g => tv.ownBlock = some g)) := ⟨by
        rcases HM5.out.wm with ⟨e, _⟩ | ⟨b', e, _, hg, hs⟩
        · cases e
        · injection e with e
          injection e with e
          subst e
          exact ⟨hg, hs⟩⟩
      have HTV : Veil (∀ g, tv.ownBlock = some g → g < W5.heap.size) := ⟨fun g hg => (own_lt HM5.out.mk_.tq g hg).2⟩
      refine wp_region_chain ([some (· = .pointer (some ⟨m, 0, none⟩)), some (· = .pointer (some ⟨m, 0, none⟩)), some (· = .pointer (some ⟨m, 3, none⟩)), some (· = .map (some b)), some (· = .int .i64 key), some (· = .pointer (some ⟨m, 0, none⟩)), some (· = .pointer (some ⟨m, 0, none⟩)), some (· = .pointer (some ⟨m, 3, none⟩)), some (· = .map (some b)), some (· = .int .i64 key), none, some (· = .int .i64 val), none, none, none] : List (Option (Value → Prop))) (PairPh W5 b c D tv key val) [some 22, some 23, some 24, some 25, some 26, some 27, some 28, some 29, some 30, some 31, some 32, some 33, some 34, some 35, none] (curV' _ [some 22, some 23, some 24, some 25, some 26, some 27, some 28, some 29, some 30, some 31, some 32, some 33, some 34, some 35, none]) (by kernel_rfl) rfl rfl (puts_cur _ _) ⟨(Below.refl _ _).drew, nofun, nofun⟩ ?_ (by kernel_rfl) ?_
      · refine Steps.cons rfl (fun bb aa w' hbs hb0 hbp hI K hK => ?_) ?_
        · obtain ⟨us, hus, ha, hI⟩ := hI
          obtain ⟨u0, u1, u2, u3, u4, u5, u6, u7, u8, u9, u10, u11, u12, u13, u14, rfl⟩ := len15 hus
          have HI := Veil.mk hI
          clear hI
          rw [ha]
          simp only [puts, setAll, List.setIfInBounds_toArray, List.set_cons_zero, List.set_cons_succ]
          go_simp
          exact hK _ _ (chain_step HI.out hus hbs 0 _ (by show 0 < 15; decide) rfl hbp (val_of rfl rfl) (HI.out.ph.step 0 _ (by decide) (by decide) (by decide) (by decide)) (by simp only [puts, setAll, List.set_cons_zero, List.set_cons_succ, List.setIfInBounds_toArray]))
        refine Steps.cons rfl (fun bb aa w' hbs hb0 hbp hI K hK => ?_) ?_
        · obtain ⟨us, hus, ha, hI⟩ := hI
          obtain ⟨u0, u1, u2, u3, u4, u5, u6, u7, u8, u9, u10, u11, u12, u13, u14, rfl⟩ := len15 hus
          have e0 : u0 = .pointer (some ⟨m, 0, none⟩) := hI.val 0 _ rfl (gen_after 0 (by kernel_rfl) hbp)
          subst e0
          have HI := Veil.mk hI
          clear hI
          rw [ha]
          simp only [puts, setAll, List.setIfInBounds_toArray, List.set_cons_zero, List.set_cons_succ]
          go_simp
          exact hK _ _ (chain_step HI.out hus hbs 1 _ (by show 1 < 15; decide) rfl hbp (val_of rfl rfl) (HI.out.ph.step 1 _ (by decide) (by decide) (by decide) (by decide)) (by simp only [puts, setAll, List.set_cons_zero, List.set_cons_succ, List.setIfInBounds_toArray]))
        refine Steps.cons rfl (fun bb aa w' hbs hb0 hbp hI K hK => ?_) ?_
        · obtain ⟨us, hus, ha, hI⟩ := hI
          obtain ⟨u0, u1, u2, u3, u4, u5, u6, u7, u8, u9, u10, u11, u12, u13, u14, rfl⟩ := len15 hus
          have e1 : u1 = .pointer (some ⟨m, 0, none⟩) := hI.val 1 _ rfl (gen_after 1 (by kernel_rfl) hbp)
          subst e1
          have HI := Veil.mk hI
          clear hI
          rw [ha]
          simp only [puts, setAll, List.setIfInBounds_toArray, List.set_cons_zero, List.set_cons_succ]
          go_simp
          exact hK _ _ (chain_step HI.out hus hbs 2 _ (by show 2 < 15; decide) rfl hbp (val_of rfl rfl) (HI.out.ph.step 2 _ (by decide) (by decide) (by decide) (by decide)) (by simp only [puts, setAll, List.set_cons_zero, List.set_cons_succ, List.setIfInBounds_toArray]))
        refine Steps.cons rfl (fun bb aa w' hbs hb0 hbp hI K hK => ?_) ?_
        · obtain ⟨us, hus, ha, hI⟩ := hI
          obtain ⟨u0, u1, u2, u3, u4, u5, u6, u7, u8, u9, u10, u11, u12, u13, u14, rfl⟩ := len15 hus
          have e2 : u2 = .pointer (some ⟨m, 3, none⟩) := hI.val 2 _ rfl (gen_after 2 (by kernel_rfl) hbp)
          subst e2
          have h14 := hI.before 14 3 rfl (by kernel_rfl) hb0
          have c0 : w'.cell? ⟨m, 3, none⟩ = some (.map (some b)) := (hI.ph.cell h14 HM5.out.mk_.box).at_ 3
          clear h14
          have HI := Veil.mk hI
          clear hI
          rw [ha]
          simp only [puts, setAll, List.setIfInBounds_toArray, List.set_cons_zero, List.set_cons_succ]
          go_simp
          exact hK _ _ (chain_step HI.out hus hbs 3 _ (by show 3 < 15; decide) rfl hbp (val_of rfl rfl) (HI.out.ph.step 3 _ (by decide) (by decide) (by decide) (by decide)) (by simp only [puts, setAll, List.set_cons_zero, List.set_cons_succ, List.setIfInBounds_toArray]))
        refine Steps.cons rfl (fun bb aa w' hbs hb0 hbp hI K hK => ?_) ?_
        · obtain ⟨us, hus, ha, hI⟩ := hI
          obtain ⟨u0, u1, u2, u3, u4, u5, u6, u7, u8, u9, u10, u11, u12, u13, u14, rfl⟩ := len15 hus
          have HI := Veil.mk hI
          clear hI
          rw [ha]
          simp only [puts, setAll, List.setIfInBounds_toArray, List.set_cons_zero, List.set_cons_succ]
          go_simp
          exact hK _ _ (chain_step HI.out hus hbs 4 _ (by show 4 < 15; decide) rfl hbp (val_of rfl rfl) (HI.out.ph.step 4 _ (by decide) (by decide) (by decide) (by decide)) (by simp only [puts, setAll, List.set_cons_zero, List.set_cons_succ, List.setIfInBounds_toArray]))
        refine Steps.cons rfl (fun bb aa w' hbs hb0 hbp hI K hK => ?_) ?_
        · obtain ⟨us, hus, ha, hI⟩ := hI
          obtain ⟨u0, u1, u2, u3, u4, u5, u6, u7, u8, u9, u10, u11, u12, u13, u14, rfl⟩ := len15 hus
          have HI := Veil.mk hI
          clear hI
          rw [ha]
          simp only [puts, setAll, List.setIfInBounds_toArray, List.set_cons_zero, List.set_cons_succ]
          go_simp
          exact hK _ _ (chain_step HI.out hus hbs 5 _ (by show 5 < 15; decide) rfl hbp (val_of rfl rfl) (HI.out.ph.step 5 _ (by decide) (by decide) (by decide) (by decide)) (by simp only [puts, setAll, List.set_cons_zero, List.set_cons_succ, List.setIfInBounds_toArray]))
        refine Steps.cons rfl (fun bb aa w' hbs hb0 hbp hI K hK => ?_) ?_
        · obtain ⟨us, hus, ha, hI⟩ := hI
          obtain ⟨u0, u1, u2, u3, u4, u5, u6, u7, u8, u9, u10, u11, u12, u13, u14, rfl⟩ := len15 hus
          have e5 : u5 = .pointer (some ⟨m, 0, none⟩) := hI.val 5 _ rfl (gen_after 5 (by kernel_rfl) hbp)
          subst e5
          have HI := Veil.mk hI
          clear hI
          rw [ha]
          simp only [puts, setAll, List.setIfInBounds_toArray, List.set_cons_zero, List.set_cons_succ]
          go_simp
          exact hK _ _ (chain_step HI.out hus hbs 6 _ (by show 6 < 15; decide) rfl hbp (val_of rfl rfl) (HI.out.ph.step 6 _ (by decide) (by decide) (by decide) (by decide)) (by simp only [puts, setAll, List.set_cons_zero, List.set_cons_succ, List.setIfInBounds_toArray]))
        refine Steps.cons rfl (fun bb aa w' hbs hb0 hbp hI K hK => ?_) ?_
        · obtain ⟨us, hus, ha, hI⟩ := hI
          obtain ⟨u0, u1, u2, u3, u4, u5, u6, u7, u8, u9, u10, u11, u12, u13, u14, rfl⟩ := len15 hus
          have e6 : u6 = .pointer (some ⟨m, 0, none⟩) := hI.val 6 _ rfl (gen_after 6 (by kernel_rfl) hbp)
          subst e6
          have HI := Veil.mk hI
          clear hI
          rw [ha]
          simp only [puts, setAll, List.setIfInBounds_toArray, List.set_cons_zero, List.set_cons_succ]
          go_simp
          exact hK _ _ (chain_step HI.out hus hbs 7 _ (by show 7 < 15; decide) rfl hbp (val_of rfl rfl) (HI.out.ph.step 7 _ (by decide) (by decide) (by decide) (by decide)) (by simp only [puts, setAll, List.set_cons_zero, List.set_cons_succ, List.setIfInBounds_toArray]))
        refine Steps.cons rfl (fun bb aa w' hbs hb0 hbp hI K hK => ?_) ?_
        · obtain ⟨us, hus, ha, hI⟩ := hI
          obtain ⟨u0, u1, u2, u3, u4, u5, u6, u7, u8, u9, u10, u11, u12, u13, u14, rfl⟩ := len15 hus
          have e7 : u7 = .pointer (some ⟨m, 3, none⟩) := hI.val 7 _ rfl (gen_after 7 (by kernel_rfl) hbp)
          subst e7
          have h10 := hI.before 10 8 rfl (by kernel_rfl) hb0
          have h13 := hI.before 13 10 rfl (by kernel_rfl) h10
          have h14 := hI.before 14 13 rfl (by kernel_rfl) h13
          have c0 : w'.cell? ⟨m, 3, none⟩ = some (.map (some b)) := (hI.ph.cell h14 HM5.out.mk_.box).at_ 3
          clear h14 h13 h10
          have HI := Veil.mk hI
          clear hI
          rw [ha]
          simp only [puts, setAll, List.setIfInBounds_toArray, List.set_cons_zero, List.set_cons_succ]
          go_simp
          exact hK _ _ (chain_step HI.out hus hbs 8 _ (by show 8 < 15; decide) rfl hbp (val_of rfl rfl) (HI.out.ph.step 8 _ (by decide) (by decide) (by decide) (by decide)) (by simp only [puts, setAll, List.set_cons_zero, List.set_cons_succ, List.setIfInBounds_toArray]))
        refine Steps.cons rfl (fun bb aa w' hbs hb0 hbp hI K hK => ?_) ?_
        · obtain ⟨us, hus, ha, hI⟩ := hI
          obtain ⟨u0, u1, u2, u3, u4, u5, u6, u7, u8, u9, u10, u11, u12, u13, u14, rfl⟩ := len15 hus
          have HI := Veil.mk hI
          clear hI
          rw [ha]
          simp only [puts, setAll, List.setIfInBounds_toArray, List.set_cons_zero, List.set_cons_succ]
          go_simp
          exact hK _ _ (chain_step HI.out hus hbs 9 _ (by show 9 < 15; decide) rfl hbp (val_of rfl rfl) (HI.out.ph.step 9 _ (by decide) (by decide) (by decide) (by decide)) (by simp only [puts, setAll, List.set_cons_zero, List.set_cons_succ, List.setIfInBounds_toArray]))
        refine Steps.cons rfl (fun bb aa w' hbs hb0 hbp hI K hK => ?_) ?_
        · obtain ⟨us, hus, ha, hI⟩ := hI
          obtain ⟨u0, u1, u2, u3, u4, u5, u6, u7, u8, u9, u10, u11, u12, u13, u14, rfl⟩ := len15 hus
          have e8 : u8 = .map (some b) := hI.val 8 _ rfl (gen_after 8 (by kernel_rfl) hbp)
          subst e8
          have e9 : u9 = .int .i64 key := hI.val 9 _ rfl (gen_after 9 (by kernel_rfl) hbp)
          subst e9
          have h13 := hI.before 13 10 rfl (by kernel_rfl) hb0
          have h14 := hI.before 14 13 rfl (by kernel_rfl) h13
          obtain ⟨uu, zs, hrun, hfd⟩ := found_at (hI.ph.early h14 h13).1 HGR.out.1 HGR.out.2 hc HKY.out
          have HF := Veil.mk (And.intro h14 (And.intro h13 hfd))
          clear h14 h13 hfd
          have HI := Veil.mk hI
          clear hI
          rw [ha]
          simp only [puts, setAll, List.setIfInBounds_toArray, List.set_cons_zero, List.set_cons_succ]
          go_simp
          exact hK _ _ (chain_step HI.out hus hbs 10 _ (by show 10 < 15; decide) rfl hbp (none_of rfl) (HI.out.ph.look HF.out.1 HF.out.2.1 uu zs HF.out.2.2) (by simp only [puts, setAll, List.set_cons_zero, List.set_cons_succ, List.setIfInBounds_toArray]))
        refine Steps.cons rfl (fun bb aa w' hbs hb0 hbp hI K hK => ?_) ?_
        · obtain ⟨us, hus, ha, hI⟩ := hI
          obtain ⟨u0, u1, u2, u3, u4, u5, u6, u7, u8, u9, u10, u11, u12, u13, u14, rfl⟩ := len15 hus
          have HI := Veil.mk hI
          clear hI
          rw [ha]
          simp only [puts, setAll, List.setIfInBounds_toArray, List.set_cons_zero, List.set_cons_succ]
          go_simp
          exact hK _ _ (chain_step HI.out hus hbs 11 _ (by show 11 < 15; decide) rfl hbp (val_of rfl rfl) (HI.out.ph.step 11 _ (by decide) (by decide) (by decide) (by decide)) (by simp only [puts, setAll, List.set_cons_zero, List.set_cons_succ, List.setIfInBounds_toArray]))
        refine Steps.cons rfl (fun bb aa w' hbs hb0 hbp hI K hK => ?_) ?_
        · obtain ⟨us, hus, ha, hI⟩ := hI
          obtain ⟨u0, u1, u2, u3, u4, u5, u6, u7, u8, u9, u10, u11, u12, u13, u14, rfl⟩ := len15 hus
          have e11 : u11 = .int .i64 val := hI.val 11 _ rfl (gen_after 11 (by kernel_rfl) hbp)
          subst e11
          have h13 := hI.before 13 12 rfl (by kernel_rfl) hb0
          have h14 := hI.before 14 13 rfl (by kernel_rfl) h13
          have HF := Veil.mk (And.intro h14 h13)
          clear h14 h13
          have HI := Veil.mk hI
          clear hI
          rw [ha]
          simp only [puts, setAll, List.setIfInBounds_toArray, List.set_cons_zero, List.set_cons_succ]
          go_simp
          exact hK _ _ (chain_step HI.out hus hbs 12 _ (by show 12 < 15; decide) rfl hbp (none_of rfl) (HI.out.ph.row HF.out.1 HF.out.2) (by simp only [puts, setAll, List.set_cons_zero, List.set_cons_succ, List.setIfInBounds_toArray]))
        refine Steps.cons rfl (fun bb aa w' hbs hb0 hbp hI K hK => ?_) ?_
        · obtain ⟨us, hus, ha, hI⟩ := hI
          obtain ⟨u0, u1, u2, u3, u4, u5, u6, u7, u8, u9, u10, u11, u12, u13, u14, rfl⟩ := len15 hus
          have h14 := hI.before 14 13 rfl (by kernel_rfl) hb0
          obtain ⟨q1, q2, q3⟩ := hI.ph.early h14 hb0
          obtain ⟨w0, zs, hfd, hbw⟩ := q2 (gen_after 10 (by kernel_rfl) hbp)
          obtain ⟨x, e12, hbx⟩ := q3 (gen_after 12 (by kernel_rfl) hbp)
          have e12 : u12 = .slice (some ⟨x, 0, none⟩) 1 1 := e12
          subst e12
          have hfd : Found W5 b c D key tv u10 w0 zs := hfd
          have hR2 := own_below hfd.own.1 hbw
          have hzl := hfd.len
          have hsz := hbw.size
          have hsz1 := hfd.bel.size
          have hbsz := HGR.out.1.blk
          obtain ⟨es0, clk0, hb9⟩ := hbsz
          have hb10 := (Array.getElem?_eq_some_iff.1 hb9).1
          have HI := Veil.mk hI
          have HF := Veil.mk (And.intro h14 (And.intro hfd (grownBy_of_below hbw u10.ownBlock)))
          have HOI := Veil.mk hfd.own
          clear hI h14 q1 q2 q3 hfd hbw hb9
          rw [ha]
          simp only [puts, setAll, List.setIfInBounds_toArray, List.set_cons_zero, List.set_cons_succ]
          clear ha
          refine wp_append_lies _ (.tmp 32) (.tmp 34) 22 rfl (b + 1) 3 i0 (.int .i64 0) 1 8 Try.underlying22 hi hz0 hz1 hz2 rfl (by decide) u10 zs.length _ (by simp [Act.eval]) hR2 ⟨x, 0, none⟩ 1 1 [.int .i64 val] (by simp [Act.eval]) rfl (fun j u hj => World.news_of_block hbx j u hj) (by simp [Value.oneCell']) (by decide) (by unfold maxLen; omega) (by omega) (by omega) _ rfl ?_; intro r cap' w3 hown' hgrow3 hblk hg3
          have hap := HOI.out.appended hown' HV.out
          have hlc : (Value.slice (some ⟨r, 0, none⟩) (zs.length + 1) cap').ownBlock = u10.ownBlock ∨ ∃ g, (Value.slice (some ⟨r, 0, none⟩) (zs.length + 1) cap').ownBlock = some g ∧ w0.heap.size ≤ g := hblk.imp (fun h => h.symm) (fun h => ⟨r, rfl, by omega⟩)
          exact hK _ _ (chain_step HI.out hus hbs 13 _ (by show 13 < 15; decide) rfl hbp (none_of rfl) (PairPh.app HF.out.1 HF.out.2.1 (HF.out.2.2.trans hgrow3) hap hlc) (by simp only [Act.put, puts, setAll, List.set_cons_zero, List.set_cons_succ, List.setIfInBounds_toArray]))
        refine Steps.cons rfl (fun bb aa w' hbs hb0 hbp hI K hK => ?_) ?_
        · obtain ⟨us, hus, ha, hI⟩ := hI
          obtain ⟨u0, u1, u2, u3, u4, u5, u6, u7, u8, u9, u10, u11, u12, u13, u14, rfl⟩ := len15 hus
          have e3 : u3 = .map (some b) := hI.val 3 _ rfl (gen_after 3 (by kernel_rfl) hbp)
          subst e3
          have e4 : u4 = .int .i64 key := hI.val 4 _ rfl (gen_after 4 (by kernel_rfl) hbp)
          subst e4
          obtain ⟨w0, uu, zs, hfd, hgr, hoi, hlo⟩ := hI.ph.at_ap hb0 (gen_after 13 (by kernel_rfl) hbp)
          have hoi : w'.ownsInts (b + 1) 3 .i64 u13 (zs ++ [val]) := hoi
          have hlo : u13.ownBlock = uu.ownBlock ∨ ∃ g, u13.ownBlock = some g ∧ w0.heap.size ≤ g := hlo
          obtain ⟨w2, hrun, hend⟩ := pair_stored HKY.out HGR.out.1 HGR.out.2 HTV.out hc hfd hgr hoi hlo
          have HE := Veil.mk hend
          clear hfd hgr hoi hlo hend
          have HI := Veil.mk hI
          clear hI
          rw [ha]
          simp only [puts, setAll, List.setIfInBounds_toArray, List.set_cons_zero, List.set_cons_succ]
          go_simp
          exact hK _ _ (chain_step HI.out hus hbs 14 undef (by show 14 < 15; decide) rfl hbp (none_of rfl) (PairPh.sto HE.out) (by simp only [puts, setAll, List.set_cons_zero, List.set_cons_succ, List.setIfInBounds_toArray]))
        exact Steps.nil
      · intro us w9 hus dd hD2 hJ
        obtain ⟨y0, y1, y2, y3, y4, y5, y6, y7, y8, y9, y10, y11, y12, y13, y14, rfl⟩ := len15 hus
        have hE := hJ.ph.at_end (hD2 14 (by show 14 < 15; decide))
        have HP := Veil.mk (pair_post HDD.out T5.out.1 T5.out.2.1 T5.out.2.2 HM5.out hE)
        clear hJ hD2 hE
        simp only [puts, setAll, List.set_cons_zero, List.set_cons_succ, List.setIfInBounds_toArray]
        go_wp2
        exact bodyPost_end (results_none rfl _ _ _) rfl HP.out
    · have c3 : w.cell? ⟨m, 3, none⟩ = some (.map (some b)) := hm.mk_.box.at_ 3
      have hq : ∀ w : World, (binOp .eql 66 (.map (some b)) (.map none)).run Try.prog w = .ok (.bool false) w := fun _ => rfl
      obtain ⟨W5, hW5⟩ : ∃ W5, w = W5 := ⟨_, rfl⟩
      have T5 : Veil (Touch (fun j => j = m) w W5 ∧ Lab w m 68 ∧ N ≤ m) := ⟨by rw [← hW5]; exact Touch.refl _ _, hm.mk_.box.lab, hm.mk_.hm⟩
      have HM5 : Veil (MkW W5 N A m mv tv (.map (some b)) M todo D c) := ⟨by rw [← hW5]; exact hm⟩
      have HW := Veil.mk hW5
      clear h hm hd hg hL hv hs hr hNb hgr hsh hNw hW5
      go_enter Try.func41, Try.ntmps41
      go_upto_region 4 with (first | (go_at_call 29; ((with_reducible refine HD.out.mono ?_); rintro e9 w9 ⟨rfl, h9⟩; subst w9)))
      clear c3 HD
      rw [HW.out]
      rw [HW.out] at T5
      clear HW
      obtain ⟨i0, hi, hz0, hz1, hz2⟩ := info_parts Try.infoI
      have HGR : Veil (Grp W5 b c D ∧ W5.Shuns b (fun g => tv.ownBlock = some g)) := ⟨by
        rcases HM5.out.wm with ⟨e, _⟩ | ⟨b', e, _, hg, hs⟩
        · cases e
        · injection e with e
          injection e with e
          subst e
          exact ⟨hg, hs⟩⟩
      have HTV : Veil (∀ g, tv.ownBlock = some g → g < W5.heap.size) := ⟨fun g hg => (own_lt HM5.out.mk_.tq g hg).2⟩
      refine wp_region_chain ([some (· = .pointer (some ⟨m, 0, none⟩)), some (· = .pointer (some ⟨m, 0, none⟩)), some (· = .pointer (some ⟨m, 3, none⟩)), some (· = .map (some b)), some (· = .int .i64 key), some (· = .pointer (some ⟨m, 0, none⟩)), some (· = .pointer (some ⟨m, 0, none⟩)), some (· = .pointer (some ⟨m, 3, none⟩)), some (· = .map (some b)), some (· = .int .i64 key), none, some (· = .int .i64 val), none, none, none] : List (Option (Value → Prop))) (PairPh W5 b c D tv key val) [some 22, some 23, some 24, some 25, some 26, some 27, some 28, some 29, some 30, some 31, some 32, some 33, some 34, some 35, none] (curV' _ [some 22, some 23, some 24, some 25, some 26, some 27, some 28, some 29, some 30, some 31, some 32, some 33, some 34, some 35, none]) (by kernel_rfl) rfl rfl (puts_cur _ _) ⟨(Below.refl _ _).drew, nofun, nofun⟩ ?_ (by kernel_rfl) ?_
      · refine Steps.cons rfl (fun bb aa w' hbs hb0 hbp hI K hK => ?_) ?_
        · obtain ⟨us, hus, ha, hI⟩ := hI
          obtain ⟨u0, u1, u2, u3, u4, u5, u6, u7, u8, u9, u10, u11, u12, u13, u14, rfl⟩ := len15 hus
          have HI := Veil.mk hI
          clear hI
          rw [ha]
          simp only [puts, setAll, List.setIfInBounds_toArray, List.set_cons_zero, List.set_cons_succ]
          go_simp
          exact hK _ _ (chain_step HI.out hus hbs 0 _ (by show 0 < 15; decide) rfl hbp (val_of rfl rfl) (HI.out.ph.step 0 _ (by decide) (by decide) (by decide) (by decide)) (by simp only [puts, setAll, List.set_cons_zero, List.set_cons_succ, List.setIfInBounds_toArray]))
        refine Steps.cons rfl (fun bb aa w' hbs hb0 hbp hI K hK => ?_) ?_
        · obtain ⟨us, hus, ha, hI⟩ := hI
          obtain ⟨u0, u1, u2, u3, u4, u5, u6, u7, u8, u9, u10, u11, u12, u13, u14, rfl⟩ := len15 hus
          have e0 : u0 = .pointer (some ⟨m, 0, none⟩) := hI.val 0 _ rfl (gen_after 0 (by kernel_rfl) hbp)
          subst e0
          have HI := Veil.mk hI
          clear hI
          rw [ha]
          simp only [puts, setAll, List.setIfInBounds_toArray, List.set_cons_zero, List.set_cons_succ]
          go_simp
          exact hK _ _ (chain_step HI.out hus hbs 1 _ (by show 1 < 15; decide) rfl hbp (val_of rfl rfl) (HI.out.ph.step 1 _ (by decide) (by decide) (by decide) (by decide)) (by simp only [puts, setAll, List.set_cons_zero, List.set_cons_succ, List.setIfInBounds_toArray]))
        refine Steps.cons rfl (fun bb aa w' hbs hb0 hbp hI K hK => ?_) ?_
        · obtain ⟨us, hus, ha, hI⟩ := hI
          obtain ⟨u0, u1, u2, u3, u4, u5, u6, u7, u8, u9, u10, u11, u12, u13, u14, rfl⟩ := len15 hus
          have e1 : u1 = .pointer (some ⟨m, 0, none⟩) := hI.val 1 _ rfl (gen_after 1 (by kernel_rfl) hbp)
          subst e1
          have HI := Veil.mk hI
          clear hI
          rw [ha]
          simp only [puts, setAll, List.setIfInBounds_toArray, List.set_cons_zero, List.set_cons_succ]
          go_simp
          exact hK _ _ (chain_step HI.out hus hbs 2 _ (by show 2 < 15; decide) rfl hbp (val_of rfl rfl) (HI.out.ph.step 2 _ (by decide) (by decide) (by decide) (by decide)) (by simp only [puts, setAll, List.set_cons_zero, List.set_cons_succ, List.setIfInBounds_toArray]))
        refine Steps.cons rfl (fun bb aa w' hbs hb0 hbp hI K hK => ?_) ?_
        · obtain ⟨us, hus, ha, hI⟩ := hI
          obtain ⟨u0, u1, u2, u3, u4, u5, u6, u7, u8, u9, u10, u11, u12, u13, u14, rfl⟩ := len15 hus
          have e2 : u2 = .pointer (some ⟨m, 3, none⟩) := hI.val 2 _ rfl (gen_after 2 (by kernel_rfl) hbp)
          subst e2
          have h14 := hI.before 14 3 rfl (by kernel_rfl) hb0
          have c0 : w'.cell? ⟨m, 3, none⟩ = some (.map (some b)) := (hI.ph.cell h14 HM5.out.mk_.box).at_ 3
          clear h14
          have HI := Veil.mk hI
          clear hI
          rw [ha]
          simp only [puts, setAll, List.setIfInBounds_toArray, List.set_cons_zero, List.set_cons_succ]
          go_simp
          exact hK _ _ (chain_step HI.out hus hbs 3 _ (by show 3 < 15; decide) rfl hbp (val_of rfl rfl) (HI.out.ph.step 3 _ (by decide) (by decide) (by decide) (by decide)) (by simp only [puts, setAll, List.set_cons_zero, List.set_cons_succ, List.setIfInBounds_toArray]))
        refine Steps.cons rfl (fun bb aa w' hbs hb0 hbp hI K hK => ?_) ?_
        · obtain ⟨us, hus, ha, hI⟩ := hI
          obtain ⟨u0, u1, u2, u3, u4, u5, u6, u7, u8, u9, u10, u11, u12, u13, u14, rfl⟩ := len15 hus
          have HI := Veil.mk hI
          clear hI
          rw [ha]
          simp only [puts, setAll, List.setIfInBounds_toArray, List.set_cons_zero, List.set_cons_succ]
          go_simp
          exact hK _ _ (chain_step HI.out hus hbs 4 _ (by show 4 < 15; decide) rfl hbp (val_of rfl rfl) (HI.out.ph.step 4 _ (by decide) (by decide) (by decide) (by decide)) (by simp only [puts, setAll, List.set_cons_zero, List.set_cons_succ, List.setIfInBounds_toArray]))
        refine Steps.cons rfl (fun bb aa w' hbs hb0 hbp hI K hK => ?_) ?_
        · obtain ⟨us, hus, ha, hI⟩ := hI
          obtain ⟨u0, u1, u2, u3, u4, u5, u6, u7, u8, u9, u10, u11, u12, u13, u14, rfl⟩ := len15 hus
          have HI := Veil.mk hI
          clear hI
          rw [ha]
          simp only [puts, setAll, List.setIfInBounds_toArray, List.set_cons_zero, List.set_cons_succ]
          go_simp
          exact hK _ _ (chain_step HI.out hus hbs 5 _ (by show 5 < 15; decide) rfl hbp (val_of rfl rfl) (HI.out.ph.step 5 _ (by decide) (by decide) (by decide) (by decide)) (by simp only [puts, setAll, List.set_cons_zero, List.set_cons_succ, List.setIfInBounds_toArray]))
        refine Steps.cons rfl (fun bb aa w' hbs hb0 hbp hI K hK => ?_) ?_
        · obtain ⟨us, hus, ha, hI⟩ := hI
          obtain ⟨u0, u1, u2, u3, u4, u5, u6, u7, u8, u9, u10, u11, u12, u13, u14, rfl⟩ := len15 hus
          have e5 : u5 = .pointer (some ⟨m, 0, none⟩) := hI.val 5 _ rfl (gen_after 5 (by kernel_rfl) hbp)
          subst e5
          have HI := Veil.mk hI
          clear hI
          rw [ha]
          simp only [puts, setAll, List.setIfInBounds_toArray, List.set_cons_zero, List.set_cons_succ]
          go_simp
          exact hK _ _ (chain_step HI.out hus hbs 6 _ (by show 6 < 15; decide) rfl hbp (val_of rfl rfl) (HI.out.ph.step 6 _ (by decide) (by decide) (by decide) (by decide)) (by simp only [puts, setAll, List.set_cons_zero, List.set_cons_succ, List.setIfInBounds_toArray]))
        refine Steps.cons rfl (fun bb aa w' hbs hb0 hbp hI K hK => ?_) ?_
        · obtain ⟨us, hus, ha, hI⟩ := hI
          obtain ⟨u0, u1, u2, u3, u4, u5, u6, u7, u8, u9, u10, u11, u12, u13, u14, rfl⟩ := len15 hus
          have e6 : u6 = .pointer (some ⟨m, 0, none⟩) := hI.val 6 _ rfl (gen_after 6 (by kernel_rfl) hbp)
          subst e6
          have HI := Veil.mk hI
          clear hI
          rw [ha]
          simp only [puts, setAll, List.setIfInBounds_toArray, List.set_cons_zero, List.set_cons_succ]
          go_simp
          exact hK _ _ (chain_step HI.out hus hbs 7 _ (by show 7 < 15; decide) rfl hbp (val_of rfl rfl) (HI.out.ph.step 7 _ (by decide) (by decide) (by decide) (by decide)) (by simp only [puts, setAll, List.set_cons_zero, List.set_cons_succ, List.setIfInBounds_toArray]))
        refine Steps.cons rfl (fun bb aa w' hbs hb0 hbp hI K hK => ?_) ?_
        · obtain ⟨us, hus, ha, hI⟩ := hI
          obtain ⟨u0, u1, u2, u3, u4, u5, u6, u7, u8, u9, u10, u11, u12, u13, u14, rfl⟩ := len15 hus
          have e7 : u7 = .pointer (some ⟨m, 3, none⟩) := hI.val 7 _ rfl (gen_after 7 (by kernel_rfl) hbp)
          subst e7
          have h10 := hI.before 10 8 rfl (by kernel_rfl) hb0
          have h13 := hI.before 13 10 rfl (by kernel_rfl) h10
          have h14 := hI.before 14 13 rfl (by kernel_rfl) h13
          have c0 : w'.cell? ⟨m, 3, none⟩ = some (.map (some b)) := (hI.ph.cell h14 HM5.out.mk_.box).at_ 3
          clear h14 h13 h10
          have HI := Veil.mk hI
          clear hI
          rw [ha]
          simp only [puts, setAll, List.setIfInBounds_toArray, List.set_cons_zero, List.set_cons_succ]
          go_simp
          exact hK _ _ (chain_step HI.out hus hbs 8 _ (by show 8 < 15; decide) rfl hbp (val_of rfl rfl) (HI.out.ph.step 8 _ (by decide) (by decide) (by decide) (by decide)) (by simp only [puts, setAll, List.set_cons_zero, List.set_cons_succ, List.setIfInBounds_toArray]))
        refine Steps.cons rfl (fun bb aa w' hbs hb0 hbp hI K hK => ?_) ?_
        · obtain ⟨us, hus, ha, hI⟩ := hI
          obtain ⟨u0, u1, u2, u3, u4, u5, u6, u7, u8, u9, u10, u11, u12, u13, u14, rfl⟩ := len15 hus
          have HI := Veil.mk hI
          clear hI
          rw [ha]
          simp only [puts, setAll, List.setIfInBounds_toArray, List.set_cons_zero, List.set_cons_succ]
          go_simp
          exact hK _ _ (chain_step HI.out hus hbs 9 _ (by show 9 < 15; decide) rfl hbp (val_of rfl rfl) (HI.out.ph.step 9 _ (by decide) (by decide) (by decide) (by decide)) (by simp only [puts, setAll, List.set_cons_zero, List.set_cons_succ, List.setIfInBounds_toArray]))
        refine Steps.cons rfl (fun bb aa w' hbs hb0 hbp hI K hK => ?_) ?_
        · obtain ⟨us, hus, ha, hI⟩ := hI
          obtain ⟨u0, u1, u2, u3, u4, u5, u6, u7, u8, u9, u10, u11, u12, u13, u14, rfl⟩ := len15 hus
          have e8 : u8 = .map (some b) := hI.val 8 _ rfl (gen_after 8 (by kernel_rfl) hbp)
          subst e8
          have e9 : u9 = .int .i64 key := hI.val 9 _ rfl (gen_after 9 (by kernel_rfl) hbp)
          subst e9
          have h13 := hI.before 13 10 rfl (by kernel_rfl) hb0
          have h14 := hI.before 14 13 rfl (by kernel_rfl) h13
          obtain ⟨uu, zs, hrun, hfd⟩ := found_at (hI.ph.early h14 h13).1 HGR.out.1 HGR.out.2 hc HKY.out
          have HF := Veil.mk (And.intro h14 (And.intro h13 hfd))
          clear h14 h13 hfd
          have HI := Veil.mk hI
          clear hI
          rw [ha]
          simp only [puts, setAll, List.setIfInBounds_toArray, List.set_cons_zero, List.set_cons_succ]
          go_simp
          exact hK _ _ (chain_step HI.out hus hbs 10 _ (by show 10 < 15; decide) rfl hbp (none_of rfl) (HI.out.ph.look HF.out.1 HF.out.2.1 uu zs HF.out.2.2) (by simp only [puts, setAll, List.set_cons_zero, List.set_cons_succ, List.setIfInBounds_toArray]))
        refine Steps.cons rfl (fun bb aa w' hbs hb0 hbp hI K hK => ?_) ?_
        · obtain ⟨us, hus, ha, hI⟩ := hI
          obtain ⟨u0, u1, u2, u3, u4, u5, u6, u7, u8, u9, u10, u11, u12, u13, u14, rfl⟩ := len15 hus
          have HI := Veil.mk hI
          clear hI
          rw [ha]
          simp only [puts, setAll, List.setIfInBounds_toArray, List.set_cons_zero, List.set_cons_succ]
          go_simp
          exact hK _ _ (chain_step HI.out hus hbs 11 _ (by show 11 < 15; decide) rfl hbp (val_of rfl rfl) (HI.out.ph.step 11 _ (by decide) (by decide) (by decide) (by decide)) (by simp only [puts, setAll, List.set_cons_zero, List.set_cons_succ, List.setIfInBounds_toArray]))
        refine Steps.cons rfl (fun bb aa w' hbs hb0 hbp hI K hK => ?_) ?_
        · obtain ⟨us, hus, ha, hI⟩ := hI
          obtain ⟨u0, u1, u2, u3, u4, u5, u6, u7, u8, u9, u10, u11, u12, u13, u14, rfl⟩ := len15 hus
          have e11 : u11 = .int .i64 val := hI.val 11 _ rfl (gen_after 11 (by kernel_rfl) hbp)
          subst e11
          have h13 := hI.before 13 12 rfl (by kernel_rfl) hb0
          have h14 := hI.before 14 13 rfl (by kernel_rfl) h13
          have HF := Veil.mk (And.intro h14 h13)
          clear h14 h13
          have HI := Veil.mk hI
          clear hI
          rw [ha]
          simp only [puts, setAll, List.setIfInBounds_toArray, List.set_cons_zero, List.set_cons_succ]
          go_simp
          exact hK _ _ (chain_step HI.out hus hbs 12 _ (by show 12 < 15; decide) rfl hbp (none_of rfl) (HI.out.ph.row HF.out.1 HF.out.2) (by simp only [puts, setAll, List.set_cons_zero, List.set_cons_succ, List.setIfInBounds_toArray]))
        refine Steps.cons rfl (fun bb aa w' hbs hb0 hbp hI K hK => ?_) ?_
        · obtain ⟨us, hus, ha, hI⟩ := hI
          obtain ⟨u0, u1, u2, u3, u4, u5, u6, u7, u8, u9, u10, u11, u12, u13, u14, rfl⟩ := len15 hus
          have h14 := hI.before 14 13 rfl (by kernel_rfl) hb0
          obtain ⟨q1, q2, q3⟩ := hI.ph.early h14 hb0
          obtain ⟨w0, zs, hfd, hbw⟩ := q2 (gen_after 10 (by kernel_rfl) hbp)
          obtain ⟨x, e12, hbx⟩ := q3 (gen_after 12 (by kernel_rfl) hbp)
          have e12 : u12 = .slice (some ⟨x, 0, none⟩) 1 1 := e12
          subst e12
          have hfd : Found W5 b c D key tv u10 w0 zs := hfd
          have hR2 := own_below hfd.own.1 hbw
          have hzl := hfd.len
          have hsz := hbw.size
          have hsz1 := hfd.bel.size
          have hbsz := HGR.out.1.blk
          obtain ⟨es0, clk0, hb9⟩ := hbsz
          have hb10 := (Array.getElem?_eq_some_iff.1 hb9).1
          have HI := Veil.mk hI
          have HF := Veil.mk (And.intro h14 (And.intro hfd (grownBy_of_below hbw u10.ownBlock)))
          have HOI := Veil.mk hfd.own
          clear hI h14 q1 q2 q3 hfd hbw hb9
          rw [ha]
          simp only [puts, setAll, List.setIfInBounds_toArray, List.set_cons_zero, List.set_cons_succ]
          clear ha
          refine wp_append_lies _ (.tmp 32) (.tmp 34) 22 rfl (b + 1) 3 i0 (.int .i64 0) 1 8 Try.underlying22 hi hz0 hz1 hz2 rfl (by decide) u10 zs.length _ (by simp [Act.eval]) hR2 ⟨x, 0, none⟩ 1 1 [.int .i64 val] (by simp [Act.eval]) rfl (fun j u hj => World.news_of_block hbx j u hj) (by simp [Value.oneCell']) (by decide) (by unfold maxLen; omega) (by omega) (by omega) _ rfl ?_; intro r cap' w3 hown' hgrow3 hblk hg3
          have hap := HOI.out.appended hown' HV.out
          have hlc : (Value.slice (some ⟨r, 0, none⟩) (zs.length + 1) cap').ownBlock = u10.ownBlock ∨ ∃ g, (Value.slice (some ⟨r, 0, none⟩) (zs.length + 1) cap').ownBlock = some g ∧ w0.heap.size ≤ g := hblk.imp (fun h => h.symm) (fun h => ⟨r, rfl, by omega⟩)
          exact hK _ _ (chain_step HI.out hus hbs 13 _ (by show 13 < 15; decide) rfl hbp (none_of rfl) (PairPh.app HF.out.1 HF.out.2.1 (HF.out.2.2.trans hgrow3) hap hlc) (by simp only [Act.put, puts, setAll, List.set_cons_zero, List.set_cons_succ, List.setIfInBounds_toArray]))
        refine Steps.cons rfl (fun bb aa w' hbs hb0 hbp hI K hK => ?_) ?_
        · obtain ⟨us, hus, ha, hI⟩ := hI
          obtain ⟨u0, u1, u2, u3, u4, u5, u6, u7, u8, u9, u10, u11, u12, u13, u14, rfl⟩ := len15 hus
          have e3 : u3 = .map (some b) := hI.val 3 _ rfl (gen_after 3 (by kernel_rfl) hbp)
          subst e3
          have e4 : u4 = .int .i64 key := hI.val 4 _ rfl (gen_after 4 (by kernel_rfl) hbp)
          subst e4
          obtain ⟨w0, uu, zs, hfd, hgr, hoi, hlo⟩ := hI.ph.at_ap hb0 (gen_after 13 (by kernel_rfl) hbp)
          have hoi : w'.ownsInts (b + 1) 3 .i64 u13 (zs ++ [val]) := hoi
          have hlo : u13.ownBlock = uu.ownBlock ∨ ∃ g, u13.ownBlock = some g ∧ w0.heap.size ≤ g := hlo
          obtain ⟨w2, hrun, hend⟩ := pair_stored HKY.out HGR.out.1 HGR.out.2 HTV.out hc hfd hgr hoi hlo
          have HE := Veil.mk hend
          clear hfd hgr hoi hlo hend
          have HI := Veil.mk hI
          clear hI
          rw [ha]
          simp only [puts, setAll, List.setIfInBounds_toArray, List.set_cons_zero, List.set_cons_succ]
          go_simp
          exact hK _ _ (chain_step HI.out hus hbs 14 undef (by show 14 < 15; decide) rfl hbp (none_of rfl) (PairPh.sto HE.out) (by simp only [puts, setAll, List.set_cons_zero, List.set_cons_succ, List.setIfInBounds_toArray]))
        exact Steps.nil
      · intro us w9 hus dd hD2 hJ
        obtain ⟨y0, y1, y2, y3, y4, y5, y6, y7, y8, y9, y10, y11, y12, y13, y14, rfl⟩ := len15 hus
        have hE := hJ.ph.at_end (hD2 14 (by show 14 < 15; decide))
        have HP := Veil.mk (pair_post HDD.out T5.out.1 T5.out.2.1 T5.out.2.2 HM5.out hE)
        clear hJ hD2 hE
        simp only [puts, setAll, List.set_cons_zero, List.set_cons_succ, List.setIfInBounds_toArray]
        go_wp2
        exact bodyPost_end (results_none rfl _ _ _) rfl HP.out
end Go.Proofs.Ytkkbfadfgdjkdaa
