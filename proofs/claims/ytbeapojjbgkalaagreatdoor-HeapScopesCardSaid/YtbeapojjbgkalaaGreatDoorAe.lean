/- A range over a function that only reads and makes memory, whatever kind of function value it is; the loop's body may write any cells but those that are read. -/
import Derived.Test.YtbeapojjbgkalaaGreatDoorAd
import Derived.Test.YtbeapojjbgkalaaGreatDoorGa
namespace Go.Proofs.YtbeapojjbgkalaaGreatDoor
open Go Go.RowKit

section
variable {α : Type} {P : Program} {n : Nat}
/-- Some loop's record. -/
def IsLoop (B : Nat) (A : World) (k : Nat) : Prop := B ≤ k ∧ ∃ o, A.heap[k]? = some (.loop o)
/-- Cells that are none of F's. -/
def CelO (A : World) (k : Nat) : Prop := ∃ o, A.heap[k]? = some o ∧ (∀ l, o ≠ .loop l) ∧ ∀ x, o ≠ .deferred x
theorem CelO.lab {A : World} {k : Nat} {e : TypeId} (h : Lab A k e) : CelO A k := by
  obtain ⟨cs, fr, h⟩ := h
  exact ⟨_, h, (fun _ h => by cases h), (fun _ h => by cases h)⟩
theorem CelO.map {A : World} {k : Nat} {es : Array MapEntry} {c : Nat} (h : A.heap[k]? = some (.map es c)) : CelO A k := ⟨_, h, (fun _ h => by cases h), (fun _ h => by cases h)⟩
def Cel (F : Nat → Prop) (A : World) (k : Nat) : Prop := ¬ F k ∧ CelO A k
/-- What a function to be ranged over promises, that writes nothing but new memory: rounds don't write blocks of F. -/
def ReadStops (n : Nat) (P : Program) (gf : Nat) (la lb : Array Value) (encs : α → Array Value) (F : Nat → Prop) (S Sp : List α → Prop) (W : World) : Prop :=
  ∀ (l : Nat) (J Jx : List α → World → Prop), (∀ s A B, J s A → Below A.heap.size A B → J s B) → (∀ s A B, Jx s A → Below A.heap.size A B → Jx s B) →
    (∀ pre x W1, J pre W1 → Sp (pre ++ [x]) → YieldAt Fence.wide (n - 1) P l (encs x) W1 fun e W' =>
      (e = .returned (.bool true) ∧ J (pre ++ [x]) W' ∧ Touch (fun k => ¬ F k) W1 W') ∨ (e = .returned (.bool false) ∧ Jx (pre ++ [x]) W')) →
    J [] W →
    CallsIn Fence.wide n P gf (la ++ #[.func (.yield l) #[] #[]] ++ lb) W fun e W' => (∃ v, e = .returned v) ∧ ((∃ xs, S xs ∧ J xs W') ∨ (∃ pre, Sp pre ∧ Jx pre W'))
/-- How the body of a round is left. -/
def readPost (F : Nat → Prop) (I : List α → World → Prop) (Ix : Code → List α → World → Prop) (xs : List α) (W : World) : Exit → Act → World → Prop
  | .normal, _, W' => Touch (Cel F W) W W' ∧ I xs W'
  | .ret, _, W' => Touch (Cel F W) W W' ∧ Ix .ret xs W'
  | .exit id, _, W' => Touch (Cel F W) W W' ∧ Ix (.exit id) xs W'
  | .goto t, _, W' => Touch (Cel F W) W W' ∧ Ix (.goto t) xs W'
  | .panic _, _, _ => False
  | .outgrown, _, _ => False
theorem touch_put {B : Nat} {A : World} {l : Nat} {o : Loop} (hB : B ≤ l) (h : A.heap[l]? = some (.loop o)) (o' : Obj) : Touch (IsLoop B A) A (A.putObj l o') := Touch.putObj ⟨hB, o, h⟩ o'
theorem wpIn_rangeFunc_read {g : Operand} {ps : Array Tmp} {assign body : Code} {Q : Exit → Act → World → Prop} {a : Act} {w : World} (h1 : 1 ≤ n) {gf : Nat} {la lb : Array Value} {tgt : Target} {dargs : Nat → Array Value} (hres : ∀ l W, (resolve a.eval (rangeCall g l) 0).run P W = .ok { target := tgt, args := dargs l } W) (hinv : ∀ l W, (invoke tgt (dargs l)).run P W = .ok (.enter gf (la ++ #[.func (.yield l) #[] #[]] ++ lb)) W)
    {encs : α → Array Value} {F : Nat → Prop} {S Sp : List α → Prop} (hF : ∀ k, F k → k < w.heap.size)
    (hseq : ∀ W, Below w.heap.size w W → ReadStops (n - 1) P gf la lb encs F S Sp W) (hps : ∀ x, (encs x).size = ps.size)
    (I : List α → World → Prop) (Ix : Code → List α → World → Prop) (hI : ∀ s A B, I s A → Touch (IsLoop w.heap.size A) A B → I s B) (hIx : ∀ c s A B, Ix c s A → Touch (IsLoop w.heap.size A) A B → Ix c s B) (h0 : I [] w)
    (Ax : Act → α → Act → World → Prop) (hAx : ∀ x a' A B, Ax a x a' A → Touch (IsLoop w.heap.size A) A B → Ax a x a' B)
    (hassign : ∀ (l : Nat) (pre : List α) (x : α) (W : World) (K : Act → World → Prop), I pre W → (∀ a' W', Touch (fun _ => False) W W' → I pre W' → Ax a x a' W' → K a' W') →
      assign.wpIn (Fence.wide.inRound l) (n - 1 - 1) P (Exit.then K (fun _ _ _ => False)) { tmps := (ps.zip (encs x)).foldl (fun t (p, v) => t.setIfInBounds p v) a.tmps, defers := [] } W)
    (hbody : ∀ (l : Nat) (pre : List α) (x : α) (a' : Act) (W : World), I pre W → Ax a x a' W → Sp (pre ++ [x]) → body.wpIn (Fence.wide.inRound l) (n - 1 - 1) P (readPost F I Ix (pre ++ [x]) W) a' W)
    (hdone : ∀ (D : Nat) (xs : List α) (W : World), w.heap.size ≤ D → S xs → I xs W → W.heap[D]? = some (.deferred (some [])) → Q .normal { a with defers := { target := .collected D, args := #[] } :: a.defers } W)
    (hstop : ∀ (D : Nat) (c : Code) (pre : List α) (W : World), w.heap.size ≤ D → Sp pre → Ix c pre W → W.heap[D]? = some (.deferred (some [])) → c.wpIn Fence.wide n P Q { a with defers := { target := .collected D, args := #[] } :: a.defers } W) :
    (Code.rangeFunc g ps assign body).wpIn Fence.wide n P Q a w := by
  refine wpIn_rangeFunc (fun fn hfn => ?_)
  obtain ⟨R, hR⟩ : ∃ R : LoopState → Option Code → Loop, R = fun st pe => { state := st, pending := pe, fn, tmps := a.tmps, params := ps, assign, body, defers := w.heap.size } := ⟨_, rfl⟩
  obtain ⟨L, hL⟩ : ∃ L, w.heap.size + 1 = L := ⟨_, rfl⟩
  obtain ⟨V, hV⟩ : ∃ V, (w.alloc (.deferred (some []))).alloc (.loop (R .ready none)) = V := ⟨_, rfl⟩
  have bV : Below w.heap.size w V := by
    rw [← hV]
    exact ((Below.refl _ w).alloc (Nat.le_refl _) _).alloc (by simp) _
  have vL : V.heap[L]? = some (.loop (R .ready none)) := by
    rw [← hV, ← hL]
    have := World.alloc_heap_new (w.alloc (.deferred (some []))) (.loop (R .ready none))
    rwa [World.size_alloc] at this
  have vD : V.heap[w.heap.size]? = some (.deferred (some [])) := by
    rw [← hV]
    exact (Below.heap_alloc _ _ _ (by simp)).trans (World.alloc_heap_new w _)
  have i1 : I [] V := hI _ _ _ h0 (Touch.of_below bV)
  have two : ∀ (S' : Nat → Prop) (A B : World) (o o2 : Obj), Touch S' A B → ¬ S' L → ¬ S' w.heap.size → A.heap[L]? = some o → A.heap[w.heap.size]? = some o2 → B.heap[L]? = some o ∧ B.heap[w.heap.size]? = some o2 := fun S' A B o o2 ht n1 n2 a1 a2 =>
    ⟨(ht.block L (Array.getElem?_eq_some_iff.1 a1).1 n1).trans a1, (ht.block _ (Array.getElem?_eq_some_iff.1 a2).1 n2).trans a2⟩
  have nF : ∀ k, w.heap.size ≤ k → ¬ F k := fun k hk hf => by have := hF k hf; omega
  have noC : ∀ (A : World) (k : Nat) (o : Loop), A.heap[k]? = some (.loop o) → ¬ Cel F A k := fun A k o h hc => by
    obtain ⟨_, o', h2, n1, n2⟩ := hc
    rw [h] at h2
    cases h2
    exact n1 _ rfl
  have noD : ∀ (A : World) (k : Nat) (x : Option (List Deferred)), A.heap[k]? = some (.deferred x) → ¬ Cel F A k := fun A k o h hc => by
    obtain ⟨_, o', h2, n1, n2⟩ := hc
    rw [h] at h2
    cases h2
    exact n2 _ rfl
  refine ⟨L, [{ target := .collected w.heap.size, args := #[] }], V, { target := tgt, args := dargs L }, V, gf, la ++ #[.func (.yield L) #[] #[]] ++ lb, V, ?_, hres L V, fun f' _ => trivial, hinv L V, fun _ => h1, ?_⟩
  · rw [← hV, hR, ← hL]
    exact run_enterLoop_outer _ _ _ _ _
  refine (hseq V bV L (fun pre W => I pre W ∧ W.heap[L]? = some (.loop (R .ready none)) ∧ W.heap[w.heap.size]? = some (.deferred (some []))) (fun pre W => ∃ c, Ix c pre W ∧ W.heap[L]? = some (.loop (R .done (some c))) ∧ W.heap[w.heap.size]? = some (.deferred (some [])))
    ?_ ?_ ?_ ⟨i1, vL, vD⟩).mono ?_
  · rintro s A B ⟨a1, a2, a3⟩ hb
    obtain ⟨b1, b2⟩ := two (fun _ => False) A B _ _ (Touch.of_below hb) (fun h => h) (fun h => h) a2 a3
    exact ⟨hI _ _ _ a1 (Touch.of_below hb), b1, b2⟩
  · rintro s A B ⟨c, a1, a2, a3⟩ hb
    obtain ⟨b1, b2⟩ := two (fun _ => False) A B _ _ (Touch.of_below hb) (fun h => h) (fun h => h) a2 a3
    exact ⟨c, hIx _ _ _ _ a1 (Touch.of_below hb), b1, b2⟩
  · rintro pre x W ⟨a1, a2, a3⟩ hlen
    have hy := run_yield (P := P) (args := encs x) a2 (by rw [hR]; exact hps x)
    rw [hR] at hy
    refine ⟨fn, _, assign, body, hy, roundIn_of_wpIn hfn (hassign _ pre x W _ a1 ?_)⟩
    clear hy
    intro a' Wa ta ia xa
    obtain ⟨b2, b3⟩ := two _ W Wa _ _ ta (fun h => h) (fun h => h) a2 a3
    refine ⟨_, run_beginRound b2 (by rw [hR]), ?_⟩
    obtain ⟨bz, hbz⟩ : ∃ o, o = Obj.loop { R .ready none with state := .busy } := ⟨_, rfl⟩
    rw [← hbz]
    have lt1 := (Array.getElem?_eq_some_iff.1 b2).1
    have c2 : (Wa.putObj L bz).heap[L]? = some bz := World.putObj_heap_same lt1
    have c3 : (Wa.putObj L bz).heap[w.heap.size]? = some (.deferred (some [])) := (World.putObj_heap_other (by omega)).trans b3
    refine wpIn_mono (hbody _ pre x a' _ (hI _ _ _ ia (touch_put (by omega) b2 bz)) (hAx _ _ _ _ xa (touch_put (by omega) b2 bz)) hlen) ?_
    have fin : ∀ (jump : Option Code) (W3 : World), Touch (Cel F (Wa.putObj L bz)) (Wa.putObj L bz) W3 → ∃ o, o = Obj.loop (R (if jump.isNone then .ready else .done) jump) ∧ (Instr.endRound L jump).run P W3 = .ok (.bool jump.isNone) (W3.putObj L o) ∧
        (W3.putObj L o).heap[L]? = some o ∧ (W3.putObj L o).heap[w.heap.size]? = some (.deferred (some [])) ∧ Touch (fun k => ¬ F k) W (W3.putObj L o) ∧ ∃ lo, W3.heap[L]? = some (.loop lo) := fun jump W3 t3 => by
      obtain ⟨d2, d3⟩ := two _ _ W3 _ _ t3 (noC _ L _ (c2.trans (congrArg some hbz))) (noD _ _ _ c3) c2 c3
      rw [hbz] at d2
      have hr := run_endRound (P := P) jump d2
      refine ⟨_, rfl, ?_, World.putObj_heap_same (Array.getElem?_eq_some_iff.1 d2).1, (World.putObj_heap_other (by omega)).trans d3, (ta.mono (fun _ h => h.elim)).trans ((Touch.putObj (nF L (by omega)) bz).trans ((t3.mono (fun _ h => h.1)).trans (Touch.putObj (nF L (by omega)) _))), _, d2⟩
      rw [hR] at hr ⊢
      exact hr
    rintro e a3' W3 hp
    cases e with
    | normal =>
      obtain ⟨t3, i3⟩ := hp
      obtain ⟨o, ho, hr, e2, e3, e4, lo, e5⟩ := fin none W3 t3
      exact ⟨_, _, hr, .inl ⟨rfl, ⟨hI _ _ _ i3 (touch_put (by omega) e5 o), by rw [e2, ho]; rfl, e3⟩, e4⟩⟩
    | ret =>
      obtain ⟨t3, i3⟩ := hp
      obtain ⟨o, ho, hr, e2, e3, e4, lo, e5⟩ := fin (some .ret) W3 t3
      exact ⟨_, _, hr, .inr ⟨rfl, .ret, hIx _ _ _ _ i3 (touch_put (by omega) e5 o), by rw [e2, ho]; rfl, e3⟩⟩
    | exit id =>
      obtain ⟨t3, i3⟩ := hp
      obtain ⟨o, ho, hr, e2, e3, e4, lo, e5⟩ := fin (some (.exit id)) W3 t3
      exact ⟨_, _, hr, .inr ⟨rfl, .exit id, hIx _ _ _ _ i3 (touch_put (by omega) e5 o), by rw [e2, ho]; rfl, e3⟩⟩
    | goto t =>
      obtain ⟨t3, i3⟩ := hp
      obtain ⟨o, ho, hr, e2, e3, e4, lo, e5⟩ := fin (some (.goto t)) W3 t3
      exact ⟨_, _, hr, .inr ⟨rfl, .goto t, hIx _ _ _ _ i3 (touch_put (by omega) e5 o), by rw [e2, ho]; rfl, e3⟩⟩
    | panic ch => exact hp.elim
    | outgrown => exact hp.elim
  · rintro e W2 ⟨⟨v, rfl⟩, hJ⟩
    rcases hJ with ⟨xs, hS, a1, a2, a3⟩ | ⟨pre, hSp, c, a1, a2, a3⟩
    · have hr := run_endLoop (P := P) a2 (by rw [hR]; simp)
      refine ⟨none, _, by rw [hr, hR], hdone _ xs _ (Nat.le_refl _) hS (hI _ _ _ a1 (touch_put (by omega) a2 _)) ((World.putObj_heap_other (by omega)).trans a3)⟩
    · have hr := run_endLoop (P := P) a2 (by rw [hR]; simp)
      refine ⟨some c, _, by rw [hr, hR], hstop _ c pre _ (Nat.le_refl _) hSp (hIx _ _ _ _ a1 (touch_put (by omega) a2 _)) ((World.putObj_heap_other (by omega)).trans a3)⟩
end
end Go.Proofs.YtbeapojjbgkalaaGreatDoor
