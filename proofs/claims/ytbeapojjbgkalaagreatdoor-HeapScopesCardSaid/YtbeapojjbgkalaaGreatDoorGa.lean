/- A range over a function that keeps state of its own in cells: what it writes is one set of blocks, what the loop's body writes another. -/
import Derived.Test.YtbeapojjbgkalaaGreatDoorAc
import Derived.RangeFuncNested
import Derived.RangeFuncBound
import Derived.RangeFuncCalls
import Derived.RangeFuncLeaves
import Derived.Shelf.Abstract
import Derived.Shelf.RegionOpen
import Derived.WalkKit
import Derived.OwnWalkIn
import Derived.TacticsInMore
import Derived.LoopNIn
import Derived.LoopIn
namespace Go.Proofs.YtbeapojjbgkalaaGreatDoor
open Go Go.RowKit

theorem Touch.putObj {S : Nat → Prop} {w : World} {l : Nat} (hl : S l) (o : Obj) : Touch S w (w.putObj l o) :=
  ⟨rfl, rfl, rfl, by simp, fun k _ hk => World.putObj_heap_other (fun e => hk (by rw [e]; exact hl))⟩
section
variable {α : Type} {P : Program} {n : Nat}
/-- J speaks of nothing that the function ranged over writes: blocks of F, and those from N on. -/
def AbT (F : Nat → Prop) (N : Nat) (J : List α → World → Prop) : Prop := ∀ s A B, J s A → Touch (fun k => F k ∨ N ≤ k) A B → J s B
/-- What a function to be ranged over promises, that writes blocks of F and new ones alone: rounds write other blocks. -/
def TabStops (n : Nat) (P : Program) (gf : Nat) (lb : Array Value) (encs : α → Array Value) (F G : Nat → Prop) (S Sp : List α → Prop) (Pt : World → Prop) (W : World) : Prop :=
  ∀ (l : Nat) (J Jx : List α → World → Prop), AbT F W.heap.size J → AbT F W.heap.size Jx →
    (∀ pre x W1, J pre W1 → Sp (pre ++ [x]) → YieldAt Fence.wide (n - 1) P l (encs x) W1 fun e W' =>
      (e = .returned (.bool true) ∧ J (pre ++ [x]) W' ∧ Touch (fun k => k < W.heap.size ∧ ¬ F k ∧ ¬ G k) W1 W') ∨ (e = .returned (.bool false) ∧ Jx (pre ++ [x]) W' ∧ Touch (fun k => k < W.heap.size ∧ ¬ F k ∧ ¬ G k) W1 W')) →
    J [] W →
    CallsIn Fence.wide n P gf (#[.func (.yield l) #[] #[]] ++ lb) W fun e W' => (∃ v, e = .returned v) ∧ Pt W' ∧ ((∃ xs, S xs ∧ J xs W') ∨ (∃ pre, Sp pre ∧ Jx pre W'))
/-- How the body of a round is left. -/
def tabPost (Bx : Nat → Prop) (I : List α → World → Prop) (Ix : Code → List α → World → Prop) (xs : List α) (W : World) : Exit → Act → World → Prop
  | .normal, _, W' => Touch Bx W W' ∧ I xs W'
  | .ret, _, W' => Touch Bx W W' ∧ Ix .ret xs W'
  | .exit id, _, W' => Touch Bx W W' ∧ Ix (.exit id) xs W'
  | .goto t, _, W' => Touch Bx W W' ∧ Ix (.goto t) xs W'
  | .panic _, _, _ => False
  | .outgrown, _, _ => False
theorem wpIn_rangeFunc_tab {g : Operand} {ps : Array Tmp} {assign body : Code} {Q : Exit → Act → World → Prop} {a : Act} {w : World} (h1 : 1 ≤ n) {gf : Nat} {lb : Array Value} (hg : a.eval g = .func (.func gf) #[] lb) (eg : ∀ args w, (callFunc gf args).run P w = .ok (.enter gf args) w)
    {encs : α → Array Value} {F G : Nat → Prop} {S Sp : List α → Prop} {Pt : World → Prop} (hF : ∀ k, F k → k < w.heap.size)
    (hseq : ∀ W, Below w.heap.size w W → TabStops (n - 1) P gf lb encs F G S Sp Pt W) (hPt : ∀ A B l, w.heap.size ≤ l → Pt A → Touch (fun k => k = l) A B → (∃ o, A.heap[l]? = some (.loop o)) → Pt B) (hps : ∀ x, (encs x).size = ps.size)
    (Bx : Nat → Prop) (hBx : ∀ k, Bx k → k < w.heap.size ∧ ¬ F k ∧ ¬ G k) (hG : ∀ k, G k → k < w.heap.size)
    (I : List α → World → Prop) (Ix : Code → List α → World → Prop) (hI : ∀ s A B, I s A → Touch (fun k => F k ∨ w.heap.size ≤ k) A B → I s B) (hIx : ∀ c s A B, Ix c s A → Touch (fun k => F k ∨ w.heap.size ≤ k) A B → Ix c s B) (h0 : I [] w)
    (Ax : Act → α → Act → World → Prop) (hAx : ∀ x a' A B l, Ax a x a' A → Touch (fun k => k = l) A B → (∃ o, A.heap[l]? = some (.loop o)) → Ax a x a' B)
    (hassign : ∀ (l : Nat) (pre : List α) (x : α) (W : World) (K : Act → World → Prop), I pre W → (∀ a' W', Touch Bx W W' → I pre W' → Ax a x a' W' → K a' W') →
      assign.wpIn (Fence.wide.inRound l) (n - 1 - 1) P (Exit.then K (fun _ _ _ => False)) { tmps := (ps.zip (encs x)).foldl (fun t (p, v) => t.setIfInBounds p v) a.tmps, defers := [] } W)
    (hbody : ∀ (l : Nat) (pre : List α) (x : α) (a' : Act) (W : World), I pre W → Ax a x a' W → Sp (pre ++ [x]) → body.wpIn (Fence.wide.inRound l) (n - 1 - 1) P (tabPost Bx I Ix (pre ++ [x]) W) a' W)
    (hdone : ∀ (D : Nat) (xs : List α) (W : World), w.heap.size ≤ D → S xs → I xs W → Pt W → W.heap[D]? = some (.deferred (some [])) → Q .normal { a with defers := { target := .collected D, args := #[] } :: a.defers } W)
    (hstop : ∀ (D : Nat) (c : Code) (pre : List α) (W : World), w.heap.size ≤ D → Sp pre → Ix c pre W → Pt W → W.heap[D]? = some (.deferred (some [])) → c.wpIn Fence.wide n P Q { a with defers := { target := .collected D, args := #[] } :: a.defers } W) :
    (Code.rangeFunc g ps assign body).wpIn Fence.wide n P Q a w := by
  refine wpIn_rangeFunc (fun fn hfn => ?_)
  obtain ⟨R, hR⟩ : ∃ R : LoopState → Option Code → Loop, R = fun st pe => { state := st, pending := pe, fn, tmps := a.tmps, params := ps, assign, body, defers := w.heap.size } := ⟨_, rfl⟩
  obtain ⟨L, hL⟩ : ∃ L, w.heap.size + 1 = L := ⟨_, rfl⟩
  obtain ⟨V, hV⟩ : ∃ V, (w.alloc (.deferred (some []))).alloc (.loop (R .ready none)) = V := ⟨_, rfl⟩
  have bV : Below w.heap.size w V := by
    rw [← hV]
    exact ((Below.refl _ w).alloc (Nat.le_refl _) _).alloc (by simp) _
  have sV : V.heap.size = L + 1 := by rw [← hV, ← hL]; simp
  have vL : V.heap[L]? = some (.loop (R .ready none)) := by
    rw [← hV, ← hL]
    have := World.alloc_heap_new (w.alloc (.deferred (some []))) (.loop (R .ready none))
    rwa [World.size_alloc] at this
  have vD : V.heap[w.heap.size]? = some (.deferred (some [])) := by
    rw [← hV]
    exact (Below.heap_alloc _ _ _ (by simp)).trans (World.alloc_heap_new w _)
  have i1 : I [] V := hI _ _ _ h0 (Touch.of_below bV)
  -- what the two blocks of the loop are
  have nF : ∀ k, w.heap.size ≤ k → ¬ F k := fun k hk hf => by have := hF k hf; omega
  have nG : ∀ k, w.heap.size ≤ k → ¬ G k := fun k hk hf => by have := hG k hf; omega
  have two : ∀ (S' : Nat → Prop) (A B : World) (o o2 : Obj), Touch S' A B → ¬ S' L → ¬ S' w.heap.size → A.heap[L]? = some o → A.heap[w.heap.size]? = some o2 → B.heap[L]? = some o ∧ B.heap[w.heap.size]? = some o2 := fun S' A B o o2 ht n1 n2 a1 a2 =>
    ⟨(ht.block L (Array.getElem?_eq_some_iff.1 a1).1 n1).trans a1, (ht.block _ (Array.getElem?_eq_some_iff.1 a2).1 n2).trans a2⟩
  have far : ∀ k, w.heap.size ≤ k → k < V.heap.size → ¬ (F k ∨ V.heap.size ≤ k) := fun k h2 h3 h4 => by
    rcases h4 with h4 | h4
    · exact nF k h2 h4
    · omega
  have nB : ∀ k, w.heap.size ≤ k → ¬ Bx k := fun k hk hb => by have := (hBx k hb).1; omega
  have tput : ∀ (A : World) (o : Obj), Touch (fun k => F k ∨ w.heap.size ≤ k) A (A.putObj L o) := fun A o => Touch.putObj (.inr (by omega)) o
  have tpu : ∀ (A : World) (o : Obj), Touch (fun k => k < V.heap.size ∧ ¬ F k ∧ ¬ G k) A (A.putObj L o) := fun A o => Touch.putObj ⟨by omega, nF L (by omega), nG L (by omega)⟩ o
  have tBx : ∀ (A B : World), Touch Bx A B → Touch (fun k => k < V.heap.size ∧ ¬ F k ∧ ¬ G k) A B := fun A B h => h.mono (fun k hk => ⟨by have := (hBx k hk).1; omega, (hBx k hk).2⟩)
  refine ⟨L, [{ target := .collected w.heap.size, args := #[] }], V, { target := .fn (.func gf) lb, args := #[.func (.yield L) #[] #[]] }, V, gf, #[.func (.yield L) #[] #[]] ++ lb, V, ?_, ?_, ?_, ?_, fun _ => h1, ?_⟩
  · rw [← hV, hR, ← hL]
    exact run_enterLoop_outer _ _ _ _ _
  · simp only [resolve, hg]
    simp [go_sem]
  · intro f' _
    trivial
  · simp [invoke, go_sem, eg]
  refine (hseq V bV L (fun pre W => I pre W ∧ W.heap[L]? = some (.loop (R .ready none)) ∧ W.heap[w.heap.size]? = some (.deferred (some []))) (fun pre W => ∃ c, Ix c pre W ∧ W.heap[L]? = some (.loop (R .done (some c))) ∧ W.heap[w.heap.size]? = some (.deferred (some [])))
    ?_ ?_ ?_ ⟨i1, vL, vD⟩).mono ?_
  · rintro s A B ⟨a1, a2, a3⟩ ht
    obtain ⟨b1, b2⟩ := two _ A B _ _ ht (far L (by omega) (by omega)) (far _ (Nat.le_refl _) (by omega)) a2 a3
    exact ⟨hI _ _ _ a1 (ht.mono (fun k hk => hk.imp id (fun h => by omega))), b1, b2⟩
  · rintro s A B ⟨c, a1, a2, a3⟩ ht
    obtain ⟨b1, b2⟩ := two _ A B _ _ ht (far L (by omega) (by omega)) (far _ (Nat.le_refl _) (by omega)) a2 a3
    exact ⟨c, hIx _ _ _ _ a1 (ht.mono (fun k hk => hk.imp id (fun h => by omega))), b1, b2⟩
  · rintro pre x W ⟨a1, a2, a3⟩ hlen
    have hy := run_yield (P := P) (args := encs x) a2 (by rw [hR]; exact hps x)
    rw [hR] at hy
    refine ⟨fn, _, assign, body, hy, roundIn_of_wpIn hfn (hassign _ pre x W _ a1 ?_)⟩
    clear hy
    intro a' Wa ta ia xa
    obtain ⟨b2, b3⟩ := two _ W Wa _ _ ta (nB L (by omega)) (nB _ (Nat.le_refl _)) a2 a3
    have lt1 := (Array.getElem?_eq_some_iff.1 b2).1
    refine ⟨_, run_beginRound b2 (by rw [hR]), ?_⟩
    obtain ⟨bz, hbz⟩ : ∃ o, o = Obj.loop { R .ready none with state := .busy } := ⟨_, rfl⟩
    rw [← hbz]
    have c2 : (Wa.putObj L bz).heap[L]? = some bz := World.putObj_heap_same lt1
    have c3 : (Wa.putObj L bz).heap[w.heap.size]? = some (.deferred (some [])) := (World.putObj_heap_other (by omega)).trans b3
    have tb := tpu Wa bz
    refine wpIn_mono (hbody _ pre x a' _ (hI _ _ _ ia (tput Wa bz)) (hAx _ _ _ _ L xa (Touch.putObj (S := fun k => k = L) rfl bz) ⟨_, b2⟩) hlen) ?_
    have fin : ∀ (jump : Option Code) (W3 : World), Touch Bx (Wa.putObj L bz) W3 → ∃ o, o = Obj.loop (R (if jump.isNone then .ready else .done) jump) ∧ (Instr.endRound L jump).run P W3 = .ok (.bool jump.isNone) (W3.putObj L o) ∧
        (W3.putObj L o).heap[L]? = some o ∧ (W3.putObj L o).heap[w.heap.size]? = some (.deferred (some [])) ∧ Touch (fun k => k < V.heap.size ∧ ¬ F k ∧ ¬ G k) W (W3.putObj L o) := fun jump W3 t3 => by
      obtain ⟨d2, d3⟩ := two _ _ W3 _ _ t3 (nB L (by omega)) (nB _ (Nat.le_refl _)) c2 c3
      rw [hbz] at d2
      have hr := run_endRound (P := P) jump d2
      refine ⟨_, rfl, ?_, World.putObj_heap_same (Array.getElem?_eq_some_iff.1 d2).1, (World.putObj_heap_other (by omega)).trans d3, ((((tBx _ _ ta).trans tb).trans (tBx _ _ t3)).trans (tpu W3 _))⟩
      rw [hR] at hr ⊢
      exact hr
    rintro e a3' W3 hp
    cases e with
    | normal =>
      obtain ⟨t3, i3⟩ := hp
      obtain ⟨o, ho, hr, e2, e3, e4⟩ := fin none W3 t3
      exact ⟨_, _, hr, .inl ⟨rfl, ⟨hI _ _ _ i3 (tput W3 o), by rw [e2, ho]; rfl, e3⟩, e4⟩⟩
    | ret =>
      obtain ⟨t3, i3⟩ := hp
      obtain ⟨o, ho, hr, e2, e3, e4⟩ := fin (some .ret) W3 t3
      exact ⟨_, _, hr, .inr ⟨rfl, ⟨.ret, hIx _ _ _ _ i3 (tput W3 o), by rw [e2, ho]; rfl, e3⟩, e4⟩⟩
    | exit id =>
      obtain ⟨t3, i3⟩ := hp
      obtain ⟨o, ho, hr, e2, e3, e4⟩ := fin (some (.exit id)) W3 t3
      exact ⟨_, _, hr, .inr ⟨rfl, ⟨.exit id, hIx _ _ _ _ i3 (tput W3 o), by rw [e2, ho]; rfl, e3⟩, e4⟩⟩
    | goto t =>
      obtain ⟨t3, i3⟩ := hp
      obtain ⟨o, ho, hr, e2, e3, e4⟩ := fin (some (.goto t)) W3 t3
      exact ⟨_, _, hr, .inr ⟨rfl, ⟨.goto t, hIx _ _ _ _ i3 (tput W3 o), by rw [e2, ho]; rfl, e3⟩, e4⟩⟩
    | panic ch => exact hp.elim
    | outgrown => exact hp.elim
  · rintro e W2 ⟨⟨v, rfl⟩, hpt, hJ⟩
    rcases hJ with ⟨xs, hS, a1, a2, a3⟩ | ⟨pre, hSp, c, a1, a2, a3⟩
    · have hr := run_endLoop (P := P) a2 (by rw [hR]; simp)
      refine ⟨none, _, by rw [hr, hR], hdone _ xs _ (Nat.le_refl _) hS (hI _ _ _ a1 (tput W2 _)) (hPt _ _ L (by omega) hpt (Touch.putObj (S := fun k => k = L) rfl _) ⟨_, a2⟩) ((World.putObj_heap_other (by omega)).trans a3)⟩
    · have hr := run_endLoop (P := P) a2 (by rw [hR]; simp)
      refine ⟨some c, _, by rw [hr, hR], hstop _ c pre _ (Nat.le_refl _) hSp (hIx _ _ _ _ a1 (tput W2 _)) (hPt _ _ L (by omega) hpt (Touch.putObj (S := fun k => k = L) rfl _) ⟨_, a2⟩) ((World.putObj_heap_other (by omega)).trans a3)⟩
end
end Go.Proofs.YtbeapojjbgkalaaGreatDoor
