/- Chains, the text of an error and what is shown of an error in a machine. -/
import Derived.Test.YtgdkjkfbknbgkaaGreatDoorAc
import Derived.RangeFuncNested
import Derived.RangeFuncBound
import Derived.RangeFuncCalls
import Derived.RangeFuncLeaves
import Derived.Shelf.Abstract
import Derived.Shelf.RegionOpen
import Derived.WalkKit
import Derived.OwnWalkIn
import Derived.TacticsInMore
import Derived.LoopNIn
import Derived.LoopIn
import Derived.Test.YtgdkjkfbknbgkaaGreatDoorHb
import Derived.Test.YtgdkjkfbknbgkaaGreatDoorHd
import Derived.Test.YtgdkjkfbknbgkaaGreatDoorVq
import Derived.Laws.StructEq
import Derived.Deep.AppendLies
import Derived.Deep.RegionLaw
namespace Go.Proofs.YtgdkjkfbknbgkaaGreatDoor
open Go Go.RowKit

theorem Touch.putObj {S : Nat → Prop} {w : World} {l : Nat} (hl : S l) (o : Obj) : Touch S w (w.putObj l o) :=
  ⟨rfl, rfl, rfl, by simp, fun k _ hk => World.putObj_heap_other (fun e => hk (by rw [e]; exact hl))⟩
section
variable {α : Type} {P : Program} {n : Nat}
/-- J speaks of nothing that the function ranged over writes: blocks of F, and those from N on. -/
def AbT (F : Nat → Prop) (N : Nat) (J : List α → World → Prop) : Prop := ∀ s A B, J s A → Touch (fun k => F k ∨ N ≤ k) A B → J s B
/-- What a function to be ranged over promises, that writes blocks of F and new ones alone: rounds write other blocks. -/
def TabStops (n : Nat) (P : Program) (gf : Nat) (lb : Array Value) (encs : α → Array Value) (F G : Nat → Prop) (S Sp : List α → Prop) (Pt : World → Prop) (W : World) : Prop :=
  ∀ (l : Nat) (J Jx : List α → World → Prop), AbT F W.heap.size J → AbT F W.heap.size Jx →
    (∀ pre x W1, J pre W1 → Sp (pre ++ [x]) → YieldAt Fence.wide (n - 1) P l (encs x) W1 fun e W' =>
      (e = .returned (.bool true) ∧ J (pre ++ [x]) W' ∧ Touch (fun k => k < W.heap.size ∧ ¬ F k ∧ ¬ G k) W1 W') ∨ (e = .returned (.bool false) ∧ Jx (pre ++ [x]) W' ∧ Touch (fun k => k < W.heap.size ∧ ¬ F k ∧ ¬ G k) W1 W')) →
    J [] W →
    CallsIn Fence.wide n P gf (#[.func (.yield l) #[] #[]] ++ lb) W fun e W' => (∃ v, e = .returned v) ∧ Pt W' ∧ ((∃ xs, S xs ∧ J xs W') ∨ (∃ pre, Sp pre ∧ Jx pre W'))
/-- How the body of a round is left. -/
def tabPost (Bx : Nat → Prop) (I : List α → World → Prop) (Ix : Code → List α → World → Prop) (xs : List α) (W : World) : Exit → Act → World → Prop
  | .normal, _, W' => Touch Bx W W' ∧ I xs W'
  | .ret, _, W' => Touch Bx W W' ∧ Ix .ret xs W'
  | .exit id, _, W' => Touch Bx W W' ∧ Ix (.exit id) xs W'
  | .goto t, _, W' => Touch Bx W W' ∧ Ix (.goto t) xs W'
  | .panic _, _, _ => False
  | .outgrown, _, _ => False
theorem wpIn_rangeFunc_tab {g : Operand} {ps : Array Tmp} {assign body : Code} {Q : Exit → Act → World → Prop} {a : Act} {w : World} (h1 : 1 ≤ n) {gf : Nat} {lb : Array Value} (hg : a.eval g = .func (.func gf) #[] lb) (eg : ∀ args w, (callFunc gf args).run P w = .ok (.enter gf args) w)
    {encs : α → Array Value} {F G : Nat → Prop} {S Sp : List α → Prop} {Pt : World → Prop} (hF : ∀ k, F k → k < w.heap.size)
    (hseq : ∀ W, Below w.heap.size w W → TabStops (n - 1) P gf lb encs F G S Sp Pt W) (hPt : ∀ A B l, w.heap.size ≤ l → Pt A → Touch (fun k => k = l) A B → (∃ o, A.heap[l]? = some (.loop o)) → Pt B) (hps : ∀ x, (encs x).size = ps.size)
    (Bx : Nat → Prop) (hBx : ∀ k, Bx k → k < w.heap.size ∧ ¬ F k ∧ ¬ G k) (hG : ∀ k, G k → k < w.heap.size)
    (I : List α → World → Prop) (Ix : Code → List α → World → Prop) (hI : ∀ s A B, I s A → Touch (fun k => F k ∨ w.heap.size ≤ k) A B → I s B) (hIx : ∀ c s A B, Ix c s A → Touch (fun k => F k ∨ w.heap.size ≤ k) A B → Ix c s B) (h0 : I [] w)
    (Ax : Act → α → Act → World → Prop) (hAx : ∀ x a' A B l, Ax a x a' A → Touch (fun k => k = l) A B → (∃ o, A.heap[l]? = some (.loop o)) → Ax a x a' B)
    (hassign : ∀ (l : Nat) (pre : List α) (x : α) (W : World) (K : Act → World → Prop), I pre W → (∀ a' W', Touch Bx W W' → I pre W' → Ax a x a' W' → K a' W') →
      assign.wpIn (Fence.wide.inRound l) (n - 1 - 1) P (Exit.then K (fun _ _ _ => False)) { tmps := (ps.zip (encs x)).foldl (fun t (p, v) => t.setIfInBounds p v) a.tmps, defers := [] } W)
    (hbody : ∀ (l : Nat) (pre : List α) (x : α) (a' : Act) (W : World), I pre W → Ax a x a' W → Sp (pre ++ [x]) → body.wpIn (Fence.wide.inRound l) (n - 1 - 1) P (tabPost Bx I Ix (pre ++ [x]) W) a' W)
    (hdone : ∀ (D : Nat) (xs : List α) (W : World), w.heap.size ≤ D → S xs → I xs W → Pt W → W.heap[D]? = some (.deferred (some [])) → Q .normal { a with defers := { target := .collected D, args := #[] } :: a.defers } W)
    (hstop : ∀ (D : Nat) (c : Code) (pre : List α) (W : World), w.heap.size ≤ D → Sp pre → Ix c pre W → Pt W → W.heap[D]? = some (.deferred (some [])) → c.wpIn Fence.wide n P Q { a with defers := { target := .collected D, args := #[] } :: a.defers } W) :
    (Code.rangeFunc g ps assign body).wpIn Fence.wide n P Q a w := by
  refine wpIn_rangeFunc (fun fn hfn => ?_)
  obtain ⟨R, hR⟩ : ∃ R : LoopState → Option Code → Loop, R = fun st pe => { state := st, pending := pe, fn, tmps := a.tmps, params := ps, assign, body, defers := w.heap.size } := ⟨_, rfl⟩
  obtain ⟨L, hL⟩ : ∃ L, w.heap.size + 1 = L := ⟨_, rfl⟩
  obtain ⟨V, hV⟩ : ∃ V, (w.alloc (.deferred (some []))).alloc (.loop (R .ready none)) = V := ⟨_, rfl⟩
  have bV : Below w.heap.size w V := by
    rw [← hV]
    exact ((Below.refl _ w).alloc (Nat.le_refl _) _).alloc (by simp) _
  have sV : V.heap.size = L + 1 := by rw [← hV, ← hL]; simp
  have vL : V.heap[L]? = some (.loop (R .ready none)) := by
    rw [← hV, ← hL]
    have := World.alloc_heap_new (w.alloc (.deferred (some []))) (.loop (R .ready none))
    rwa [World.size_alloc] at this
  have vD : V.heap[w.heap.size]? = some (.deferred (some [])) := by
    rw [← hV]
    exact (Below.heap_alloc _ _ _ (by simp)).trans (World.alloc_heap_new w _)
  have i1 : I [] V := hI _ _ _ h0 (Touch.of_below bV)
  -- what the two blocks of the loop are
  have nF : ∀ k, w.heap.size ≤ k → ¬ F k := fun k hk hf => by have := hF k hf; omega
  have nG : ∀ k, w.heap.size ≤ k → ¬ G k := fun k hk hf => by have := hG k hf; omega
  have two : ∀ (S' : Nat → Prop) (A B : World) (o o2 : Obj), Touch S' A B → ¬ S' L → ¬ S' w.heap.size → A.heap[L]? = some o → A.heap[w.heap.size]? = some o2 → B.heap[L]? = some o ∧ B.heap[w.heap.size]? = some o2 := fun S' A B o o2 ht n1 n2 a1 a2 =>
    ⟨(ht.block L (Array.getElem?_eq_some_iff.1 a1).1 n1).trans a1, (ht.block _ (Array.getElem?_eq_some_iff.1 a2).1 n2).trans a2⟩
  have far : ∀ k, w.heap.size ≤ k → k < V.heap.size → ¬ (F k ∨ V.heap.size ≤ k) := fun k h2 h3 h4 => by
    rcases h4 with h4 | h4
    · exact nF k h2 h4
    · omega
  have nB : ∀ k, w.heap.size ≤ k → ¬ Bx k := fun k hk hb => by have := (hBx k hb).1; omega
  have tput : ∀ (A : World) (o : Obj), Touch (fun k => F k ∨ w.heap.size ≤ k) A (A.putObj L o) := fun A o => Touch.putObj (.inr (by omega)) o
  have tpu : ∀ (A : World) (o : Obj), Touch (fun k => k < V.heap.size ∧ ¬ F k ∧ ¬ G k) A (A.putObj L o) := fun A o => Touch.putObj ⟨by omega, nF L (by omega), nG L (by omega)⟩ o
  have tBx : ∀ (A B : World), Touch Bx A B → Touch (fun k => k < V.heap.size ∧ ¬ F k ∧ ¬ G k) A B := fun A B h => h.mono (fun k hk => ⟨by have := (hBx k hk).1; omega, (hBx k hk).2⟩)
  refine ⟨L, [{ target := .collected w.heap.size, args := #[] }], V, { target := .fn (.func gf) lb, args := #[.func (.yield L) #[] #[]] }, V, gf, #[.func (.yield L) #[] #[]] ++ lb, V, ?_, ?_, ?_, ?_, fun _ => h1, ?_⟩
  · rw [← hV, hR, ← hL]
    exact run_enterLoop_outer _ _ _ _ _
  · simp only [resolve, hg]
    simp [go_sem]
  · intro f' _
    trivial
  · simp [invoke, go_sem, eg]
  refine (hseq V bV L (fun pre W => I pre W ∧ W.heap[L]? = some (.loop (R .ready none)) ∧ W.heap[w.heap.size]? = some (.deferred (some []))) (fun pre W => ∃ c, Ix c pre W ∧ W.heap[L]? = some (.loop (R .done (some c))) ∧ W.heap[w.heap.size]? = some (.deferred (some [])))
    ?_ ?_ ?_ ⟨i1, vL, vD⟩).mono ?_
  · rintro s A B ⟨a1, a2, a3⟩ ht
    obtain ⟨b1, b2⟩ := two _ A B _ _ ht (far L (by omega) (by omega)) (far _ (Nat.le_refl _) (by omega)) a2 a3
    exact ⟨hI _ _ _ a1 (ht.mono (fun k hk => hk.imp id (fun h => by omega))), b1, b2⟩
  · rintro s A B ⟨c, a1, a2, a3⟩ ht
    obtain ⟨b1, b2⟩ := two _ A B _ _ ht (far L (by omega) (by omega)) (far _ (Nat.le_refl _) (by omega)) a2 a3
    exact ⟨c, hIx _ _ _ _ a1 (ht.mono (fun k hk => hk.imp id (fun h => by omega))), b1, b2⟩
  · rintro pre x W ⟨a1, a2, a3⟩ hlen
    have hy := run_yield (P := P) (args := encs x) a2 (by rw [hR]; exact hps x)
    rw [hR] at hy
    refine ⟨fn, _, assign, body, hy, roundIn_of_wpIn hfn (hassign _ pre x W _ a1 ?_)⟩
    clear hy
    intro a' Wa ta ia xa
    obtain ⟨b2, b3⟩ := two _ W Wa _ _ ta (nB L (by omega)) (nB _ (Nat.le_refl _)) a2 a3
    have lt1 := (Array.getElem?_eq_some_iff.1 b2).1
    refine ⟨_, run_beginRound b2 (by rw [hR]), ?_⟩
    obtain ⟨bz, hbz⟩ : ∃ o, o = Obj.loop { R .ready none with state := .busy } := ⟨_, rfl⟩
    rw [← hbz]
    have c2 : (Wa.putObj L bz).heap[L]? = some bz := World.putObj_heap_same lt1
    have c3 : (Wa.putObj L bz).heap[w.heap.size]? = some (.deferred (some [])) := (World.putObj_heap_other (by omega)).trans b3
    have tb := tpu Wa bz
    refine wpIn_mono (hbody _ pre x a' _ (hI _ _ _ ia (tput Wa bz)) (hAx _ _ _ _ L xa (Touch.putObj (S := fun k => k = L) rfl bz) ⟨_, b2⟩) hlen) ?_
    have fin : ∀ (jump : Option Code) (W3 : World), Touch Bx (Wa.putObj L bz) W3 → ∃ o, o = Obj.loop (R (if jump.isNone then .ready else .done) jump) ∧ (Instr.endRound L jump).run P W3 = .ok (.bool jump.isNone) (W3.putObj L o) ∧
        (W3.putObj L o).heap[L]? = some o ∧ (W3.putObj L o).heap[w.heap.size]? = some (.deferred (some [])) ∧ Touch (fun k => k < V.heap.size ∧ ¬ F k ∧ ¬ G k) W (W3.putObj L o) := fun jump W3 t3 => by
      obtain ⟨d2, d3⟩ := two _ _ W3 _ _ t3 (nB L (by omega)) (nB _ (Nat.le_refl _)) c2 c3
      rw [hbz] at d2
      have hr := run_endRound (P := P) jump d2
      refine ⟨_, rfl, ?_, World.putObj_heap_same (Array.getElem?_eq_some_iff.1 d2).1, (World.putObj_heap_other (by omega)).trans d3, ((((tBx _ _ ta).trans tb).trans (tBx _ _ t3)).trans (tpu W3 _))⟩
      rw [hR] at hr ⊢
      exact hr
    rintro e a3' W3 hp
    cases e with
    | normal =>
      obtain ⟨t3, i3⟩ := hp
      obtain ⟨o, ho, hr, e2, e3, e4⟩ := fin none W3 t3
      exact ⟨_, _, hr, .inl ⟨rfl, ⟨hI _ _ _ i3 (tput W3 o), by rw [e2, ho]; rfl, e3⟩, e4⟩⟩
    | ret =>
      obtain ⟨t3, i3⟩ := hp
      obtain ⟨o, ho, hr, e2, e3, e4⟩ := fin (some .ret) W3 t3
      exact ⟨_, _, hr, .inr ⟨rfl, ⟨.ret, hIx _ _ _ _ i3 (tput W3 o), by rw [e2, ho]; rfl, e3⟩, e4⟩⟩
    | exit id =>
      obtain ⟨t3, i3⟩ := hp
      obtain ⟨o, ho, hr, e2, e3, e4⟩ := fin (some (.exit id)) W3 t3
      exact ⟨_, _, hr, .inr ⟨rfl, ⟨.exit id, hIx _ _ _ _ i3 (tput W3 o), by rw [e2, ho]; rfl, e3⟩, e4⟩⟩
    | goto t =>
      obtain ⟨t3, i3⟩ := hp
      obtain ⟨o, ho, hr, e2, e3, e4⟩ := fin (some (.goto t)) W3 t3
      exact ⟨_, _, hr, .inr ⟨rfl, ⟨.goto t, hIx _ _ _ _ i3 (tput W3 o), by rw [e2, ho]; rfl, e3⟩, e4⟩⟩
    | panic ch => exact hp.elim
    | outgrown => exact hp.elim
  · rintro e W2 ⟨⟨v, rfl⟩, hpt, hJ⟩
    rcases hJ with ⟨xs, hS, a1, a2, a3⟩ | ⟨pre, hSp, c, a1, a2, a3⟩
    · have hr := run_endLoop (P := P) a2 (by rw [hR]; simp)
      refine ⟨none, _, by rw [hr, hR], hdone _ xs _ (Nat.le_refl _) hS (hI _ _ _ a1 (tput W2 _)) (hPt _ _ L (by omega) hpt (Touch.putObj (S := fun k => k = L) rfl _) ⟨_, a2⟩) ((World.putObj_heap_other (by omega)).trans a3)⟩
    · have hr := run_endLoop (P := P) a2 (by rw [hR]; simp)
      refine ⟨some c, _, by rw [hr, hR], hstop _ c pre _ (Nat.le_refl _) hSp (hIx _ _ _ _ a1 (tput W2 _)) (hPt _ _ L (by omega) hpt (Touch.putObj (S := fun k => k = L) rfl _) ⟨_, a2⟩) ((World.putObj_heap_other (by omega)).trans a3)⟩
end
end Go.Proofs.YtgdkjkfbknbgkaaGreatDoor
namespace Go.Proofs.YtgdkjkfbknbgkaaGreatDoor
open Go Go.RowKit
attribute [local go_sem] Oper.semAt_some

/-- The reference behind k steps of a chain. -/
def nxtR (ch : List (Nat × Nat)) (k : Nat) : Nat := match ch[k]? with
  | some x => x.1
  | none => 0
/-- A heap in which these are a prototype chain: their numbers and blocks. -/
structure CH (w : World) (B h A : Nat) (cv fv rv : Value) (d : AD) (ch : List (Nat × Nat)) : Prop where
  hp : HpAt w B h A cv fv rv d
  st : ∀ (k : Nat) r nb, ch[k]? = some (r, nb) → d.get (r : Int) = some (40, nb) ∧ ∃ cs, Box w nb 99 cs ∧ cs[1]? = some (.int .i64 (nxtR ch (k + 1) : Int))
  cnt : ch.length ≤ d.count
def CFoot (h A : Nat) (cv fv rv : Value) (ch : List (Nat × Nat)) (k : Nat) : Prop := k = h ∨ AFoot A cv fv rv k ∨ ∃ x ∈ ch, k = x.2
theorem CH.touch {w w' : World} {B h A : Nat} {cv fv rv : Value} {d : AD} {ch : List (Nat × Nat)} {S : Nat → Prop} (H : CH w B h A cv fv rv d ch) (ht : Touch S w w') (hn : ∀ k, CFoot h A cv fv rv ch k → ¬ S k) : CH w' B h A cv fv rv d ch :=
  ⟨⟨H.hp.hb.touch ht (hn h (.inl rfl)), H.hp.ar.touch ht (fun k hk => hn k (.inr (.inl hk))), H.hp.hB⟩, fun k r nb hk => by
    obtain ⟨h1, cs, h2, h3⟩ := H.st k r nb hk
    exact ⟨h1, cs, h2.touch ht (hn nb (.inr (.inr ⟨_, List.mem_of_getElem? hk, rfl⟩))), h3⟩, H.cnt⟩
theorem CH.on {w w' : World} {B h A : Nat} {cv fv rv : Value} {d : AD} {ch : List (Nat × Nat)} (H : CH w B h A cv fv rv d ch) (hb : Below w.heap.size w w') : CH w' B h A cv fv rv d ch := H.touch (S := fun _ => False) (Touch.of_below hb) (fun _ _ h => h)
theorem CH.lt {w : World} {B h A : Nat} {cv fv rv : Value} {d : AD} {ch : List (Nat × Nat)} (H : CH w B h A cv fv rv d ch) {k : Nat} (hk : CFoot h A cv fv rv ch k) : k < w.heap.size := by
  rcases hk with rfl | hk | ⟨x, hx, rfl⟩
  · exact H.hp.hb.lt
  · exact (AFoot.lt H.hp.ar hk).2
  · obtain ⟨i, hi⟩ := List.mem_iff_getElem?.1 hx
    obtain ⟨-, cs, h2, -⟩ := H.st i x.1 x.2 hi
    exact h2.lt
theorem get_zero (d : AD) : d.get 0 = none := by
  unfold AD.get
  rw [if_neg (by omega)]
theorem take_snoc {α : Type} (l : List α) (k : Nat) (x : α) (h : l[k]? = some x) : l.take (k + 1) = l.take k ++ [x] := by rw [List.take_add_one, h]; rfl
theorem chain_any (r : Int) (p : Option Addr) (w : World) : Calls Tryz.prog 105 #[.pointer p, .int .i64 r] w fun e w' => e = .returned (.func (.func 113) #[] #[.pointer (some ⟨w.heap.size, 0, none⟩), .pointer (some ⟨w.heap.size + 1, 0, none⟩)]) ∧ Box w' w.heap.size 43 #[.pointer p] ∧ Box w' (w.heap.size + 1) 3 #[.int .i64 r] ∧ Below w.heap.size w w' := by
  have b1 := (Box.new w 43 #[.pointer p]).more (.cells #[.int .i64 r] 3)
  have b2 := Box.new (w.alloc (.cells #[.pointer p] 43)) 3 #[.int .i64 r]
  have bb : Below w.heap.size w ((w.alloc (.cells #[.pointer p] 43)).alloc (.cells #[.int .i64 r] 3)) := ((Below.refl _ _).alloc (Nat.le_refl _) _).alloc (by rw [World.size_alloc]; omega) _
  rw [World.size_alloc] at b2
  go_enter Tryz.func105, Tryz.ntmps105
  go_wp2
  go_ret
  exact ⟨rfl, b1, b2, bb⟩
set_option maxRecDepth 100000 in
set_option maxHeartbeats 2000000 in
theorem chain_stops (n : Nat) (hn : 2 ≤ n) {B h A : Nat} {cv fv rv : Value} {d : AD} {ch : List (Nat × Nat)} (hb rb : Nat) (hsm : d.count < 1000000) (W : World) (H : CH W B h A cv fv rv d ch) (bh : Box W hb 43 #[.pointer (some ⟨h, 0, none⟩)]) (br : Box W rb 3 #[.int .i64 (nxtR ch 0 : Int)]) (hnr : ¬ CFoot h A cv fv rv ch rb) :
    TabStops n Tryz.prog 113 #[.pointer (some ⟨hb, 0, none⟩), .pointer (some ⟨rb, 0, none⟩)] (fun x : Nat × Nat => #[.int .i64 (x.1 : Int), .pointer (some ⟨x.2, 0, none⟩)]) (fun k => k = rb) (fun k => k = hb ∨ CFoot h A cv fv rv ch k) (fun xs => xs = ch) (fun pre => pre <+: ch) (fun _ => True) W := by
  intro l J Jx hJ hJx hY h0
  have hn1 : 1 ≤ n := by omega
  have hn2 : 1 ≤ n - 1 := by omega
  have hne : rb ≠ hb := br.lab.ne bh.lab (by decide)
  have c0 : W.cell? ⟨hb, 0, none⟩ = some (.pointer (some ⟨h, 0, none⟩)) := bh.at_ 0
  have d0 : W.cell? ⟨h, 0, none⟩ = some (.pointer (some ⟨A, 0, none⟩)) := H.hp.hb.at_ 0
  have HC := Veil.mk (count_any B A cv fv rv _ W H.hp.ar)
  have HST := Veil.mk (And.intro H (And.intro bh br))
  have HJJ := Veil.mk (And.intro hJ (And.intro hJx h0))
  have HY := Veil.mk hY
  have hbl := bh.lt
  have hrbl := br.lt
  have HLT := Veil.mk (fun k (hk : CFoot h A cv fv rv ch k) => H.lt hk)
  clear H bh br hJ hJx h0 hY
  refine callsIn_of_wp Tryz.func113 rfl trivial ?_ rfl
  simp only [Tryz.ntmps113, List.size_toArray, List.length_cons, List.length_nil, Nat.reduceAdd, Nat.reduceSub, Array.replicate_succ, Array.replicate_zero, List.push_toArray, List.append_toArray, List.nil_append, List.cons_append]
  gi_wp2_with (first | (refine ⟨trivial, ?_⟩; gi_at_call 114; refine (callsIn_wide.2 HC.out).mono ?_; rintro e w1 ⟨rfl, h1⟩; subst w1))
  clear c0 d0
  gi_loopw [12] (fun i wr => ∃ k : Nat, k ≤ ch.length ∧ i = .int .i64 (k : Int) ∧ J (ch.take k) wr ∧ CH wr B h A cv fv rv d ch ∧ Box wr hb 43 #[.pointer (some ⟨h, 0, none⟩)] ∧ Box wr rb 3 #[.int .i64 (nxtR ch k : Int)] ∧ W.heap.size ≤ wr.heap.size) (fun i _ => d.count - (intOf i).toNat)
  case atStart => exact ⟨0, by omega, rfl, HJJ.out.2.2, HST.out.1, HST.out.2.1, HST.out.2.2, Nat.le_refl _⟩
  case round =>
    obtain ⟨k, hkc, rfl, hJk, hK, bh, br, hsz⟩ := hrel
    have hk0 : (0 : Int) ≤ (k : Int) := by omega
    by_cases hlt : k < d.count
    · have hlt' : (k : Int) < (d.count : Int) := by omega
      have c0 : wr.cell? ⟨hb, 0, none⟩ = some (.pointer (some ⟨h, 0, none⟩)) := bh.at_ 0
      have r0 : wr.cell? ⟨rb, 0, none⟩ = some (.int .i64 (nxtR ch k : Int)) := br.at_ 0
      have r0f := br.free 0
      cases hck : ch[k]? with
      | none =>
        have hx0 : nxtR ch k = 0 := by unfold nxtR; rw [hck]
        rw [hx0] at r0
        have HO := Veil.mk (obj_none hK.hp 0 (get_zero _))
        have hkl : ch.length ≤ k := by
          rcases Nat.lt_or_ge k ch.length with h9 | h9
          · rw [List.getElem?_eq_getElem h9] at hck; cases hck
          · exact h9
        replace r0 : wr.cell? ⟨rb, 0, none⟩ = some (.int .i64 0) := r0
        have HJ2 := Veil.mk (And.intro hJk hkl)
        clear hK bh br hJk hx0 hck hkl
        gi_wp2_with (first | (refine ⟨trivial, ?_⟩; gi_at_call 26; refine (callsIn_wide.2 HO.out).mono ?_; rintro e w1 ⟨rfl, h1⟩; subst w1))
        refine ⟨fun _ h => (by cases h), ?_⟩
        gi_wp2
        refine bodyPost_ret (results_none rfl _ _ _) rfl ?_
        exact ⟨⟨_, rfl⟩, trivial, .inl ⟨_, rfl, by have := HJ2.out.1; rwa [List.take_of_length_le HJ2.out.2] at this⟩⟩
      | some x =>
        obtain ⟨r, nb⟩ := x
        have hxk : nxtR ch k = r := by unfold nxtR; rw [hck]
        obtain ⟨hg, cs, hbx, hc1⟩ := hK.st k r nb hck
        have hkl : k < ch.length := (List.getElem?_eq_some_iff.1 hck).1
        have HO := Veil.mk (obj_some hK.hp (r : Int) nb hg)
        have hps := take_snoc ch k (r, nb) hck
        have hpre : ch.take k ++ [(r, nb)] <+: ch := by rw [← hps]; exact List.take_prefix _ _
        obtain ⟨fn, tmps, assign, body, hy, hR⟩ := HY.out (ch.take k) (r, nb) wr hJk hpre
        rw [hxk] at r0 br
        have HK2 := Veil.mk (And.intro hK (And.intro bh (And.intro br (And.intro hbx (And.intro hc1 hck)))))
        have HPS := Veil.mk (And.intro hps (And.intro hpre hkl))
        clear hK bh br hJk hps hpre hg hxk hbx hc1 hck hkl
        gi_wp2_with (first | (refine ⟨trivial, ?_⟩; gi_at_call 26; refine (callsIn_wide.2 HO.out).mono ?_; rintro e w1 ⟨rfl, h1⟩; subst w1; refine Hid.out ?_))
        refine Lib.hid ?_
        gi_wp2
        refine hR.mono ?_
        rintro e W3 (⟨rfl, hJ3, ht3⟩ | ⟨rfl, hJx3, ht3⟩)
        · obtain ⟨hK, bh, br, hbx, hc1, hck⟩ := HK2.out
          obtain ⟨nx, hnx⟩ : ∃ nx, nxtR ch (k + 1) = nx := ⟨_, rfl⟩
          rw [hnx] at hc1
          have hK3 := hK.touch ht3 (fun j hj h => h.2.2 (.inr hj))
          have bh3 := bh.touch ht3 (fun h => h.2.2 (.inl rfl))
          have br3 := br.touch ht3 (fun h => h.2.1 rfl)
          have hb3 := hbx.touch ht3 (fun h => h.2.2 (.inr (.inr (.inr ⟨_, List.mem_of_getElem? hck, rfl⟩))))
          have tp : Touch (fun j => j = rb) W3 (W3.setCell ⟨rb, 0, none⟩ (.int .i64 (nx : Int))) := Touch.put (S := fun j => j = rb) rfl _ _
          have o1 : W3.cell? ⟨nb, 1, none⟩ = some (.int .i64 (nx : Int)) := by rw [hb3.at_ 1]; exact hc1
          have r3 : W3.cell? ⟨rb, 0, none⟩ = some (.int .i64 (r : Int)) := br3.at_ 0
          have r3f := br3.free 0
          have HN : Veil (J (ch.take (k + 1)) (W3.setCell ⟨rb, 0, none⟩ (.int .i64 (nx : Int))) ∧ CH (W3.setCell ⟨rb, 0, none⟩ (.int .i64 (nx : Int))) B h A cv fv rv d ch ∧ Box (W3.setCell ⟨rb, 0, none⟩ (.int .i64 (nx : Int))) hb 43 #[.pointer (some ⟨h, 0, none⟩)] ∧ Box (W3.setCell ⟨rb, 0, none⟩ (.int .i64 (nx : Int))) rb 3 #[.int .i64 (nx : Int)] ∧ W.heap.size ≤ (W3.setCell ⟨rb, 0, none⟩ (.int .i64 (nx : Int))).heap.size) :=
            ⟨by rw [HPS.out.1]; exact HJJ.out.1 _ _ _ hJ3 (tp.mono (fun j hj => .inl hj)), hK3.touch tp (fun j hj e => hnr (e ▸ hj)), bh3.touch tp (fun e => hne e.symm), br3.put 0 _, Nat.le_trans hsz (Nat.le_trans ht3.size tp.size)⟩
          have HNX := Veil.mk hnx
          have hkl := HPS.out.2.2
          clear hK bh br hbx hc1 hck hK3 bh3 br3 hb3 tp hJ3 ht3 c0 r0 r0f hR hy hnx
          gi_wp2
          go_roundw
          case rel => exact ⟨k + 1, by omega, by go_num, by rw [HNX.out]; exact HN.out⟩
          case measure => simp [intOf]; omega
        · gi_wp2
          refine bodyPost_ret (results_none rfl _ _ _) rfl ?_
          exact ⟨⟨_, rfl⟩, trivial, .inr ⟨_, HPS.out.2.1, hJx3⟩⟩
    · have hkl : ch.length ≤ k := by have := hK.cnt; omega
      have hlt' : ¬ (k : Int) < (d.count : Int) := by omega
      have HJ2 := Veil.mk (And.intro hJk hkl)
      clear hK bh br hJk hkc hkl
      gi_wp2
      refine bodyPost_end (results_none rfl _ _ _) rfl ?_
      exact ⟨⟨_, rfl⟩, .inl (by have := HJ2.out.1; rwa [List.take_of_length_le HJ2.out.2] at this)⟩
end Go.Proofs.YtgdkjkfbknbgkaaGreatDoor
namespace Go.Proofs.YtgdkjkfbknbgkaaGreatDoor
open Go Go.RowKit
attribute [local go_sem] Oper.semAt_some

/-- What is found from step i on, n steps. -/
def findG (L : Nat → Vt × Int × Bool) : Nat → Nat → Vt × Int × Bool
  | _, 0 => ((0, 0, ⟨#[]⟩), 0, false)
  | i, n + 1 => if (L i).2.2 = true then L i else findG L (i + 1) n
/-- Between two rounds of Find. -/
structure FX (w : World) (N b5 b6 b7 b8 : Nat) (k v : Vt) (f : Int) (ok : Bool) (W : World) : Prop where
  bel : Below N w W
  k5 : Box W b5 30 #[.int .i64 k.1, .int .i64 k.2.1, .string k.2.2]
  r6 : Box W b6 30 #[.int .i64 v.1, .int .i64 v.2.1, .string v.2.2]
  r7 : Box W b7 3 #[.int .i64 f]
  r8 : Box W b8 4 #[.bool ok]
theorem FX.touch {w W W' : World} {N b5 b6 b7 b8 : Nat} {k v : Vt} {f : Int} {ok : Bool} {S : Nat → Prop} (h : FX w N b5 b6 b7 b8 k v f ok W) (hN : N ≤ W.heap.size) (ht : Touch S W W') (hl : ∀ k, S k → N ≤ k) (h5 : ¬ S b5) (h6 : ¬ S b6) (h7 : ¬ S b7) (h8 : ¬ S b8) : FX w N b5 b6 b7 b8 k v f ok W' :=
  ⟨h.bel.trans (ht.below hN hl), h.k5.touch ht h5, h.r6.touch ht h6, h.r7.touch ht h7, h.r8.touch ht h8⟩
theorem FX.done {w W : World} {N b5 b6 b7 b8 : Nat} {k v0 : Vt} {f0 : Int} {ok0 : Bool} (h : FX w N b5 b6 b7 b8 k v0 f0 ok0 W) (h6 : N ≤ b6) (h7 : N ≤ b7) (h8 : N ≤ b8) (n1 : b5 ≠ b6) (v : Vt) (f : Int) (ok : Bool) :
    FX w N b5 b6 b7 b8 k v f ok (((((W.setCell ⟨b6, 0, none⟩ (.int .i64 v.1)).setCell ⟨b6, 1, none⟩ (.int .i64 v.2.1)).setCell ⟨b6, 2, none⟩ (.string v.2.2)).setCell ⟨b7, 0, none⟩ (.int .i64 f)).setCell ⟨b8, 0, none⟩ (.bool ok)) ∧
    Touch (fun j => j = b6 ∨ j = b7 ∨ j = b8) W (((((W.setCell ⟨b6, 0, none⟩ (.int .i64 v.1)).setCell ⟨b6, 1, none⟩ (.int .i64 v.2.1)).setCell ⟨b6, 2, none⟩ (.string v.2.2)).setCell ⟨b7, 0, none⟩ (.int .i64 f)).setCell ⟨b8, 0, none⟩ (.bool ok)) := by
  have n67 : b6 ≠ b7 := h.r6.lab.ne h.r7.lab (by decide)
  have n68 : b6 ≠ b8 := h.r6.lab.ne h.r8.lab (by decide)
  have n78 : b7 ≠ b8 := h.r7.lab.ne h.r8.lab (by decide)
  have n57 : b5 ≠ b7 := h.k5.lab.ne h.r7.lab (by decide)
  have n58 : b5 ≠ b8 := h.k5.lab.ne h.r8.lab (by decide)
  have t1 := ((Touch.put (S := fun j => j = b6) (w := W) rfl 0 (.int .i64 v.1)).trans (Touch.put (S := fun j => j = b6) rfl 1 (.int .i64 v.2.1))).trans (Touch.put (S := fun j => j = b6) rfl 2 (.string v.2.2))
  have a6 := ((h.r6.put 0 (.int .i64 v.1)).put 1 (.int .i64 v.2.1)).put 2 (.string v.2.2)
  have a5 := h.k5.touch t1 n1
  have a7 := h.r7.touch t1 (fun e => n67 e.symm)
  have a8 := h.r8.touch t1 (fun e => n68 e.symm)
  have hb1 := h.bel.trans (t1.below (by have := h.r6.lt; omega) (fun j hj => by omega))
  generalize ((W.setCell ⟨b6, 0, none⟩ (.int .i64 v.1)).setCell ⟨b6, 1, none⟩ (.int .i64 v.2.1)).setCell ⟨b6, 2, none⟩ (.string v.2.2) = W1 at t1 a6 a5 a7 a8 hb1 ⊢
  have t2 := Touch.put (S := fun j => j = b7) (w := W1) rfl 0 (.int .i64 f)
  have c6 := a6.touch t2 n67
  have c5 := a5.touch t2 n57
  have c8 := a8.touch t2 (fun e => n78 e.symm)
  have c7 := a7.put 0 (.int .i64 f)
  have hb2 := hb1.trans (t2.below (by have := a6.lt; omega) (fun j hj => by omega))
  generalize W1.setCell ⟨b7, 0, none⟩ (.int .i64 f) = W2 at t2 c6 c5 c8 c7 hb2 ⊢
  have t3 := Touch.put (S := fun j => j = b8) (w := W2) rfl 0 (.bool ok)
  exact ⟨⟨hb2.trans (t3.below (by have := c6.lt; omega) (fun j hj => by omega)), c5.touch t3 n58, c6.touch t3 n68, c7.touch t3 n78, c8.put 0 _⟩, (t1.mono (fun j hj => .inl hj)).trans ((t2.mono (fun j hj => .inr (.inl hj))).trans (t3.mono (fun j hj => .inr (.inr hj))))⟩
theorem fin_find {n : Nat} {t : Array Value} {w W : World} {N b5 b6 b7 b8 D : Nat} {k v : Vt} {f : Int} {ok : Bool} (h : FX w N b5 b6 b7 b8 k v f ok W) (h6 : t[6]? = some (.pointer (some ⟨b6, 0, none⟩))) (h7 : t[7]? = some (.pointer (some ⟨b7, 0, none⟩))) (h8 : t[8]? = some (.pointer (some ⟨b8, 0, none⟩))) (hK : W.heap[D]? = some (.deferred (some []))) (hD : N ≤ D) (hN : N ≤ W.heap.size) :
    bodyPostM Fence.wide n Tryz.prog Tryz.f83 (fun e w' => e = .returned (.tuple #[valV v, .int .i64 f, .bool ok]) ∧ Below N w w') Exit.ret { tmps := t, defers := [{ target := .collected D, args := #[] }] } W := by
  refine ⟨by simp, .inl ⟨_, _, rfl, run_takeDeferred hK, ?_⟩⟩
  have tp := Touch.putObj (S := fun j => j = D) (w := W) rfl (.deferred none)
  have nD : ∀ (j : Nat) (e : TypeId) (cs : Array Value), Box W j e cs → ¬ j = D := fun j e cs hb hj => by
    subst hj
    have := (show W.heap[j]? = _ from hb).symm.trans hK
    simp at this
  have a6 := h.r6.touch tp (nD _ _ _ h.r6)
  have a7 := h.r7.touch tp (nD _ _ _ h.r7)
  have a8 := h.r8.touch tp (nD _ _ _ h.r8)
  have hb := h.bel.trans (tp.below hN (fun j hj => by omega))
  generalize W.putObj D (.deferred none) = W9 at a6 a7 a8 hb ⊢
  have y0 : W9.cell? ⟨b6, 0, none⟩ = some (.int .i64 v.1) := a6.at_ 0
  have y1 : W9.cell? ⟨b6, 1, none⟩ = some (.int .i64 v.2.1) := a6.at_ 1
  have y2 : W9.cell? ⟨b6, 2, none⟩ = some (.string v.2.2) := a6.at_ 2
  have y7 : W9.cell? ⟨b7, 0, none⟩ = some (.int .i64 f) := a7.at_ 0
  have y8 : W9.cell? ⟨b8, 0, none⟩ = some (.bool ok) := a8.at_ 0
  exact ⟨.tuple #[valV v, .int .i64 f, .bool ok], by simp [results, Tryz.results83, go_sem, h6, h7, h8, y0, y1, y2, y7, y8], rfl, hb⟩
def AxH (a : Act) (x : Nat × Nat) (a' : Act) (_ : World) : Prop := a' = { tmps := ((a.tmps.setIfInBounds 17 (.int .i64 (x.1 : Int))).setIfInBounds 18 (.pointer (some ⟨x.2, 0, none⟩))).setIfInBounds 10 (.pointer (some ⟨x.2, 0, none⟩)), defers := [] }
/-- Nothing is found in the first of the chain. -/
def FNo (L : Nat → Vt × Int × Bool) (n : Nat) (pre : List (Nat × Nat)) : Prop := ∃ q, n = pre.length + q ∧ findG L 0 n = findG L pre.length q
set_option maxHeartbeats 4000000 in
set_option maxRecDepth 100000 in
theorem hfind_any {w : World} {B h A : Nat} {cv fv rv : Value} {d : AD} {ch : List (Nat × Nat)} (H : CH w B h A cv fv rv d ch) (hsm : d.count < 1000000) (k : Vt) (L : Nat → Vt × Int × Bool) (HO : ∀ (i : Nat) r nb, ch[i]? = some (r, nb) → ∀ W, Below w.heap.size w W → Calls Tryz.prog 49 #[.pointer (some ⟨nb, 0, none⟩), valV k] W fun e w' => e = .returned (.tuple #[valV (L i).1, .int .i64 (L i).2.1, .bool (L i).2.2]) ∧ Below W.heap.size W w') :
    Calls Tryz.prog 83 #[.pointer (some ⟨h, 0, none⟩), .int .i64 (nxtR ch 0 : Int), valV k] w fun e w' => e = .returned (.tuple #[valV (findG L 0 ch.length).1, .int .i64 (findG L 0 ch.length).2.1, .bool (findG L 0 ch.length).2.2]) ∧ Below w.heap.size w w' := by
  obtain ⟨⟨v9, f9, ok9⟩, hz⟩ : ∃ z, findG L 0 ch.length = z := ⟨_, rfl⟩
  rw [hz]
  have HZ := Veil.mk hz
  clear hz
  obtain ⟨N, hN⟩ : ∃ N, w.heap.size = N := ⟨_, rfl⟩
  have b5 := (((Box.new w 30 #[.int .i64 k.1, .int .i64 k.2.1, .string k.2.2]).more (.cells #[.int .i64 0, .int .i64 0, .string ⟨#[]⟩] 30)).more (.cells #[.int .i64 0] 3)).more (.cells #[.bool false] 4)
  have b6 := ((Box.new (w.alloc (.cells #[.int .i64 k.1, .int .i64 k.2.1, .string k.2.2] 30)) 30 #[.int .i64 0, .int .i64 0, .string ⟨#[]⟩]).more (.cells #[.int .i64 0] 3)).more (.cells #[.bool false] 4)
  have b7 := (Box.new ((w.alloc (.cells #[.int .i64 k.1, .int .i64 k.2.1, .string k.2.2] 30)).alloc (.cells #[.int .i64 0, .int .i64 0, .string ⟨#[]⟩] 30)) 3 #[.int .i64 0]).more (.cells #[.bool false] 4)
  have b8 := Box.new (((w.alloc (.cells #[.int .i64 k.1, .int .i64 k.2.1, .string k.2.2] 30)).alloc (.cells #[.int .i64 0, .int .i64 0, .string ⟨#[]⟩] 30)).alloc (.cells #[.int .i64 0] 3)) 4 #[.bool false]
  have bb : Below w.heap.size w ((((w.alloc (.cells #[.int .i64 k.1, .int .i64 k.2.1, .string k.2.2] 30)).alloc (.cells #[.int .i64 0, .int .i64 0, .string ⟨#[]⟩] 30)).alloc (.cells #[.int .i64 0] 3)).alloc (.cells #[.bool false] 4)) := ((((Below.refl _ _).alloc (Nat.le_refl _) _).alloc (by simp) _).alloc (by simp; omega) _).alloc (by simp; omega) _
  rw [World.size_alloc] at b6
  rw [World.size_alloc, World.size_alloc] at b7
  rw [World.size_alloc, World.size_alloc, World.size_alloc] at b8
  obtain ⟨W0, hW0⟩ : ∃ W0, ((((w.alloc (.cells #[.int .i64 k.1, .int .i64 k.2.1, .string k.2.2] 30)).alloc (.cells #[.int .i64 0, .int .i64 0, .string ⟨#[]⟩] 30)).alloc (.cells #[.int .i64 0] 3)).alloc (.cells #[.bool false] 4)) = W0 := ⟨_, rfl⟩
  rw [hW0] at b5 b6 b7 b8 bb
  rw [hN] at b5 b6 b7 b8 bb ⊢
  have HW0 := Veil.mk (And.intro hW0 hN)
  have hF0 : FX w N N (N + 1) (N + 1 + 1) (N + 1 + 1 + 1) k (0, 0, ⟨#[]⟩) 0 false W0 := ⟨bb, b5, b6, b7, b8⟩
  have HCH := Veil.mk (chain_any (nxtR ch 0 : Int) (some ⟨h, 0, none⟩) W0)
  have hsz0 := b8.lt
  have HF0 := Veil.mk (And.intro hF0 hsz0)
  have HH := Veil.mk (And.intro H hsm)
  have HOO := Veil.mk HO
  have HON : Veil (∀ W, Below N w W → CH W B h A cv fv rv d ch) := ⟨fun W hb => H.on (by rw [hN]; exact hb)⟩
  have HLT : Veil (∀ j, CFoot h A cv fv rv ch j → j < N) := ⟨fun j hj => by rw [← hN]; exact H.lt hj⟩
  rw [hN] at HOO
  clear H HO b5 b6 b7 b8 bb hW0 hN hF0 hsz0
  refine (callsIn_wide (n := 6)).1 (callsIn_of_wp_marks Tryz.func83 rfl trivial (wpIn_wide.2 ?_) rfl)
  simp only [Tryz.ntmps83, List.size_toArray, List.length_cons, List.length_nil, Nat.reduceAdd, Nat.reduceSub, Array.replicate_succ, Array.replicate_zero, List.push_toArray, List.append_toArray, List.nil_append, List.cons_append]
  go_upto_region 1 with (fail)
  rw [HW0.out.1, HW0.out.2]
  go_wp2_with (first | (go_at_call 105; ((with_reducible refine HCH.out.mono ?_); rintro e w2 ⟨rfl, bh, br, hb2⟩)))
  obtain ⟨hF0, hsz0⟩ := HF0.out
  obtain ⟨H, hsm⟩ := HH.out
  obtain ⟨hb, hhb⟩ : ∃ hb, W0.heap.size = hb := ⟨_, rfl⟩
  have hF2 := hF0.touch (S := fun _ => False) (by omega) (Touch.of_below hb2) (fun _ h => h.elim) (fun h => h) (fun h => h) (fun h => h) (fun h => h)
  rw [hhb] at bh br hb2 ⊢
  have hl1 := bh.lt
  have hl2 := br.lt
  have hfl := HLT.out
  refine wpIn_wide.1 (wpIn_rangeFunc_tab (n := 6) (by omega) (gf := 113) (lb := #[.pointer (some ⟨hb, 0, none⟩), .pointer (some ⟨hb + 1, 0, none⟩)]) rfl (enters_of Tryz.func113 (by kernel_rfl) rfl) (encs := fun x : Nat × Nat => #[.int .i64 (x.1 : Int), .pointer (some ⟨x.2, 0, none⟩)]) (F := fun j => j = hb + 1) (G := fun j => j = hb ∨ CFoot h A cv fv rv ch j) (S := fun xs => xs = ch) (Sp := fun pre => pre <+: ch) (Pt := fun _ => True) (fun j hj => by omega) ?hseq
    (fun _ _ _ _ h _ _ => h) (fun _ => rfl) (fun j => j = N + 1 ∨ j = N + 1 + 1 ∨ j = N + 1 + 1 + 1) (fun j hj => ⟨by omega, by omega, fun h => by
      rcases h with h | h
      · omega
      · have := hfl j h; omega⟩) (fun j hj => by
      rcases hj with h | h
      · omega
      · have := hfl j h; omega) (fun pre W => FX w N N (N + 1) (N + 1 + 1) (N + 1 + 1 + 1) k (0, 0, ⟨#[]⟩) 0 false W ∧ w2.heap.size ≤ W.heap.size ∧ FNo L ch.length pre) (fun c _ W => c = .ret ∧ w2.heap.size ≤ W.heap.size ∧ ∃ v f, findG L 0 ch.length = (v, f, true) ∧ FX w N N (N + 1) (N + 1 + 1) (N + 1 + 1 + 1) k v f true W)
    ?hI ?hIx ⟨hF2, Nat.le_refl _, ch.length, by simp, rfl⟩ AxH (fun _ _ _ _ _ h _ _ => h) ?assign ?body ?done ?stop)
  case hseq =>
    intro W hbW
    exact chain_stops 5 (by omega) hb (hb + 1) hsm W (HON.out W (hF2.bel.trans (hbW.mono (by omega)))) (bh.on hbW bh.lt) (br.on hbW br.lt) (fun h => by have := hfl _ h; omega)
  case hI =>
    rintro pre A' B' ⟨h1, h2, h3⟩ ht
    exact ⟨h1.touch (by omega) ht (fun j hj => by omega) (by omega) (by omega) (by omega) (by omega), by have := ht.size; omega, h3⟩
  case hIx =>
    rintro c pre A' B' ⟨hc, h2, v, f, h3, h1⟩ ht
    exact ⟨hc, by have := ht.size; omega, v, f, h3, h1.touch (by omega) ht (fun j hj => by omega) (by omega) (by omega) (by omega) (by omega)⟩
  case assign =>
    intro l pre x W K hI hK
    gi_wp2
    exact hK _ _ (Touch.refl _ _) hI rfl
  case body =>
    rintro l pre x a' W ⟨hF, hsz, q0, hq0, hfo⟩ rfl hsp
    simp only [List.setIfInBounds_toArray, List.set_cons_zero, List.set_cons_succ]
    have hle : pre.length + 1 ≤ ch.length := by
      have := hsp.length_le
      rw [List.length_append] at this
      simpa using this
    have hx : ch[pre.length]? = some x := by
      obtain ⟨s, hs⟩ := hsp
      rw [← hs, List.append_assoc, List.getElem?_append_right (Nat.le_refl _), Nat.sub_self]
      rfl
    obtain ⟨rr, nb⟩ := x
    obtain ⟨q, hq1⟩ : ∃ q, q0 = q + 1 := ⟨q0 - 1, by omega⟩
    subst hq1
    have HOW0 := HOO.out pre.length rr nb hx W hF.bel
    obtain ⟨⟨v, f, ok⟩, hl⟩ : ∃ z, L pre.length = z := ⟨_, rfl⟩
    rw [hl] at HOW0
    have hfs : findG L pre.length (q + 1) = if ok = true then (v, f, ok) else findG L (pre.length + 1) q := by
      show (if (L pre.length).2.2 = true then L pre.length else findG L (pre.length + 1) q) = _
      rw [hl]
    have hq := hq0
    have HOW := Veil.mk HOW0
    have HFW := Veil.mk hF
    have hfree6 := hF.r6.free 0
    have x0 : W.cell? ⟨N, 0, none⟩ = some (.int .i64 k.1) := hF.k5.at_ 0
    have x1 : W.cell? ⟨N, 1, none⟩ = some (.int .i64 k.2.1) := hF.k5.at_ 1
    have x2 : W.cell? ⟨N, 2, none⟩ = some (.string k.2.2) := hF.k5.at_ 2
    have HQ := Veil.mk (And.intro hq (And.intro hfo hfs))
    have hNW : N ≤ W.heap.size := by omega
    clear HOW0 hl hfs hq hfo hF hq0 hle hsp hx hfree6 H hb2 bh br hF0 hF2
    cases ok with
    | false =>
      gi_wp2_with (first | (refine ⟨trivial, ?_⟩; gi_at_call 49; ((with_reducible refine ((callsIn_wide.2 HOW.out).inRound l).mono ?_); rintro e W' ⟨rfl, hb'⟩)))
      have hbw : Below W.heap.size W (W'.alloc (.cells #[.int .i64 v.1, .int .i64 v.2.1, .string v.2.2] 30)) := hb'.alloc hb'.size _
      obtain ⟨hq, hfo, hfs⟩ := HQ.out
      exact ⟨Touch.of_below hbw, HFW.out.touch (S := fun _ => False) hNW (Touch.of_below hbw) (fun _ h => h.elim) (fun h => h) (fun h => h) (fun h => h) (fun h => h), Nat.le_trans hsz hbw.size, q, by rw [List.length_append]; simp; omega, by rw [List.length_append]; exact hfo.trans hfs⟩
    | true =>
      gi_wp2_with (first | (refine ⟨trivial, ?_⟩; gi_at_call 49; ((with_reducible refine ((callsIn_wide.2 HOW.out).inRound l).mono ?_); rintro e W' ⟨rfl, hb'⟩; refine Hid.out ?_)))
      have hbw : Below W.heap.size W (W'.alloc (.cells #[.int .i64 v.1, .int .i64 v.2.1, .string v.2.2] 30)) := hb'.alloc hb'.size _
      have hF1 := HFW.out.touch (S := fun _ => False) hNW (Touch.of_below hbw) (fun _ h => h.elim) (fun h => h) (fun h => h) (fun h => h) (fun h => h)
      have p6 : (W'.alloc (.cells #[.int .i64 v.1, .int .i64 v.2.1, .string v.2.2] 30)).cell? ⟨N + 1, 0, none⟩ = some (.int .i64 0) := hF1.r6.at_ 0
      have p61 : (W'.alloc (.cells #[.int .i64 v.1, .int .i64 v.2.1, .string v.2.2] 30)).cell? ⟨N + 1, 1, none⟩ = some (.int .i64 0) := hF1.r6.at_ 1
      have p62 : (W'.alloc (.cells #[.int .i64 v.1, .int .i64 v.2.1, .string v.2.2] 30)).cell? ⟨N + 1, 2, none⟩ = some (.string ⟨#[]⟩) := hF1.r6.at_ 2
      have p7 : (W'.alloc (.cells #[.int .i64 v.1, .int .i64 v.2.1, .string v.2.2] 30)).cell? ⟨N + 1 + 1, 0, none⟩ = some (.int .i64 0) := hF1.r7.at_ 0
      have p8 : (W'.alloc (.cells #[.int .i64 v.1, .int .i64 v.2.1, .string v.2.2] 30)).cell? ⟨N + 1 + 1 + 1, 0, none⟩ = some (.bool false) := hF1.r8.at_ 0
      have q6 := hF1.r6.free 0
      have q61 := hF1.r6.free 1
      have q62 := hF1.r6.free 2
      have q7 := hF1.r7.free 0
      have q8 := hF1.r8.free 0
      have bn := Box.new W' 30 #[.int .i64 v.1, .int .i64 v.2.1, .string v.2.2]
      have t0 : (W'.alloc (.cells #[.int .i64 v.1, .int .i64 v.2.1, .string v.2.2] 30)).cell? ⟨W'.heap.size, 0, none⟩ = some (.int .i64 v.1) := bn.at_ 0
      have t1 : (W'.alloc (.cells #[.int .i64 v.1, .int .i64 v.2.1, .string v.2.2] 30)).cell? ⟨W'.heap.size, 1, none⟩ = some (.int .i64 v.2.1) := bn.at_ 1
      have t2 : (W'.alloc (.cells #[.int .i64 v.1, .int .i64 v.2.1, .string v.2.2] 30)).cell? ⟨W'.heap.size, 2, none⟩ = some (.string v.2.2) := bn.at_ 2
      have HFIN := Veil.mk (And.intro hbw hF1)
      clear x0 x1 x2 hbw bn hF1 hb'
      refine Lib.hid ?_
      gi_wp2
      obtain ⟨d1, d2⟩ := HFIN.out.2.done (by omega) (by omega) (by omega) (by omega) v f true
      obtain ⟨hq, hfo, hfs⟩ := HQ.out
      exact ⟨(Touch.of_below HFIN.out.1).trans d2, rfl, Nat.le_trans hsz (Nat.le_trans HFIN.out.1.size d2.size), v, f, hfo.trans (hfs.trans (by simp)), d1⟩
  case done =>
    rintro D xs W hD hxs ⟨hF, hsz, q0, hq0, hfo⟩ - hK
    subst xs
    have hq1 : q0 = 0 := by omega
    have hfo2 : findG L 0 ch.length = ((0, 0, ⟨#[]⟩), 0, false) := by rw [hfo, hq1]; rfl
    have e9 := HZ.out.symm.trans hfo2
    simp only [Prod.mk.injEq] at e9
    obtain ⟨rfl, rfl, rfl⟩ := e9
    have p6 : W.cell? ⟨N + 1, 0, none⟩ = some (.int .i64 0) := hF.r6.at_ 0
    have p61 : W.cell? ⟨N + 1, 1, none⟩ = some (.int .i64 0) := hF.r6.at_ 1
    have p62 : W.cell? ⟨N + 1, 2, none⟩ = some (.string ⟨#[]⟩) := hF.r6.at_ 2
    have p7 : W.cell? ⟨N + 1 + 1, 0, none⟩ = some (.int .i64 0) := hF.r7.at_ 0
    have p8 : W.cell? ⟨N + 1 + 1 + 1, 0, none⟩ = some (.bool false) := hF.r8.at_ 0
    have q6 := hF.r6.free 0
    have q61 := hF.r6.free 1
    have q62 := hF.r6.free 2
    have q7 := hF.r7.free 0
    have q8 := hF.r8.free 0
    have HFIN := Veil.mk (And.intro hF (And.intro hsz hK))
    clear hF hsz hK hfo hfo2 hq0 hq1 HZ H hb2 bh br hF0 hF2
    go_wp2
    obtain ⟨hF, hsz, hK⟩ := HFIN.out
    obtain ⟨d1, d2⟩ := hF.done (by omega) (by omega) (by omega) (by omega) (0, 0, ⟨#[]⟩) 0 false
    exact fin_find d1 rfl rfl rfl ((d2.block D (Array.getElem?_eq_some_iff.1 hK).1 (by omega)).trans hK) (by omega) (Nat.le_trans (by omega) d2.size)
  case stop =>
    rintro D c pre W hD - ⟨rfl, hsz, v, f, hfo, hF⟩ - hK
    have e9 := HZ.out.symm.trans hfo
    simp only [Prod.mk.injEq] at e9
    obtain ⟨rfl, rfl, rfl⟩ := e9
    have HFIN := Veil.mk (And.intro hF (And.intro hsz hK))
    clear hF hsz hK hfo H hb2 bh br hF0 hF2 HZ
    gi_wp2
    obtain ⟨hF, hsz, hK⟩ := HFIN.out
    exact fin_find hF rfl rfl rfl hK (by omega) (by omega)
end Go.Proofs.YtgdkjkfbknbgkaaGreatDoor
namespace Go.Proofs.YtgdkjkfbknbgkaaGreatDoor
open Go Go.RowKit

set_option maxHeartbeats 2000000 in
set_option maxRecDepth 100000 in
theorem part_any (W : World) (m h o : Nat) (v key x : Vt) (fl : Int) (bl : Bool) (nm : ByteArray) (hm : W.cell? ⟨m, 0, none⟩ = some (.pointer (some ⟨h, 0, none⟩))) (hml : m < W.heap.size) (h9 : v.1 = 9)
    (HSO : Veil (∀ W', Below W.heap.size W W' → Calls Tryz.prog 82 #[.pointer (some ⟨m, 0, none⟩), valV v] W' fun e w' => e = .returned (.pointer (some ⟨o, 0, none⟩)) ∧ Below W'.heap.size W' w'))
    (HVL : Veil (∀ W', Calls Tryz.prog 23 #[.string nm] W' fun e w' => e = .returned (valV key) ∧ Below W'.heap.size W' w'))
    (HFD : Veil (∀ W', Below W.heap.size W W' → Calls Tryz.prog 83 #[.pointer (some ⟨h, 0, none⟩), .int .i64 v.2.1, valV key] W' fun e w' => e = .returned (.tuple #[valV x, .int .i64 fl, .bool bl]) ∧ Below W'.heap.size W' w')) :
    Calls Tryz.prog 44 #[.pointer (some ⟨m, 0, none⟩), valV v, .string nm] W fun e w' => e = .returned (valV x) ∧ Below W.heap.size W w' := by
  have HRF := Veil.mk (fun W' => ref_9 v h9 W')
  have b1 := (Box.new W 30 #[.int .i64 v.1, .int .i64 v.2.1, .string v.2.2]).more (.cells #[.int .i64 0, .int .i64 0, .string ⟨#[]⟩] 30)
  have b2 := Box.new (W.alloc (.cells #[.int .i64 v.1, .int .i64 v.2.1, .string v.2.2] 30)) 30 #[.int .i64 0, .int .i64 0, .string ⟨#[]⟩]
  have bb : Below W.heap.size W ((W.alloc (.cells #[.int .i64 v.1, .int .i64 v.2.1, .string v.2.2] 30)).alloc (.cells #[.int .i64 0, .int .i64 0, .string ⟨#[]⟩] 30)) := ((Below.refl _ _).alloc (Nat.le_refl _) _).alloc (by rw [World.size_alloc]; omega) _
  rw [World.size_alloc] at b2
  obtain ⟨kb, hkb⟩ : ∃ kb, W.heap.size = kb := ⟨_, rfl⟩
  obtain ⟨rb, hrb⟩ : ∃ rb, kb + 1 = rb := ⟨_, rfl⟩
  obtain ⟨W0, hW0⟩ : ∃ W0, (W.alloc (.cells #[.int .i64 v.1, .int .i64 v.2.1, .string v.2.2] 30)).alloc (.cells #[.int .i64 0, .int .i64 0, .string ⟨#[]⟩] 30) = W0 := ⟨_, rfl⟩
  rw [hW0] at b1 b2 bb
  have HW0 := Veil.mk (And.intro hW0 (And.intro hkb hrb))
  have HRL : Veil (W.heap.size ≤ rb) := ⟨by omega⟩
  rw [hkb] at b1 b2
  rw [hrb] at b2
  have HBB := Veil.mk (And.intro bb (And.intro b1 b2))
  have HSO0 := Veil.mk (HSO.out W0 bb)
  have hm0 : W0.cell? ⟨m, 0, none⟩ = some (.pointer (some ⟨h, 0, none⟩)) := by rw [bb.cell (p := ⟨m, 0, none⟩) hml]; exact hm
  have HM0 := Veil.mk (And.intro hm0 (Nat.lt_of_lt_of_le hml bb.size))
  have x0 : W0.cell? ⟨kb, 0, none⟩ = some (.int .i64 v.1) := b1.at_ 0
  have x1 : W0.cell? ⟨kb, 1, none⟩ = some (.int .i64 v.2.1) := b1.at_ 1
  have x2 : W0.cell? ⟨kb, 2, none⟩ = some (.string v.2.2) := b1.at_ 2
  clear hW0 hkb hrb b1 b2 bb hm0 hm hml h9 HSO
  go_enter Tryz.func44, Tryz.ntmps44
  go_upto_region 1 with (fail)
  rw [HW0.out.1, HW0.out.2.1, HW0.out.2.2]
  go_upto_region 3 with (go_at_call 82; ((with_reducible refine HSO0.out.mono ?_); rintro e w4 ⟨rfl, hb4⟩; have HB4 := Veil.mk hb4; clear hb4))
  have HBF : Veil (Below W.heap.size W w4) := ⟨HBB.out.1.trans (HB4.out.mono HBB.out.1.size)⟩
  have HBX : Veil (Box w4 kb 30 #[.int .i64 v.1, .int .i64 v.2.1, .string v.2.2] ∧ Box w4 rb 30 #[.int .i64 0, .int .i64 0, .string ⟨#[]⟩]) := ⟨HBB.out.2.1.below HB4.out, HBB.out.2.2.below HB4.out⟩
  have HC : Veil ((∀ W, Below w4.heap.size w4 W → W.cell? ⟨m, 0, none⟩ = some (.pointer (some ⟨h, 0, none⟩))) ∧ ∀ W, Below w4.heap.size w4 W → W.cell? ⟨kb, 0, none⟩ = some (.int .i64 v.1) ∧ W.cell? ⟨kb, 1, none⟩ = some (.int .i64 v.2.1) ∧ W.cell? ⟨kb, 2, none⟩ = some (.string v.2.2)) := ⟨fun W hb => by
      have hb9 := HB4.out.trans (hb.mono HB4.out.size)
      rw [hb9.cell (p := ⟨m, 0, none⟩) HM0.out.2]
      exact HM0.out.1, fun W hb => ⟨(HBX.out.1.below hb).at_ 0, (HBX.out.1.below hb).at_ 1, (HBX.out.1.below hb).at_ 2⟩⟩
  clear x0 x1 x2 HSO0
  refine wp_region_gen (.val (· = .pointer (some ⟨m, 0, none⟩)) :: .val (· = .pointer (some ⟨m, 0, none⟩)) :: .val (· = .pointer (some ⟨m, 0, none⟩)) :: .val (· = .pointer (some ⟨h, 0, none⟩)) :: .val (· = valV v) :: .val (· = .int .i64 v.2.1) :: .val (· = .string nm) :: .val (· = valV key) :: .val (· = (.tuple #[valV x, .int .i64 fl, .bool bl])) :: .val (· = (.tuple #[valV x, .int .i64 fl, .bool bl])) :: .val (· = valV x) :: .val (· = .int .i64 fl) :: .val (· = .bool bl) :: .box 30 #[.int .i64 0, .int .i64 0, .string ⟨#[]⟩] 14 10 :: .sto 13 10 :: .val (· = .int .i64 fl) :: .val (· = .bool bl) :: [] : List Kd) [some 16, some 17, some 18, some 19, some 20, some 21, some 22, some 23, some 24, some 15, some 25, some 26, some 27, some 7, none, some 8, some 9] (curV' _ [some 16, some 17, some 18, some 19, some 20, some 21, some 22, some 23, some 24, some 15, some 25, some 26, some 27, some 7, none, some 8, some 9]) (by kernel_rfl) rfl rfl (puts_cur _ _) ?_ (by kernel_rfl) ?_
  · refine Steps.cons rfl (fun bb aa w' hbs hb0 hbp hI K hK => ?_) ?_
    · obtain ⟨us, hus, ha, hI⟩ := hI
      obtain ⟨u0, u1, u2, u3, u4, u5, u6, u7, u8, u9, u10, u11, u12, u13, u14, u15, u16, rfl⟩ := lenA17 hus
      have HI := Veil.mk hI
      clear hI
      rw [ha]
      simp only [puts, setAll, List.setIfInBounds_toArray, List.set_cons_zero, List.set_cons_succ]
      go_simp
      exact hK _ _ (gen_val HI.out hus hbs 0 _ _ (by show 0 < 17; decide) (fit_of rfl) rfl hb0 rfl (Below.refl _ _) (by simp only [puts, setAll, List.set_cons_zero, List.set_cons_succ, List.setIfInBounds_toArray]))
    refine Steps.cons rfl (fun bb aa w' hbs hb0 hbp hI K hK => ?_) ?_
    · obtain ⟨us, hus, ha, hI⟩ := hI
      obtain ⟨u0, u1, u2, u3, u4, u5, u6, u7, u8, u9, u10, u11, u12, u13, u14, u15, u16, rfl⟩ := lenA17 hus
      have e0 : u0 = .pointer (some ⟨m, 0, none⟩) := hI.val 0 _ rfl (gen_after 0 (by kernel_rfl) hbp)
      subst e0
      have HI := Veil.mk hI
      clear hI
      rw [ha]
      simp only [puts, setAll, List.setIfInBounds_toArray, List.set_cons_zero, List.set_cons_succ]
      go_simp
      exact hK _ _ (gen_val HI.out hus hbs 1 _ _ (by show 1 < 17; decide) (fit_of rfl) rfl hb0 rfl (Below.refl _ _) (by simp only [puts, setAll, List.set_cons_zero, List.set_cons_succ, List.setIfInBounds_toArray]))
    refine Steps.cons rfl (fun bb aa w' hbs hb0 hbp hI K hK => ?_) ?_
    · obtain ⟨us, hus, ha, hI⟩ := hI
      obtain ⟨u0, u1, u2, u3, u4, u5, u6, u7, u8, u9, u10, u11, u12, u13, u14, u15, u16, rfl⟩ := lenA17 hus
      have e1 : u1 = .pointer (some ⟨m, 0, none⟩) := hI.val 1 _ rfl (gen_after 1 (by kernel_rfl) hbp)
      subst e1
      have HI := Veil.mk hI
      clear hI
      rw [ha]
      simp only [puts, setAll, List.setIfInBounds_toArray, List.set_cons_zero, List.set_cons_succ]
      go_simp
      exact hK _ _ (gen_val HI.out hus hbs 2 _ _ (by show 2 < 17; decide) (fit_of rfl) rfl hb0 rfl (Below.refl _ _) (by simp only [puts, setAll, List.set_cons_zero, List.set_cons_succ, List.setIfInBounds_toArray]))
    refine Steps.cons rfl (fun bb aa w' hbs hb0 hbp hI K hK => ?_) ?_
    · obtain ⟨us, hus, ha, hI⟩ := hI
      obtain ⟨u0, u1, u2, u3, u4, u5, u6, u7, u8, u9, u10, u11, u12, u13, u14, u15, u16, rfl⟩ := lenA17 hus
      have e2 : u2 = .pointer (some ⟨m, 0, none⟩) := hI.val 2 _ rfl (gen_after 2 (by kernel_rfl) hbp)
      subst e2
      have hch := hI.below
      have c0 := HC.out.1 w' hch
      clear hch
      have HI := Veil.mk hI
      clear hI
      rw [ha]
      simp only [puts, setAll, List.setIfInBounds_toArray, List.set_cons_zero, List.set_cons_succ]
      go_simp
      exact hK _ _ (gen_val HI.out hus hbs 3 _ _ (by show 3 < 17; decide) (fit_of rfl) rfl hb0 rfl (Below.refl _ _) (by simp only [puts, setAll, List.set_cons_zero, List.set_cons_succ, List.setIfInBounds_toArray]))
    refine Steps.cons rfl (fun bb aa w' hbs hb0 hbp hI K hK => ?_) ?_
    · obtain ⟨us, hus, ha, hI⟩ := hI
      obtain ⟨u0, u1, u2, u3, u4, u5, u6, u7, u8, u9, u10, u11, u12, u13, u14, u15, u16, rfl⟩ := lenA17 hus
      have hch := hI.below
      obtain ⟨c0, c1, c2⟩ := HC.out.2 w' hch
      clear hch
      have HI := Veil.mk hI
      clear hI
      rw [ha]
      simp only [puts, setAll, List.setIfInBounds_toArray, List.set_cons_zero, List.set_cons_succ]
      go_simp
      exact hK _ _ (gen_val HI.out hus hbs 4 _ _ (by show 4 < 17; decide) (fit_of rfl) rfl hb0 rfl (Below.refl _ _) (by simp only [puts, setAll, List.set_cons_zero, List.set_cons_succ, List.setIfInBounds_toArray]))
    refine Steps.cons rfl (fun bb aa w' hbs hb0 hbp hI K hK => ?_) ?_
    · obtain ⟨us, hus, ha, hI⟩ := hI
      obtain ⟨u0, u1, u2, u3, u4, u5, u6, u7, u8, u9, u10, u11, u12, u13, u14, u15, u16, rfl⟩ := lenA17 hus
      have e4 : u4 = valV v := hI.val 4 _ rfl (gen_after 4 (by kernel_rfl) hbp)
      subst e4
      have hch := hI.below
      have HX9 := Veil.mk (HRF.out w')
      clear hch
      have HI := Veil.mk hI
      clear hI
      rw [ha]
      simp only [puts, setAll, List.setIfInBounds_toArray, List.set_cons_zero, List.set_cons_succ]
      go_simp
      go_at_call 48
      refine HX9.out.mono ?_
      rintro e9 w9 ⟨rfl, hb9⟩
      go_simp
      exact hK _ _ (gen_val HI.out hus hbs 5 _ _ (by show 5 < 17; decide) (fit_of rfl) rfl hb0 rfl hb9 (by simp only [puts, setAll, List.set_cons_zero, List.set_cons_succ, List.setIfInBounds_toArray]))
    refine Steps.cons rfl (fun bb aa w' hbs hb0 hbp hI K hK => ?_) ?_
    · obtain ⟨us, hus, ha, hI⟩ := hI
      obtain ⟨u0, u1, u2, u3, u4, u5, u6, u7, u8, u9, u10, u11, u12, u13, u14, u15, u16, rfl⟩ := lenA17 hus
      have HI := Veil.mk hI
      clear hI
      rw [ha]
      simp only [puts, setAll, List.setIfInBounds_toArray, List.set_cons_zero, List.set_cons_succ]
      go_simp
      exact hK _ _ (gen_val HI.out hus hbs 6 _ _ (by show 6 < 17; decide) (fit_of rfl) rfl hb0 rfl (Below.refl _ _) (by simp only [puts, setAll, List.set_cons_zero, List.set_cons_succ, List.setIfInBounds_toArray]))
    refine Steps.cons rfl (fun bb aa w' hbs hb0 hbp hI K hK => ?_) ?_
    · obtain ⟨us, hus, ha, hI⟩ := hI
      obtain ⟨u0, u1, u2, u3, u4, u5, u6, u7, u8, u9, u10, u11, u12, u13, u14, u15, u16, rfl⟩ := lenA17 hus
      have e6 : u6 = .string nm := hI.val 6 _ rfl (gen_after 6 (by kernel_rfl) hbp)
      subst e6
      have hch := hI.below
      have HX9 := Veil.mk (HVL.out w')
      clear hch
      have HI := Veil.mk hI
      clear hI
      rw [ha]
      simp only [puts, setAll, List.setIfInBounds_toArray, List.set_cons_zero, List.set_cons_succ]
      go_simp
      go_at_call 23
      refine HX9.out.mono ?_
      rintro e9 w9 ⟨rfl, hb9⟩
      go_simp
      exact hK _ _ (gen_val HI.out hus hbs 7 _ _ (by show 7 < 17; decide) (fit_of rfl) rfl hb0 rfl hb9 (by simp only [puts, setAll, List.set_cons_zero, List.set_cons_succ, List.setIfInBounds_toArray]))
    refine Steps.cons rfl (fun bb aa w' hbs hb0 hbp hI K hK => ?_) ?_
    · obtain ⟨us, hus, ha, hI⟩ := hI
      obtain ⟨u0, u1, u2, u3, u4, u5, u6, u7, u8, u9, u10, u11, u12, u13, u14, u15, u16, rfl⟩ := lenA17 hus
      have e3 : u3 = .pointer (some ⟨h, 0, none⟩) := hI.val 3 _ rfl (gen_after 3 (by kernel_rfl) hbp)
      subst e3
      have e5 : u5 = .int .i64 v.2.1 := hI.val 5 _ rfl (gen_after 5 (by kernel_rfl) hbp)
      subst e5
      have e7 : u7 = valV key := hI.val 7 _ rfl (gen_after 7 (by kernel_rfl) hbp)
      subst e7
      have hch := hI.below
      have HX9 := Veil.mk (HFD.out w' (HBF.out.trans (hch.mono HBF.out.size)))
      clear hch
      have HI := Veil.mk hI
      clear hI
      rw [ha]
      simp only [puts, setAll, List.setIfInBounds_toArray, List.set_cons_zero, List.set_cons_succ]
      go_simp
      go_at_call 83
      refine HX9.out.mono ?_
      rintro e9 w9 ⟨rfl, hb9⟩
      go_simp
      exact hK _ _ (gen_val HI.out hus hbs 8 _ _ (by show 8 < 17; decide) (fit_of rfl) rfl hb0 rfl hb9 (by simp only [puts, setAll, List.set_cons_zero, List.set_cons_succ, List.setIfInBounds_toArray]))
    refine Steps.cons rfl (fun bb aa w' hbs hb0 hbp hI K hK => ?_) ?_
    · obtain ⟨us, hus, ha, hI⟩ := hI
      obtain ⟨u0, u1, u2, u3, u4, u5, u6, u7, u8, u9, u10, u11, u12, u13, u14, u15, u16, rfl⟩ := lenA17 hus
      have e8 : u8 = (.tuple #[valV x, .int .i64 fl, .bool bl]) := hI.val 8 _ rfl (gen_after 8 (by kernel_rfl) hbp)
      subst e8
      have HI := Veil.mk hI
      clear hI
      rw [ha]
      simp only [puts, setAll, List.setIfInBounds_toArray, List.set_cons_zero, List.set_cons_succ]
      go_simp
      exact hK _ _ (gen_val HI.out hus hbs 9 _ _ (by show 9 < 17; decide) (fit_of rfl) rfl hb0 rfl (Below.refl _ _) (by simp only [puts, setAll, List.set_cons_zero, List.set_cons_succ, List.setIfInBounds_toArray]))
    refine Steps.cons rfl (fun bb aa w' hbs hb0 hbp hI K hK => ?_) ?_
    · obtain ⟨us, hus, ha, hI⟩ := hI
      obtain ⟨u0, u1, u2, u3, u4, u5, u6, u7, u8, u9, u10, u11, u12, u13, u14, u15, u16, rfl⟩ := lenA17 hus
      have e9 : u9 = (.tuple #[valV x, .int .i64 fl, .bool bl]) := hI.val 9 _ rfl (gen_after 9 (by kernel_rfl) hbp)
      subst e9
      have HI := Veil.mk hI
      clear hI
      rw [ha]
      simp only [puts, setAll, List.setIfInBounds_toArray, List.set_cons_zero, List.set_cons_succ]
      go_simp
      exact hK _ _ (gen_val HI.out hus hbs 10 _ _ (by show 10 < 17; decide) (fit_of rfl) rfl hb0 rfl (Below.refl _ _) (by simp only [puts, setAll, List.set_cons_zero, List.set_cons_succ, List.setIfInBounds_toArray]))
    refine Steps.cons rfl (fun bb aa w' hbs hb0 hbp hI K hK => ?_) ?_
    · obtain ⟨us, hus, ha, hI⟩ := hI
      obtain ⟨u0, u1, u2, u3, u4, u5, u6, u7, u8, u9, u10, u11, u12, u13, u14, u15, u16, rfl⟩ := lenA17 hus
      have e9 : u9 = (.tuple #[valV x, .int .i64 fl, .bool bl]) := hI.val 9 _ rfl (gen_after 9 (by kernel_rfl) hbp)
      subst e9
      have HI := Veil.mk hI
      clear hI
      rw [ha]
      simp only [puts, setAll, List.setIfInBounds_toArray, List.set_cons_zero, List.set_cons_succ]
      go_simp
      exact hK _ _ (gen_val HI.out hus hbs 11 _ _ (by show 11 < 17; decide) (fit_of rfl) rfl hb0 rfl (Below.refl _ _) (by simp only [puts, setAll, List.set_cons_zero, List.set_cons_succ, List.setIfInBounds_toArray]))
    refine Steps.cons rfl (fun bb aa w' hbs hb0 hbp hI K hK => ?_) ?_
    · obtain ⟨us, hus, ha, hI⟩ := hI
      obtain ⟨u0, u1, u2, u3, u4, u5, u6, u7, u8, u9, u10, u11, u12, u13, u14, u15, u16, rfl⟩ := lenA17 hus
      have e9 : u9 = (.tuple #[valV x, .int .i64 fl, .bool bl]) := hI.val 9 _ rfl (gen_after 9 (by kernel_rfl) hbp)
      subst e9
      have HI := Veil.mk hI
      clear hI
      rw [ha]
      simp only [puts, setAll, List.setIfInBounds_toArray, List.set_cons_zero, List.set_cons_succ]
      go_simp
      exact hK _ _ (gen_val HI.out hus hbs 12 _ _ (by show 12 < 17; decide) (fit_of rfl) rfl hb0 rfl (Below.refl _ _) (by simp only [puts, setAll, List.set_cons_zero, List.set_cons_succ, List.setIfInBounds_toArray]))
    refine Steps.cons rfl (fun bb aa w' hbs hb0 hbp hI K hK => ?_) ?_
    · obtain ⟨us, hus, ha, hI⟩ := hI
      obtain ⟨u0, u1, u2, u3, u4, u5, u6, u7, u8, u9, u10, u11, u12, u13, u14, u15, u16, rfl⟩ := lenA17 hus
      have HI := Veil.mk hI
      clear hI
      rw [ha]
      simp only [puts, setAll, List.setIfInBounds_toArray, List.set_cons_zero, List.set_cons_succ]
      go_simp
      exact hK _ _ (gen_box HI.out hus hbs 13 _ _ _ _ (by show 13 < 17; decide) (fit_of rfl) rfl hb0 (by simp only [puts, setAll, List.set_cons_zero, List.set_cons_succ, List.setIfInBounds_toArray]))
    refine Steps.cons rfl (fun bb aa w' hbs hb0 hbp hI K hK => ?_) ?_
    · obtain ⟨us, hus, ha, hI⟩ := hI
      obtain ⟨u0, u1, u2, u3, u4, u5, u6, u7, u8, u9, u10, u11, u12, u13, u14, u15, u16, rfl⟩ := lenA17 hus
      have hq1 := gen_after 13 (by kernel_rfl) hbp
      have hq2 := gen_after 10 (by kernel_rfl) hbp
      have e10 : u10 = valV x := hI.val 10 _ rfl hq2
      subst e10
      have hq := gen_sto hI hus hbs 14 13 10 _ _ (by show 14 < 17; decide) (fit_of rfl) rfl rfl hb0 hq1 hq2
      have HA9 := Veil.mk ha
      clear hI ha
      obtain ⟨g, hg, hx, hJ⟩ := hq
      have e13 : u13 = .pointer (some ⟨g, 0, none⟩) := hg
      subst e13
      clear hg
      have x0 : w'.cell? ⟨g, 0, none⟩ = some (.int .i64 0) := hx.at_ 0
      have x1 : w'.cell? ⟨g, 1, none⟩ = some (.int .i64 0) := hx.at_ 1
      have x2 : w'.cell? ⟨g, 2, none⟩ = some (.string ⟨#[]⟩) := hx.at_ 2
      have f0 := hx.free 0
      have f1 := hx.free 1
      have f2 := hx.free 2
      have HJ := Veil.mk hJ
      have HX := Veil.mk hx
      clear hJ hx
      rw [HA9.out]
      simp only [puts, setAll, List.setIfInBounds_toArray, List.set_cons_zero, List.set_cons_succ]
      go_simp
      exact hK _ _ (HJ.out _ _ _ _ (((HX.out.put 0 _).put 1 _).put 2 _) (touch3 _ _ _ _ _) (by simp only [puts, setAll, List.set_cons_zero, List.set_cons_succ, List.setIfInBounds_toArray]))
    refine Steps.cons rfl (fun bb aa w' hbs hb0 hbp hI K hK => ?_) ?_
    · obtain ⟨us, hus, ha, hI⟩ := hI
      obtain ⟨u0, u1, u2, u3, u4, u5, u6, u7, u8, u9, u10, u11, u12, u13, u14, u15, u16, rfl⟩ := lenA17 hus
      have e11 : u11 = .int .i64 fl := hI.val 11 _ rfl (gen_after 11 (by kernel_rfl) hbp)
      subst e11
      have HI := Veil.mk hI
      clear hI
      rw [ha]
      simp only [puts, setAll, List.setIfInBounds_toArray, List.set_cons_zero, List.set_cons_succ]
      go_simp
      exact hK _ _ (gen_val HI.out hus hbs 15 _ _ (by show 15 < 17; decide) (fit_of rfl) rfl hb0 rfl (Below.refl _ _) (by simp only [puts, setAll, List.set_cons_zero, List.set_cons_succ, List.setIfInBounds_toArray]))
    refine Steps.cons rfl (fun bb aa w' hbs hb0 hbp hI K hK => ?_) ?_
    · obtain ⟨us, hus, ha, hI⟩ := hI
      obtain ⟨u0, u1, u2, u3, u4, u5, u6, u7, u8, u9, u10, u11, u12, u13, u14, u15, u16, rfl⟩ := lenA17 hus
      have e12 : u12 = .bool bl := hI.val 12 _ rfl (gen_after 12 (by kernel_rfl) hbp)
      subst e12
      have HI := Veil.mk hI
      clear hI
      rw [ha]
      simp only [puts, setAll, List.setIfInBounds_toArray, List.set_cons_zero, List.set_cons_succ]
      go_simp
      exact hK _ _ (gen_val HI.out hus hbs 16 _ _ (by show 16 < 17; decide) (fit_of rfl) rfl hb0 rfl (Below.refl _ _) (by simp only [puts, setAll, List.set_cons_zero, List.set_cons_succ, List.setIfInBounds_toArray]))
    exact Steps.nil
  · intro us wE hus dd hD2 hJ
    obtain ⟨p0, p1, p2, p3, p4, p5, p6, p7, p8, p9, p10, p11, p12, p13, p14, p15, p16, rfl⟩ := lenA17 hus
    have hbE := hJ.below
    have e0 : p0 = .pointer (some ⟨m, 0, none⟩) := hJ.val 0 _ rfl (hD2 0 (by show 0 < 17; decide))
    subst e0
    have e1 : p1 = .pointer (some ⟨m, 0, none⟩) := hJ.val 1 _ rfl (hD2 1 (by show 1 < 17; decide))
    subst e1
    have e2 : p2 = .pointer (some ⟨m, 0, none⟩) := hJ.val 2 _ rfl (hD2 2 (by show 2 < 17; decide))
    subst e2
    have e3 : p3 = .pointer (some ⟨h, 0, none⟩) := hJ.val 3 _ rfl (hD2 3 (by show 3 < 17; decide))
    subst e3
    have e4 : p4 = valV v := hJ.val 4 _ rfl (hD2 4 (by show 4 < 17; decide))
    subst e4
    have e5 : p5 = .int .i64 v.2.1 := hJ.val 5 _ rfl (hD2 5 (by show 5 < 17; decide))
    subst e5
    have e6 : p6 = .string nm := hJ.val 6 _ rfl (hD2 6 (by show 6 < 17; decide))
    subst e6
    have e7 : p7 = valV key := hJ.val 7 _ rfl (hD2 7 (by show 7 < 17; decide))
    subst e7
    have e8 : p8 = (.tuple #[valV x, .int .i64 fl, .bool bl]) := hJ.val 8 _ rfl (hD2 8 (by show 8 < 17; decide))
    subst e8
    have e9 : p9 = (.tuple #[valV x, .int .i64 fl, .bool bl]) := hJ.val 9 _ rfl (hD2 9 (by show 9 < 17; decide))
    subst e9
    have e10 : p10 = valV x := hJ.val 10 _ rfl (hD2 10 (by show 10 < 17; decide))
    subst e10
    have e11 : p11 = .int .i64 fl := hJ.val 11 _ rfl (hD2 11 (by show 11 < 17; decide))
    subst e11
    have e12 : p12 = .bool bl := hJ.val 12 _ rfl (hD2 12 (by show 12 < 17; decide))
    subst e12
    have e15 : p15 = .int .i64 fl := hJ.val 15 _ rfl (hD2 15 (by show 15 < 17; decide))
    subst e15
    have e16 : p16 = .bool bl := hJ.val 16 _ rfl (hD2 16 (by show 16 < 17; decide))
    subst e16
    obtain ⟨g13, hg13, hlo13, hbx13⟩ := hJ.box 13 _ _ _ _ rfl (hD2 13 (by show 13 < 17; decide))
    rw [hD2 14 (by show 14 < 17; decide)] at hbx13
    replace hg13 : p13 = .pointer (some ⟨g13, 0, none⟩) := hg13
    subst hg13
    replace hbx13 : Box wE g13 30 (flat (valV x)) := hbx13
    clear hJ hD2
    have HE := Veil.mk (And.intro hbE hbx13)
    have HRB := Veil.mk (HBX.out.2.below hbE)
    have d0 : wE.cell? ⟨g13, 0, none⟩ = some (.int .i64 x.1) := hbx13.at_ 0
    have d1 : wE.cell? ⟨g13, 1, none⟩ = some (.int .i64 x.2.1) := hbx13.at_ 1
    have d2 : wE.cell? ⟨g13, 2, none⟩ = some (.string x.2.2) := hbx13.at_ 2
    have z0 : wE.cell? ⟨rb, 0, none⟩ = some (.int .i64 0) := HRB.out.at_ 0
    have z1 : wE.cell? ⟨rb, 1, none⟩ = some (.int .i64 0) := HRB.out.at_ 1
    have z2 : wE.cell? ⟨rb, 2, none⟩ = some (.string ⟨#[]⟩) := HRB.out.at_ 2
    have q0 := HRB.out.free 0
    have q1 := HRB.out.free 1
    have q2 := HRB.out.free 2
    clear hbE hbx13 hlo13
    simp only [puts, setAll, List.setIfInBounds_toArray, List.set_cons_zero, List.set_cons_succ]
    go_wp2
    have hr6 := ((HRB.out.put 0 (.int .i64 x.1)).put 1 (.int .i64 x.2.1)).put 2 (.string x.2.2)
    have y0 := hr6.at_ 0
    have y1 := hr6.at_ 1
    have y2 := hr6.at_ 2
    have hbW := HBF.out.trans (HE.out.1.mono HBF.out.size)
    have hrb : W.heap.size ≤ rb := HRL.out
    refine bodyPost_ret (v := valV x) (by simp [results, Tryz.results44, go_sem, y0, y1, y2]) rfl ⟨rfl, ((hbW.setCell (p := ⟨rb, 0, none⟩) hrb _).setCell (p := ⟨rb, 1, none⟩) hrb _).setCell (p := ⟨rb, 2, none⟩) hrb _⟩
end Go.Proofs.YtgdkjkfbknbgkaaGreatDoor
namespace Go.Proofs.YtgdkjkfbknbgkaaGreatDoor
open Go Go.RowKit

theorem val_empty (w : World) : Calls Tryz.prog 23 #[.string ⟨#[]⟩] w fun e w' => e = .returned (valV (7, 0, ⟨#[]⟩)) ∧ Below w.heap.size w w' :=
  W.val_const _ [] (by decide) (show Hid _ from (by decide +kernel : W.ofB ⟨#[]⟩ = [])) w
set_option maxHeartbeats 4000000 in
set_option maxRecDepth 100000 in
theorem woe_any (W : World) (m : Nat) (v x : Vt) (sy : ByteArray) (be : Bool) (hbe : (sy.toList == []) = be) (r1 r2 : ByteArray) (hz : r1.size ≤ 1000000000 ∧ r2.size ≤ 1000000000)
    (HP1 : Veil (∀ W', Below W.heap.size W W' → Calls Tryz.prog 44 #[.pointer (some ⟨m, 0, none⟩), valV v, .string ⟨#[110, 97, 109, 101]⟩] W' fun e w' => e = .returned (valV x) ∧ Below W'.heap.size W' w'))
    (HP2 : Veil (∀ W', Below W.heap.size W W' → Calls Tryz.prog 44 #[.pointer (some ⟨m, 0, none⟩), valV v, .string ⟨#[109, 101, 115, 115, 97, 103, 101]⟩] W' fun e w' => e = .returned (valV (7, 0, sy)) ∧ Below W'.heap.size W' w'))
    (HB1 : Veil (∀ W', Below W.heap.size W W' → Calls Tryz.prog 45 #[.pointer (some ⟨m, 0, none⟩), valV x] W' fun e w' => e = .returned (.string r1) ∧ Below W'.heap.size W' w'))
    (HB2 : Veil (∀ W', Below W.heap.size W W' → Calls Tryz.prog 45 #[.pointer (some ⟨m, 0, none⟩), valV (7, 0, sy)] W' fun e w' => e = .returned (.string r2) ∧ Below W'.heap.size W' w')) :
    Calls Tryz.prog 17 #[.pointer (some ⟨m, 0, none⟩), valV v] W fun e w' => e = .returned (.string (if be then r1 else r1 ++ ⟨#[58, 32]⟩ ++ r2)) ∧ Below W.heap.size W w' := by
  have HBEQ := Veil.mk hbe
  have HZ := Veil.mk hz
  clear hbe hz
  have b1 := Box.new W 30 #[.int .i64 v.1, .int .i64 v.2.1, .string v.2.2]
  have bb : Below W.heap.size W (W.alloc (.cells #[.int .i64 v.1, .int .i64 v.2.1, .string v.2.2] 30)) := (Below.refl _ _).alloc (Nat.le_refl _) _
  obtain ⟨kb, hkb⟩ : ∃ kb, W.heap.size = kb := ⟨_, rfl⟩
  obtain ⟨W0, hW0⟩ : ∃ W0, W.alloc (.cells #[.int .i64 v.1, .int .i64 v.2.1, .string v.2.2] 30) = W0 := ⟨_, rfl⟩
  rw [hW0] at b1 bb
  have HW0 := Veil.mk (And.intro hW0 hkb)
  rw [hkb] at b1
  have HBB := Veil.mk (And.intro bb b1)
  have x0 : W0.cell? ⟨kb, 0, none⟩ = some (.int .i64 v.1) := b1.at_ 0
  have x1 : W0.cell? ⟨kb, 1, none⟩ = some (.int .i64 v.2.1) := b1.at_ 1
  have x2 : W0.cell? ⟨kb, 2, none⟩ = some (.string v.2.2) := b1.at_ 2
  clear hW0 hkb b1 bb
  have HC : Veil (∀ W, Below W0.heap.size W0 W → W.cell? ⟨kb, 0, none⟩ = some (.int .i64 v.1) ∧ W.cell? ⟨kb, 1, none⟩ = some (.int .i64 v.2.1) ∧ W.cell? ⟨kb, 2, none⟩ = some (.string v.2.2)) := ⟨fun W hb => ⟨(HBB.out.2.below hb).at_ 0, (HBB.out.2.below hb).at_ 1, (HBB.out.2.below hb).at_ 2⟩⟩
  clear x0 x1 x2
  go_enter Tryz.func17, Tryz.ntmps17
  go_upto_region 1 with (fail)
  rw [HW0.out.1, HW0.out.2]
  refine wp_region_gen (.val (· = .pointer (some ⟨m, 0, none⟩)) :: .val (· = valV v) :: .val (· = valV x) :: .val (· = .pointer (some ⟨m, 0, none⟩)) :: .val (· = valV v) :: .val (· = valV (7, 0, sy)) :: .box 30 #[.int .i64 0, .int .i64 0, .string ⟨#[]⟩] 8 2 :: .box 30 #[.int .i64 0, .int .i64 0, .string ⟨#[]⟩] 9 5 :: .sto 6 2 :: .sto 7 5 :: [] : List Kd) [some 7, some 8, some 9, some 10, some 11, some 12, some 5, some 6, none, none] (curV' _ [some 7, some 8, some 9, some 10, some 11, some 12, some 5, some 6, none, none]) (by kernel_rfl) rfl rfl (puts_cur _ _) ?_ (by kernel_rfl) ?_
  · refine Steps.cons rfl (fun bb aa w' hbs hb0 hbp hI K hK => ?_) ?_
    · obtain ⟨us, hus, ha, hI⟩ := hI
      obtain ⟨u0, u1, u2, u3, u4, u5, u6, u7, u8, u9, rfl⟩ := lenA10 hus
      have HI := Veil.mk hI
      clear hI
      rw [ha]
      simp only [puts, setAll, List.setIfInBounds_toArray, List.set_cons_zero, List.set_cons_succ]
      go_simp
      exact hK _ _ (gen_val HI.out hus hbs 0 _ _ (by show 0 < 10; decide) (fit_of rfl) rfl hb0 rfl (Below.refl _ _) (by simp only [puts, setAll, List.set_cons_zero, List.set_cons_succ, List.setIfInBounds_toArray]))
    refine Steps.cons rfl (fun bb aa w' hbs hb0 hbp hI K hK => ?_) ?_
    · obtain ⟨us, hus, ha, hI⟩ := hI
      obtain ⟨u0, u1, u2, u3, u4, u5, u6, u7, u8, u9, rfl⟩ := lenA10 hus
      have hch := hI.below
      obtain ⟨c0, c1, c2⟩ := HC.out w' hch
      clear hch
      have HI := Veil.mk hI
      clear hI
      rw [ha]
      simp only [puts, setAll, List.setIfInBounds_toArray, List.set_cons_zero, List.set_cons_succ]
      go_simp
      exact hK _ _ (gen_val HI.out hus hbs 1 _ _ (by show 1 < 10; decide) (fit_of rfl) rfl hb0 rfl (Below.refl _ _) (by simp only [puts, setAll, List.set_cons_zero, List.set_cons_succ, List.setIfInBounds_toArray]))
    refine Steps.cons rfl (fun bb aa w' hbs hb0 hbp hI K hK => ?_) ?_
    · obtain ⟨us, hus, ha, hI⟩ := hI
      obtain ⟨u0, u1, u2, u3, u4, u5, u6, u7, u8, u9, rfl⟩ := lenA10 hus
      have e0 : u0 = .pointer (some ⟨m, 0, none⟩) := hI.val 0 _ rfl (gen_after 0 (by kernel_rfl) hbp)
      subst e0
      have e1 : u1 = valV v := hI.val 1 _ rfl (gen_after 1 (by kernel_rfl) hbp)
      subst e1
      have hch := hI.below
      have HX9 := Veil.mk (HP1.out w' (HBB.out.1.trans (hch.mono HBB.out.1.size)))
      clear hch
      have HI := Veil.mk hI
      clear hI
      rw [ha]
      simp only [puts, setAll, List.setIfInBounds_toArray, List.set_cons_zero, List.set_cons_succ]
      go_simp
      go_at_call 44
      refine HX9.out.mono ?_
      rintro e9 w9 ⟨rfl, hb9⟩
      go_simp
      exact hK _ _ (gen_val HI.out hus hbs 2 _ _ (by show 2 < 10; decide) (fit_of rfl) rfl hb0 rfl hb9 (by simp only [puts, setAll, List.set_cons_zero, List.set_cons_succ, List.setIfInBounds_toArray]))
    refine Steps.cons rfl (fun bb aa w' hbs hb0 hbp hI K hK => ?_) ?_
    · obtain ⟨us, hus, ha, hI⟩ := hI
      obtain ⟨u0, u1, u2, u3, u4, u5, u6, u7, u8, u9, rfl⟩ := lenA10 hus
      have HI := Veil.mk hI
      clear hI
      rw [ha]
      simp only [puts, setAll, List.setIfInBounds_toArray, List.set_cons_zero, List.set_cons_succ]
      go_simp
      exact hK _ _ (gen_val HI.out hus hbs 3 _ _ (by show 3 < 10; decide) (fit_of rfl) rfl hb0 rfl (Below.refl _ _) (by simp only [puts, setAll, List.set_cons_zero, List.set_cons_succ, List.setIfInBounds_toArray]))
    refine Steps.cons rfl (fun bb aa w' hbs hb0 hbp hI K hK => ?_) ?_
    · obtain ⟨us, hus, ha, hI⟩ := hI
      obtain ⟨u0, u1, u2, u3, u4, u5, u6, u7, u8, u9, rfl⟩ := lenA10 hus
      have hch := hI.below
      obtain ⟨c0, c1, c2⟩ := HC.out w' hch
      clear hch
      have HI := Veil.mk hI
      clear hI
      rw [ha]
      simp only [puts, setAll, List.setIfInBounds_toArray, List.set_cons_zero, List.set_cons_succ]
      go_simp
      exact hK _ _ (gen_val HI.out hus hbs 4 _ _ (by show 4 < 10; decide) (fit_of rfl) rfl hb0 rfl (Below.refl _ _) (by simp only [puts, setAll, List.set_cons_zero, List.set_cons_succ, List.setIfInBounds_toArray]))
    refine Steps.cons rfl (fun bb aa w' hbs hb0 hbp hI K hK => ?_) ?_
    · obtain ⟨us, hus, ha, hI⟩ := hI
      obtain ⟨u0, u1, u2, u3, u4, u5, u6, u7, u8, u9, rfl⟩ := lenA10 hus
      have e3 : u3 = .pointer (some ⟨m, 0, none⟩) := hI.val 3 _ rfl (gen_after 3 (by kernel_rfl) hbp)
      subst e3
      have e4 : u4 = valV v := hI.val 4 _ rfl (gen_after 4 (by kernel_rfl) hbp)
      subst e4
      have hch := hI.below
      have HX9 := Veil.mk (HP2.out w' (HBB.out.1.trans (hch.mono HBB.out.1.size)))
      clear hch
      have HI := Veil.mk hI
      clear hI
      rw [ha]
      simp only [puts, setAll, List.setIfInBounds_toArray, List.set_cons_zero, List.set_cons_succ]
      go_simp
      go_at_call 44
      refine HX9.out.mono ?_
      rintro e9 w9 ⟨rfl, hb9⟩
      go_simp
      exact hK _ _ (gen_val HI.out hus hbs 5 _ _ (by show 5 < 10; decide) (fit_of rfl) rfl hb0 rfl hb9 (by simp only [puts, setAll, List.set_cons_zero, List.set_cons_succ, List.setIfInBounds_toArray]))
    refine Steps.cons rfl (fun bb aa w' hbs hb0 hbp hI K hK => ?_) ?_
    · obtain ⟨us, hus, ha, hI⟩ := hI
      obtain ⟨u0, u1, u2, u3, u4, u5, u6, u7, u8, u9, rfl⟩ := lenA10 hus
      have HI := Veil.mk hI
      clear hI
      rw [ha]
      simp only [puts, setAll, List.setIfInBounds_toArray, List.set_cons_zero, List.set_cons_succ]
      go_simp
      exact hK _ _ (gen_box HI.out hus hbs 6 _ _ _ _ (by show 6 < 10; decide) (fit_of rfl) rfl hb0 (by simp only [puts, setAll, List.set_cons_zero, List.set_cons_succ, List.setIfInBounds_toArray]))
    refine Steps.cons rfl (fun bb aa w' hbs hb0 hbp hI K hK => ?_) ?_
    · obtain ⟨us, hus, ha, hI⟩ := hI
      obtain ⟨u0, u1, u2, u3, u4, u5, u6, u7, u8, u9, rfl⟩ := lenA10 hus
      have HI := Veil.mk hI
      clear hI
      rw [ha]
      simp only [puts, setAll, List.setIfInBounds_toArray, List.set_cons_zero, List.set_cons_succ]
      go_simp
      exact hK _ _ (gen_box HI.out hus hbs 7 _ _ _ _ (by show 7 < 10; decide) (fit_of rfl) rfl hb0 (by simp only [puts, setAll, List.set_cons_zero, List.set_cons_succ, List.setIfInBounds_toArray]))
    refine Steps.cons rfl (fun bb aa w' hbs hb0 hbp hI K hK => ?_) ?_
    · obtain ⟨us, hus, ha, hI⟩ := hI
      obtain ⟨u0, u1, u2, u3, u4, u5, u6, u7, u8, u9, rfl⟩ := lenA10 hus
      have hq1 := gen_after 6 (by kernel_rfl) hbp
      have hq2 := gen_after 2 (by kernel_rfl) hbp
      have e2 : u2 = valV x := hI.val 2 _ rfl hq2
      subst e2
      have hq := gen_sto hI hus hbs 8 6 2 _ _ (by show 8 < 10; decide) (fit_of rfl) rfl rfl hb0 hq1 hq2
      have HA9 := Veil.mk ha
      clear hI ha
      obtain ⟨g, hg, hx, hJ⟩ := hq
      have e6 : u6 = .pointer (some ⟨g, 0, none⟩) := hg
      subst e6
      clear hg
      have x0 : w'.cell? ⟨g, 0, none⟩ = some (.int .i64 0) := hx.at_ 0
      have x1 : w'.cell? ⟨g, 1, none⟩ = some (.int .i64 0) := hx.at_ 1
      have x2 : w'.cell? ⟨g, 2, none⟩ = some (.string ⟨#[]⟩) := hx.at_ 2
      have f0 := hx.free 0
      have f1 := hx.free 1
      have f2 := hx.free 2
      have HJ := Veil.mk hJ
      have HX := Veil.mk hx
      clear hJ hx
      rw [HA9.out]
      simp only [puts, setAll, List.setIfInBounds_toArray, List.set_cons_zero, List.set_cons_succ]
      go_simp
      exact hK _ _ (HJ.out _ _ _ _ (((HX.out.put 0 _).put 1 _).put 2 _) (touch3 _ _ _ _ _) (by simp only [puts, setAll, List.set_cons_zero, List.set_cons_succ, List.setIfInBounds_toArray]))
    refine Steps.cons rfl (fun bb aa w' hbs hb0 hbp hI K hK => ?_) ?_
    · obtain ⟨us, hus, ha, hI⟩ := hI
      obtain ⟨u0, u1, u2, u3, u4, u5, u6, u7, u8, u9, rfl⟩ := lenA10 hus
      have hq1 := gen_after 7 (by kernel_rfl) hbp
      have hq2 := gen_after 5 (by kernel_rfl) hbp
      have e5 : u5 = valV (7, 0, sy) := hI.val 5 _ rfl hq2
      subst e5
      have hq := gen_sto hI hus hbs 9 7 5 _ _ (by show 9 < 10; decide) (fit_of rfl) rfl rfl hb0 hq1 hq2
      have HA9 := Veil.mk ha
      clear hI ha
      obtain ⟨g, hg, hx, hJ⟩ := hq
      have e7 : u7 = .pointer (some ⟨g, 0, none⟩) := hg
      subst e7
      clear hg
      have x0 : w'.cell? ⟨g, 0, none⟩ = some (.int .i64 0) := hx.at_ 0
      have x1 : w'.cell? ⟨g, 1, none⟩ = some (.int .i64 0) := hx.at_ 1
      have x2 : w'.cell? ⟨g, 2, none⟩ = some (.string ⟨#[]⟩) := hx.at_ 2
      have f0 := hx.free 0
      have f1 := hx.free 1
      have f2 := hx.free 2
      have HJ := Veil.mk hJ
      have HX := Veil.mk hx
      clear hJ hx
      rw [HA9.out]
      simp only [puts, setAll, List.setIfInBounds_toArray, List.set_cons_zero, List.set_cons_succ]
      go_simp
      exact hK _ _ (HJ.out _ _ _ _ (((HX.out.put 0 _).put 1 _).put 2 _) (touch3 _ _ _ _ _) (by simp only [puts, setAll, List.set_cons_zero, List.set_cons_succ, List.setIfInBounds_toArray]))
    exact Steps.nil
  · intro us wE hus dd hD2 hJ
    obtain ⟨p0, p1, p2, p3, p4, p5, p6, p7, p8, p9, rfl⟩ := lenA10 hus
    have hbE := hJ.below
    have e0 : p0 = .pointer (some ⟨m, 0, none⟩) := hJ.val 0 _ rfl (hD2 0 (by show 0 < 10; decide))
    subst e0
    have e1 : p1 = valV v := hJ.val 1 _ rfl (hD2 1 (by show 1 < 10; decide))
    subst e1
    have e2 : p2 = valV x := hJ.val 2 _ rfl (hD2 2 (by show 2 < 10; decide))
    subst e2
    have e3 : p3 = .pointer (some ⟨m, 0, none⟩) := hJ.val 3 _ rfl (hD2 3 (by show 3 < 10; decide))
    subst e3
    have e4 : p4 = valV v := hJ.val 4 _ rfl (hD2 4 (by show 4 < 10; decide))
    subst e4
    have e5 : p5 = valV (7, 0, sy) := hJ.val 5 _ rfl (hD2 5 (by show 5 < 10; decide))
    subst e5
    obtain ⟨g6, hg6, hlo6, hbx6⟩ := hJ.box 6 _ _ _ _ rfl (hD2 6 (by show 6 < 10; decide))
    rw [hD2 8 (by show 8 < 10; decide)] at hbx6
    replace hg6 : p6 = .pointer (some ⟨g6, 0, none⟩) := hg6
    subst hg6
    replace hbx6 : Box wE g6 30 (flat (valV x)) := hbx6
    obtain ⟨g7, hg7, hlo7, hbx7⟩ := hJ.box 7 _ _ _ _ rfl (hD2 7 (by show 7 < 10; decide))
    rw [hD2 9 (by show 9 < 10; decide)] at hbx7
    replace hg7 : p7 = .pointer (some ⟨g7, 0, none⟩) := hg7
    subst hg7
    replace hbx7 : Box wE g7 30 (flat (valV (7, 0, sy))) := hbx7
    have hne6_7 : g6 ≠ g7 := fun e9 => hJ.apart 6 7 _ _ _ _ _ _ _ _ rfl rfl (by decide) (hD2 6 (by show 6 < 10; decide)) (hD2 7 (by show 7 < 10; decide)) (by show Value.pointer (some ⟨g6, 0, none⟩) = Value.pointer (some ⟨g7, 0, none⟩); rw [e9])
    clear hJ hD2
    have HE := Veil.mk (And.intro (HBB.out.1.trans (hbE.mono HBB.out.1.size)) (And.intro hbx6 hbx7))
    clear hbE hbx6 hbx7 hlo6 hlo7
    simp only [puts, setAll, List.setIfInBounds_toArray, List.set_cons_zero, List.set_cons_succ]
    have HC2 : Veil (∀ W, Below wE.heap.size wE W → W.cell? ⟨g7, 0, none⟩ = some (.int .i64 7) ∧ W.cell? ⟨g7, 1, none⟩ = some (.int .i64 0) ∧ W.cell? ⟨g7, 2, none⟩ = some (.string sy)) := ⟨fun W hb => ⟨(HE.out.2.2.below hb).at_ 0, (HE.out.2.2.below hb).at_ 1, (HE.out.2.2.below hb).at_ 2⟩⟩
    go_upto_region 2 with (fail)
    refine wp_region_gen (.val (· = valV (7, 0, sy)) :: .val (· = valV (7, 0, ⟨#[]⟩)) :: .val (· = .bool be) :: [] : List Kd) [some 13, some 14, some 15] (curV' _ [some 13, some 14, some 15]) (by kernel_rfl) rfl rfl (puts_cur _ _) ?_ (by kernel_rfl) ?_
    · refine Steps.cons rfl (fun bb aa w' hbs hb0 hbp hI K hK => ?_) ?_
      · obtain ⟨us, hus, ha, hI⟩ := hI
        obtain ⟨u0, u1, u2, rfl⟩ := lenA3 hus
        have hch := hI.below
        obtain ⟨c0, c1, c2⟩ := HC2.out w' hch
        clear hch
        have HI := Veil.mk hI
        clear hI
        rw [ha]
        simp only [puts, setAll, List.setIfInBounds_toArray, List.set_cons_zero, List.set_cons_succ]
        go_simp
        exact hK _ _ (gen_val HI.out hus hbs 0 _ _ (by show 0 < 3; decide) (fit_of rfl) rfl hb0 rfl (Below.refl _ _) (by simp only [puts, setAll, List.set_cons_zero, List.set_cons_succ, List.setIfInBounds_toArray]))
      refine Steps.cons rfl (fun bb aa w' hbs hb0 hbp hI K hK => ?_) ?_
      · obtain ⟨us, hus, ha, hI⟩ := hI
        obtain ⟨u0, u1, u2, rfl⟩ := lenA3 hus
        have hch := hI.below
        have HX9 := Veil.mk (val_empty w')
        clear hch
        have HI := Veil.mk hI
        clear hI
        rw [ha]
        simp only [puts, setAll, List.setIfInBounds_toArray, List.set_cons_zero, List.set_cons_succ]
        go_simp
        go_at_call 23
        refine HX9.out.mono ?_
        rintro e9 w9 ⟨rfl, hb9⟩
        go_simp
        exact hK _ _ (gen_val HI.out hus hbs 1 _ _ (by show 1 < 3; decide) (fit_of rfl) rfl hb0 rfl hb9 (by simp only [puts, setAll, List.set_cons_zero, List.set_cons_succ, List.setIfInBounds_toArray]))
      refine Steps.cons rfl (fun bb aa w' hbs hb0 hbp hI K hK => ?_) ?_
      · obtain ⟨us, hus, ha, hI⟩ := hI
        obtain ⟨u0, u1, u2, rfl⟩ := lenA3 hus
        have e0 : u0 = valV (7, 0, sy) := hI.val 0 _ rfl (gen_after 0 (by kernel_rfl) hbp)
        subst e0
        have e1 : u1 = valV (7, 0, ⟨#[]⟩) := hI.val 1 _ rfl (gen_after 1 (by kernel_rfl) hbp)
        subst e1
        have hch := hI.below
        have hbe := HBEQ.out
        clear hch
        have HI := Veil.mk hI
        clear hI
        rw [ha]
        simp only [puts, setAll, List.setIfInBounds_toArray, List.set_cons_zero, List.set_cons_succ]
        go_simp
        cases be <;> go_simp
        all_goals exact hK _ _ (gen_val HI.out hus hbs 2 _ _ (by show 2 < 3; decide) (fit_of rfl) rfl hb0 rfl (Below.refl _ _) (by simp only [puts, setAll, List.set_cons_zero, List.set_cons_succ, List.setIfInBounds_toArray]))
      exact Steps.nil
    · intro us wE hus dd hD2 hJ
      obtain ⟨p0, p1, p2, rfl⟩ := lenA3 hus
      have hbE := hJ.below
      have e0 : p0 = valV (7, 0, sy) := hJ.val 0 _ rfl (hD2 0 (by show 0 < 3; decide))
      subst e0
      have e1 : p1 = valV (7, 0, ⟨#[]⟩) := hJ.val 1 _ rfl (hD2 1 (by show 1 < 3; decide))
      subst e1
      have e2 : p2 = .bool be := hJ.val 2 _ rfl (hD2 2 (by show 2 < 3; decide))
      subst e2
      clear hJ hD2
      have HE2 := Veil.mk hbE
      clear hbE
      simp only [puts, setAll, List.setIfInBounds_toArray, List.set_cons_zero, List.set_cons_succ]
      have HBE2 := Veil.mk (HE.out.1.trans (HE2.out.mono HE.out.1.size))
      have HC4 : Veil (∀ W, Below wE.heap.size wE W → W.cell? ⟨g6, 0, none⟩ = some (.int .i64 x.1) ∧ W.cell? ⟨g6, 1, none⟩ = some (.int .i64 x.2.1) ∧ W.cell? ⟨g6, 2, none⟩ = some (.string x.2.2)) := ⟨fun W hb => by
        have := (HE.out.2.1.below HE2.out).below hb
        exact ⟨this.at_ 0, this.at_ 1, this.at_ 2⟩⟩
      have HC5 : Veil (∀ W, Below wE.heap.size wE W → W.cell? ⟨g7, 0, none⟩ = some (.int .i64 7) ∧ W.cell? ⟨g7, 1, none⟩ = some (.int .i64 0) ∧ W.cell? ⟨g7, 2, none⟩ = some (.string sy)) := ⟨fun W hb => by
        have := (HE.out.2.2.below HE2.out).below hb
        exact ⟨this.at_ 0, this.at_ 1, this.at_ 2⟩⟩
      cases be with
      | true =>
        have x0 : wE.cell? ⟨g6, 0, none⟩ = some (.int .i64 x.1) := (HC4.out wE (Below.refl _ _)).1
        have x1 : wE.cell? ⟨g6, 1, none⟩ = some (.int .i64 x.2.1) := (HC4.out wE (Below.refl _ _)).2.1
        have x2 : wE.cell? ⟨g6, 2, none⟩ = some (.string x.2.2) := (HC4.out wE (Below.refl _ _)).2.2
        have HX9 := Veil.mk (HB1.out wE HBE2.out)
        go_wp2_with (go_at_call 45; ((with_reducible refine HX9.out.mono ?_); rintro e w9 ⟨rfl, hb9⟩))
        go_ret
        exact ⟨rfl, HBE2.out.trans (hb9.mono HBE2.out.size)⟩
      | false =>
        go_upto_region 4 with (fail)
        refine wp_region_gen (.val (· = .pointer (some ⟨m, 0, none⟩)) :: .val (· = valV x) :: .val (· = .string r1) :: .val (· = .string (r1 ++ ⟨#[58, 32]⟩)) :: .val (· = .pointer (some ⟨m, 0, none⟩)) :: .val (· = valV (7, 0, sy)) :: .val (· = .string r2) :: .val (· = .string (r1 ++ ⟨#[58, 32]⟩ ++ r2)) :: .val (· = .string (r1 ++ ⟨#[58, 32]⟩ ++ r2)) :: [] : List Kd) [some 19, some 20, some 21, some 22, some 23, some 24, some 25, some 26, some 4] (curV' _ [some 19, some 20, some 21, some 22, some 23, some 24, some 25, some 26, some 4]) (by kernel_rfl) rfl rfl (puts_cur _ _) ?_ (by kernel_rfl) ?_
        · refine Steps.cons rfl (fun bb aa w' hbs hb0 hbp hI K hK => ?_) ?_
          · obtain ⟨us, hus, ha, hI⟩ := hI
            obtain ⟨u0, u1, u2, u3, u4, u5, u6, u7, u8, rfl⟩ := lenA9 hus
            have HI := Veil.mk hI
            clear hI
            rw [ha]
            simp only [puts, setAll, List.setIfInBounds_toArray, List.set_cons_zero, List.set_cons_succ]
            go_simp
            exact hK _ _ (gen_val HI.out hus hbs 0 _ _ (by show 0 < 9; decide) (fit_of rfl) rfl hb0 rfl (Below.refl _ _) (by simp only [puts, setAll, List.set_cons_zero, List.set_cons_succ, List.setIfInBounds_toArray]))
          refine Steps.cons rfl (fun bb aa w' hbs hb0 hbp hI K hK => ?_) ?_
          · obtain ⟨us, hus, ha, hI⟩ := hI
            obtain ⟨u0, u1, u2, u3, u4, u5, u6, u7, u8, rfl⟩ := lenA9 hus
            have hch := hI.below
            obtain ⟨c0, c1, c2⟩ := HC4.out w' hch
            clear hch
            have HI := Veil.mk hI
            clear hI
            rw [ha]
            simp only [puts, setAll, List.setIfInBounds_toArray, List.set_cons_zero, List.set_cons_succ]
            go_simp
            exact hK _ _ (gen_val HI.out hus hbs 1 _ _ (by show 1 < 9; decide) (fit_of rfl) rfl hb0 rfl (Below.refl _ _) (by simp only [puts, setAll, List.set_cons_zero, List.set_cons_succ, List.setIfInBounds_toArray]))
          refine Steps.cons rfl (fun bb aa w' hbs hb0 hbp hI K hK => ?_) ?_
          · obtain ⟨us, hus, ha, hI⟩ := hI
            obtain ⟨u0, u1, u2, u3, u4, u5, u6, u7, u8, rfl⟩ := lenA9 hus
            have e0 : u0 = .pointer (some ⟨m, 0, none⟩) := hI.val 0 _ rfl (gen_after 0 (by kernel_rfl) hbp)
            subst e0
            have e1 : u1 = valV x := hI.val 1 _ rfl (gen_after 1 (by kernel_rfl) hbp)
            subst e1
            have hch := hI.below
            have HX9 := Veil.mk (HB1.out w' (HBE2.out.trans (hch.mono HBE2.out.size)))
            clear hch
            have HI := Veil.mk hI
            clear hI
            rw [ha]
            simp only [puts, setAll, List.setIfInBounds_toArray, List.set_cons_zero, List.set_cons_succ]
            go_simp
            go_at_call 45
            refine HX9.out.mono ?_
            rintro e9 w9 ⟨rfl, hb9⟩
            go_simp
            exact hK _ _ (gen_val HI.out hus hbs 2 _ _ (by show 2 < 9; decide) (fit_of rfl) rfl hb0 rfl hb9 (by simp only [puts, setAll, List.set_cons_zero, List.set_cons_succ, List.setIfInBounds_toArray]))
          refine Steps.cons rfl (fun bb aa w' hbs hb0 hbp hI K hK => ?_) ?_
          · obtain ⟨us, hus, ha, hI⟩ := hI
            obtain ⟨u0, u1, u2, u3, u4, u5, u6, u7, u8, rfl⟩ := lenA9 hus
            have e2 : u2 = .string r1 := hI.val 2 _ rfl (gen_after 2 (by kernel_rfl) hbp)
            subst e2
            have hch := hI.below
            have hz1 : ¬ 9223372036854775807 < r1.size + 2 := by have := HZ.out.1; omega
            clear hch
            have HI := Veil.mk hI
            clear hI
            rw [ha]
            simp only [puts, setAll, List.setIfInBounds_toArray, List.set_cons_zero, List.set_cons_succ]
            go_simp
            exact hK _ _ (gen_val HI.out hus hbs 3 _ _ (by show 3 < 9; decide) (fit_of rfl) rfl hb0 rfl (Below.refl _ _) (by simp only [puts, setAll, List.set_cons_zero, List.set_cons_succ, List.setIfInBounds_toArray]))
          refine Steps.cons rfl (fun bb aa w' hbs hb0 hbp hI K hK => ?_) ?_
          · obtain ⟨us, hus, ha, hI⟩ := hI
            obtain ⟨u0, u1, u2, u3, u4, u5, u6, u7, u8, rfl⟩ := lenA9 hus
            have HI := Veil.mk hI
            clear hI
            rw [ha]
            simp only [puts, setAll, List.setIfInBounds_toArray, List.set_cons_zero, List.set_cons_succ]
            go_simp
            exact hK _ _ (gen_val HI.out hus hbs 4 _ _ (by show 4 < 9; decide) (fit_of rfl) rfl hb0 rfl (Below.refl _ _) (by simp only [puts, setAll, List.set_cons_zero, List.set_cons_succ, List.setIfInBounds_toArray]))
          refine Steps.cons rfl (fun bb aa w' hbs hb0 hbp hI K hK => ?_) ?_
          · obtain ⟨us, hus, ha, hI⟩ := hI
            obtain ⟨u0, u1, u2, u3, u4, u5, u6, u7, u8, rfl⟩ := lenA9 hus
            have hch := hI.below
            obtain ⟨c0, c1, c2⟩ := HC5.out w' hch
            clear hch
            have HI := Veil.mk hI
            clear hI
            rw [ha]
            simp only [puts, setAll, List.setIfInBounds_toArray, List.set_cons_zero, List.set_cons_succ]
            go_simp
            exact hK _ _ (gen_val HI.out hus hbs 5 _ _ (by show 5 < 9; decide) (fit_of rfl) rfl hb0 rfl (Below.refl _ _) (by simp only [puts, setAll, List.set_cons_zero, List.set_cons_succ, List.setIfInBounds_toArray]))
          refine Steps.cons rfl (fun bb aa w' hbs hb0 hbp hI K hK => ?_) ?_
          · obtain ⟨us, hus, ha, hI⟩ := hI
            obtain ⟨u0, u1, u2, u3, u4, u5, u6, u7, u8, rfl⟩ := lenA9 hus
            have e4 : u4 = .pointer (some ⟨m, 0, none⟩) := hI.val 4 _ rfl (gen_after 4 (by kernel_rfl) hbp)
            subst e4
            have e5 : u5 = valV (7, 0, sy) := hI.val 5 _ rfl (gen_after 5 (by kernel_rfl) hbp)
            subst e5
            have hch := hI.below
            have HX9 := Veil.mk (HB2.out w' (HBE2.out.trans (hch.mono HBE2.out.size)))
            clear hch
            have HI := Veil.mk hI
            clear hI
            rw [ha]
            simp only [puts, setAll, List.setIfInBounds_toArray, List.set_cons_zero, List.set_cons_succ]
            go_simp
            go_at_call 45
            refine HX9.out.mono ?_
            rintro e9 w9 ⟨rfl, hb9⟩
            go_simp
            exact hK _ _ (gen_val HI.out hus hbs 6 _ _ (by show 6 < 9; decide) (fit_of rfl) rfl hb0 rfl hb9 (by simp only [puts, setAll, List.set_cons_zero, List.set_cons_succ, List.setIfInBounds_toArray]))
          refine Steps.cons rfl (fun bb aa w' hbs hb0 hbp hI K hK => ?_) ?_
          · obtain ⟨us, hus, ha, hI⟩ := hI
            obtain ⟨u0, u1, u2, u3, u4, u5, u6, u7, u8, rfl⟩ := lenA9 hus
            have e3 : u3 = .string (r1 ++ ⟨#[58, 32]⟩) := hI.val 3 _ rfl (gen_after 3 (by kernel_rfl) hbp)
            subst e3
            have e6 : u6 = .string r2 := hI.val 6 _ rfl (gen_after 6 (by kernel_rfl) hbp)
            subst e6
            have hch := hI.below
            have hz1 : ¬ 9223372036854775807 < r1.size + 2 + r2.size := by have := HZ.out; omega
            clear hch
            have HI := Veil.mk hI
            clear hI
            rw [ha]
            simp only [puts, setAll, List.setIfInBounds_toArray, List.set_cons_zero, List.set_cons_succ]
            go_simp
            exact hK _ _ (gen_val HI.out hus hbs 7 _ _ (by show 7 < 9; decide) (fit_of rfl) rfl hb0 rfl (Below.refl _ _) (by simp only [puts, setAll, List.set_cons_zero, List.set_cons_succ, List.setIfInBounds_toArray]))
          refine Steps.cons rfl (fun bb aa w' hbs hb0 hbp hI K hK => ?_) ?_
          · obtain ⟨us, hus, ha, hI⟩ := hI
            obtain ⟨u0, u1, u2, u3, u4, u5, u6, u7, u8, rfl⟩ := lenA9 hus
            have e7 : u7 = .string (r1 ++ ⟨#[58, 32]⟩ ++ r2) := hI.val 7 _ rfl (gen_after 7 (by kernel_rfl) hbp)
            subst e7
            have HI := Veil.mk hI
            clear hI
            rw [ha]
            simp only [puts, setAll, List.setIfInBounds_toArray, List.set_cons_zero, List.set_cons_succ]
            go_simp
            exact hK _ _ (gen_val HI.out hus hbs 8 _ _ (by show 8 < 9; decide) (fit_of rfl) rfl hb0 rfl (Below.refl _ _) (by simp only [puts, setAll, List.set_cons_zero, List.set_cons_succ, List.setIfInBounds_toArray]))
          exact Steps.nil
        · intro us wE hus dd hD2 hJ
          obtain ⟨p0, p1, p2, p3, p4, p5, p6, p7, p8, rfl⟩ := lenA9 hus
          have hbE := hJ.below
          have e0 : p0 = .pointer (some ⟨m, 0, none⟩) := hJ.val 0 _ rfl (hD2 0 (by show 0 < 9; decide))
          subst e0
          have e1 : p1 = valV x := hJ.val 1 _ rfl (hD2 1 (by show 1 < 9; decide))
          subst e1
          have e2 : p2 = .string r1 := hJ.val 2 _ rfl (hD2 2 (by show 2 < 9; decide))
          subst e2
          have e3 : p3 = .string (r1 ++ ⟨#[58, 32]⟩) := hJ.val 3 _ rfl (hD2 3 (by show 3 < 9; decide))
          subst e3
          have e4 : p4 = .pointer (some ⟨m, 0, none⟩) := hJ.val 4 _ rfl (hD2 4 (by show 4 < 9; decide))
          subst e4
          have e5 : p5 = valV (7, 0, sy) := hJ.val 5 _ rfl (hD2 5 (by show 5 < 9; decide))
          subst e5
          have e6 : p6 = .string r2 := hJ.val 6 _ rfl (hD2 6 (by show 6 < 9; decide))
          subst e6
          have e7 : p7 = .string (r1 ++ ⟨#[58, 32]⟩ ++ r2) := hJ.val 7 _ rfl (hD2 7 (by show 7 < 9; decide))
          subst e7
          have e8 : p8 = .string (r1 ++ ⟨#[58, 32]⟩ ++ r2) := hJ.val 8 _ rfl (hD2 8 (by show 8 < 9; decide))
          subst e8
          clear hJ hD2
          have HE4 := Veil.mk hbE
          clear hbE
          simp only [puts, setAll, List.setIfInBounds_toArray, List.set_cons_zero, List.set_cons_succ]
          go_wp2
          go_ret
          exact ⟨rfl, HBE2.out.trans (HE4.out.mono HBE2.out.size)⟩
end Go.Proofs.YtgdkjkfbknbgkaaGreatDoor
namespace Go.Proofs.YtgdkjkfbknbgkaaGreatDoor.W
open Go Go.RowKit
attribute [local go_sem] Oper.semAt_some

/-- Numbers as cells. -/
def numC (l : List Nat) : List Value := l.map (fun (u : Nat) => Value.int .i64 (u : Int))
theorem numC_length (l : List Nat) : (numC l).length = l.length := by simp [numC]
theorem numC_append (a b : List Nat) : numC (a ++ b) = numC a ++ numC b := by simp [numC]
theorem Tryz.info3 : (Tryz.prog.info? 3).map (fun i => (i.zero, i.size, i.bytes)) = some (some (.int .i64 0), 1, 8) := by kernel_rfl
theorem below_own {B : Nat} {e : TypeId} {size n : Nat} {v : Value} {xs : List Value} {w w1 : World} (h : w.ownsRow B e size v n xs) (hb : Below w.heap.size w w1) (_ : B ≤ w.heap.size) : w1.ownsRow B e size v n xs := by
  obtain ⟨h1, h2⟩ := h
  refine ⟨h1, ?_⟩
  rcases h2 with h2 | ⟨g, cap, cur, a, b, c, d⟩
  · exact .inl h2
  · exact .inr ⟨g, cap, cur, a, b, by rw [hb.block g (lt_of_block c)]; exact c, d⟩
/-- A slice value reads as these numbers. -/
def Nums (kd : IntKind) (w : World) (a : Option Addr) (n : Nat) (l : List Nat) : Prop := l.length = n ∧ (0 < n → ∃ b o, a = some ⟨b, o, none⟩ ∧ b < w.heap.size ∧ ∀ i, i < n → w.cell? ⟨b, o + i, none⟩ = some (.int kd ((l[i]?.getD 0 : Nat) : Int)))
theorem Nums.on {kd : IntKind} {w w1 : World} {a : Option Addr} {n : Nat} {l : List Nat} (h : Nums kd w a n l) (hb : Below w.heap.size w w1) : Nums kd w1 a n l :=
  ⟨h.1, fun hn => by
    obtain ⟨b, o, e, hlt, hc⟩ := h.2 hn
    exact ⟨b, o, e, by have := hb.size; omega, fun i hi => by rw [hb.cell (p := ⟨b, o + i, none⟩) hlt]; exact hc i hi⟩⟩
theorem own_drew {w : World} {base : Nat} {e : TypeId} {size : Nat} {v : Value} {n : Nat} {xs : List Value} (h : w.ownsRow base e size v n xs) : w.drew.ownsRow base e size v n xs := h
theorem cells_drew {w : World} {a : Addr} {cs : List Value} (h : ∀ j u, cs[j]? = some u → w.cell? (a.add j) = some u) : ∀ j u, cs[j]? = some u → w.drew.cell? (a.add j) = some u := h
set_option maxRecDepth 1000000 in
set_option maxHeartbeats 2000000 in
theorem str_any (a : Option Addr) (n cap : Nat) (l : List Nat) (hn : n ≤ 1000000) (hlt : ∀ u ∈ l, u < 65536) (w : World) (h : Nums .i64 w a n l) :
    Calls Tryz.prog 35 #[.slice a n cap] w fun e w' => e = .returned (.string ⟨(l.flatMap u2).toArray⟩) ∧ Below w.heap.size w w' := by
  obtain ⟨i0, hi, hz0, hz1, hz2⟩ := info_parts Tryz.info5
  obtain ⟨w1, hr, hown1, hg1⟩ := run_make_own (P := Tryz.prog) w w.heap.size 107 5 i0 (.int .u8 0) 1 Tryz.underlying107 hi hz0 hz1 .i64 .i64 (2 * n) (by rw [hz2]; omega) (by unfold maxLen; omega) (Nat.le_refl _)
  rw [show ((2 * n : Nat) : Int) = 2 * (n : Int) by omega] at hr
  have hb1 : Below w.heap.size w w1 := (Below.refl _ _).grown hg1 (Nat.le_refl _) (fun k h => by cases h)
  have HN := Lib.hid h
  have HLT := Lib.hid hlt
  clear h hlt hg1
  go_enter Tryz.func35, Tryz.ntmps35
  go_wp2
  go_loopw [3, 4] (fun v i wr => ∃ k : Nat, k ≤ n ∧ i = .int .i64 (k : Int) ∧ wr.ownsRow w.heap.size 5 1 v ((l.take k).flatMap u2).length (Lib.byteCells ((l.take k).flatMap u2)) ∧ Below w.heap.size w wr) (fun _ i _ => n - (intOf i).toNat)
  case atStart => exact ⟨0, by omega, rfl, hown1, hb1⟩
  case round =>
    obtain ⟨k, hk, rfl, hown, hbw⟩ := hrel
    clear hr hown1 hb1
    by_cases hp : k < n
    · obtain ⟨b, o, rfl, hbl, hc⟩ := HN.out.2 (by omega)
      have hll := HN.out.1
      have hcell : wr.cell? ⟨b, o + k, none⟩ = some (.int .i64 ((l[k]?.getD 0 : Nat) : Int)) := by rw [hbw.cell (p := ⟨b, o + k, none⟩) hbl]; exact hc k hp
      have hu : l[k]?.getD 0 < 65536 := by rw [List.getElem?_eq_getElem (by omega)]; exact HLT.out _ (List.getElem_mem _)
      have htk : (l.take (k + 1)).flatMap u2 = (l.take k).flatMap u2 ++ u2 (l[k]?.getD 0) := by
        rw [List.take_add_one, List.flatMap_append, List.getElem?_eq_getElem (by omega)]; simp
      have hlen : ((l.take k).flatMap u2).length ≤ 2 * k := by
        have : ∀ m : List Nat, (m.flatMap u2).length = 2 * m.length := fun m => by
          induction m with
          | nil => rfl
          | cons x r ih => rw [List.flatMap_cons, List.length_append, ih]; simp [u2]; omega
        rw [this]; have := List.length_take_le k l; omega
      obtain ⟨u, hud⟩ : ∃ u, u = l[k]?.getD 0 := ⟨_, rfl⟩
      rw [← hud] at hcell hu htk
      obtain ⟨acc, hacc⟩ : ∃ acc, acc = (l.take k).flatMap u2 := ⟨_, rfl⟩
      rw [← hacc] at hown htk hlen
      have HTK := Lib.hid htk
      have hlti : (k : Int) < (n : Int) := by omega
      have hk0 : (0 : Int) ≤ (k : Int) := by omega
      have hw := hbw.size
      clear hud hacc htk hc
      have d1 : IntKind.i64.wrap ((u : Int) / 256) = (u : Int) / 256 := by rw [IntKind.wrap_i64]; omega
      go_wp2
      go_region_law (refine step_append_lies _ rfl (.tmp 15) (.tmp 28) 107 rfl w.heap.size 5 i0 (.int .u8 0) 1 1 Tryz.underlying107 hi hz0 hz1 hz2 rfl (by decide) u3 acc.length (Lib.byteCells acc) (by simp [Act.eval]) (by first | exact (own_drew hown).alloc _ | exact own_drew (hown.alloc _)) ⟨wr.heap.size, 0, none⟩ 2 2 [.int .u8 (IntKind.u8.wrap ((u : Int) / 256)), .int .u8 (IntKind.u8.wrap ((u : Int).tmod 256))] (by simp [Act.eval]) rfl (by first | exact cells_new _ _ _ | exact cells_drew (cells_new _ _ _)) (fun x hx => by simp at hx; rcases hx with rfl | rfl <;> rfl) (by decide) (by unfold maxLen; omega) (by omega) (by simp; omega) _ rfl ?_; intro g cap' w3 hown' hgrow3 hblk hg3)
      all_goals
        have hown3 := hown'
        have e0 : IntKind.u8.wrap ((u : Int) / 256) = (u : Int) / 256 := by rw [IntKind.wrap_u8]; omega
        have e1 : IntKind.u8.wrap ((u : Int).tmod 256) = (u : Int) % 256 := by rw [IntKind.wrap_u8, Int.tmod_eq_emod_of_nonneg (by omega)]; omega
        rw [e0, e1, ← cells_u2 u hu, ← Lib.byteCells_append, ← HTK.out] at hown3
        have e2 : ((l.take (k + 1)).flatMap u2).length = acc.length + 2 := by rw [HTK.out]; simp [u2]
        have hbw3 : Below w.heap.size w w3 := Below.grown (by first | exact hbw.alloc hw _ | exact Below.drew (hbw.alloc hw _)) hgrow3 (by simp; omega) (fun j hj => (hown.lt _ hj).1)
        have E2 := Lib.hid e2
        clear hown' hgrow3 hblk e0 e1 e2
        go_wp2
        go_roundw
        case rel => exact ⟨k + 1, by omega, by go_num, by rw [E2.out]; exact hown3, hbw3⟩
        case measure => simp [intOf]; omega
    · have hlti : ¬ (k : Int) < (n : Int) := by omega
      have hll := HN.out.1
      have HE : Hid ((l.take k).flatMap u2 = l.flatMap u2) := by show _ = _; rw [List.take_of_length_le (by omega)]
      have hcv := run_string_own (P := Tryz.prog) (w := wr) (src := 107) (dst := 9) (e := 5) Tryz.underlying107 Tryz.underlying5 Tryz.underlying9 hown
      clear hll
      go_wp2
      go_ret
      exact ⟨ret_str HE.out, hbw⟩
theorem own_nums {w : World} {B : Nat} {v : Value} {l : List Nat} (h : w.ownsRow B 3 1 v l.length (numC l)) : ∃ a cap, v = .slice a l.length cap ∧ Nums .i64 w a l.length l := by
  rcases h.2 with ⟨rfl, h0⟩ | ⟨g, cap, cur, rfl, hB, hg, -, -, -, -⟩
  · exact ⟨none, 0, by rw [h0], rfl, fun hn => by omega⟩
  · refine ⟨some ⟨g, 0, none⟩, cap, rfl, rfl, fun _ => ⟨g, 0, rfl, lt_of_block hg, fun i hi => ?_⟩⟩
    have hx : (numC l)[i]? = some (.int .i64 ((l[i]?.getD 0 : Nat) : Int)) := by
      unfold numC; rw [List.getElem?_map, List.getElem?_eq_getElem hi]; rfl
    have := h.cells (g := g) rfl i _ hx
    have e : (⟨g, 0, none⟩ : Addr).add i = ⟨g, 0 + i, none⟩ := by unfold Addr.add; split <;> simp_all
    rw [e] at this
    exact this
set_option maxRecDepth 1000000 in
set_option maxHeartbeats 2000000 in
theorem lawStr_any (a : Option Addr) (n cap : Nat) (l : List Nat) (hn : n ≤ 1000000) (hlt : ∀ u ∈ l, u < 65536) (w : World) (h : Nums .u16 w a n l) :
    Calls Tryz.prog 15 #[.slice a n cap] w fun e w' => e = .returned (.string ⟨(l.flatMap u2).toArray⟩) ∧ Below w.heap.size w w' := by
  obtain ⟨i0, hi, hz0, hz1, hz2⟩ := info_parts Tryz.info3
  have HN := Veil.mk h
  have HLT := Veil.mk hlt
  clear h hlt
  go_enter Tryz.func15, Tryz.ntmps15
  go_wp2
  go_loopw [3, 8] (fun v i wr => ∃ k : Nat, k ≤ n ∧ i = .int .i64 (k : Int) ∧ wr.ownsRow w.heap.size 3 1 v k (numC (l.take k)) ∧ Below w.heap.size w wr) (fun _ i _ => n - (intOf i).toNat)
  case atStart => exact ⟨0, by omega, rfl, World.ownsRow_nil _ _ _ _, Below.refl _ _⟩
  case round =>
    obtain ⟨k, hk, rfl, hown, hbw⟩ := hrel
    by_cases hp : k < n
    · obtain ⟨b, o, rfl, hbl, hc⟩ := HN.out.2 (by omega)
      have hll := HN.out.1
      have hcell : wr.cell? ⟨b, o + k, none⟩ = some (.int .u16 ((l[k]?.getD 0 : Nat) : Int)) := by rw [hbw.cell (p := ⟨b, o + k, none⟩) hbl]; exact hc k hp
      have hu : l[k]?.getD 0 < 65536 := by rw [List.getElem?_eq_getElem (by omega)]; exact HLT.out _ (List.getElem_mem _)
      have htk : l.take (k + 1) = l.take k ++ [l[k]?.getD 0] := by
        rw [List.take_add_one, List.getElem?_eq_getElem (by omega)]; simp
      obtain ⟨u, hud⟩ : ∃ u, u = l[k]?.getD 0 := ⟨_, rfl⟩
      rw [← hud] at hcell hu htk
      have HTK := Veil.mk htk
      have hlti : (k : Int) < (n : Int) := by omega
      have hk0 : (0 : Int) ≤ (k : Int) := by omega
      have hui : (u : Int) < 65536 := by omega
      have hu0 : (0 : Int) ≤ (u : Int) := by omega
      have hw := hbw.size
      clear hud htk hc
      go_wp2_with (at_builtin; refine wpList_append_own _ rfl _ _ 53 rfl w.heap.size 3 i0 (.int .i64 0) 1 8 Tryz.underlying53 hi hz0 hz1 hz2 rfl (by decide) _ _ _ rfl (hown.alloc _) ⟨wr.heap.size, 0, none⟩ 1 1 [_] rfl rfl (cells_new _ _ _) (fun x hx => by simp at hx; rcases hx with rfl; rfl) (by unfold maxLen; omega) (by omega) (by simp; omega) ?_; intro v' w3 hown' hgrow3 hnil3; refine Hid.out ?_)
      have hown3 : w3.ownsRow w.heap.size 3 1 v' (k + 1) (numC (l.take (k + 1))) := by rw [HTK.out, numC_append]; exact hown'
      have hbw3 : Below w.heap.size w w3 := Below.grown (hbw.alloc hw _) hgrow3 (by simp; omega) (fun j hj => (hown.lt _ hj).1)
      clear hown' hgrow3 hnil3
      refine Lib.hid ?_
      go_wp2
      go_roundw
      case rel => exact ⟨k + 1, by omega, by go_num, hown3, hbw3⟩
      case measure => simp [intOf]; omega
    · have hlti : ¬ (k : Int) < (n : Int) := by omega
      have hll := HN.out.1
      have hkl : k = l.length := by omega
      have htk : l.take k = l := List.take_of_length_le (by omega)
      rw [htk, hkl] at hown
      obtain ⟨a2, cap2, rfl, hnm⟩ := own_nums hown
      have hS := str_any a2 l.length cap2 l (by omega) HLT.out wr hnm
      clear hll hkl htk
      go_wp2_with (first | (go_at_call 35; ((with_reducible refine hS.mono ?_); rintro e w2 ⟨rfl, hb2⟩)))
      go_ret
      exact ⟨rfl, hbw.trans (hb2.mono hbw.size)⟩
end Go.Proofs.YtgdkjkfbknbgkaaGreatDoor.W
namespace Go.Proofs.YtgdkjkfbknbgkaaGreatDoor
open Go Go.RowKit

set_option maxHeartbeats 1000000 in
set_option maxRecDepth 100000 in
theorem printed_err (W : World) (m o : Nat) (v : Vt) (av : Value) (cs : Array Value) (hb : Box W o 99 cs) (hc0 : cs[0]? = some (.int .i64 12)) (r : ByteArray)
    (HSO : Veil (∀ W', Below W.heap.size W W' → Calls Tryz.prog 82 #[.pointer (some ⟨m, 0, none⟩), valV v] W' fun e w' => e = .returned (.pointer (some ⟨o, 0, none⟩)) ∧ Below W'.heap.size W' w'))
    (HWO : Veil (∀ W', Below W.heap.size W W' → Calls Tryz.prog 17 #[.pointer (some ⟨m, 0, none⟩), valV v] W' fun e w' => e = .returned (.string r) ∧ Below W'.heap.size W' w')) :
    Calls Tryz.prog 61 #[.pointer (some ⟨m, 0, none⟩), valV v, av] W fun e w' => e = .returned (.string r) ∧ Below W.heap.size W w' := by
  have b1 := Box.new W 30 #[.int .i64 v.1, .int .i64 v.2.1, .string v.2.2]
  have bb : Below W.heap.size W (W.alloc (.cells #[.int .i64 v.1, .int .i64 v.2.1, .string v.2.2] 30)) := (Below.refl _ _).alloc (Nat.le_refl _) _
  obtain ⟨kb, hkb⟩ : ∃ kb, W.heap.size = kb := ⟨_, rfl⟩
  obtain ⟨W0, hW0⟩ : ∃ W0, W.alloc (.cells #[.int .i64 v.1, .int .i64 v.2.1, .string v.2.2] 30) = W0 := ⟨_, rfl⟩
  rw [hW0] at b1 bb
  have HW0 := Veil.mk (And.intro hW0 hkb)
  rw [hkb] at b1
  have HBB := Veil.mk (And.intro bb b1)
  have x0 : W0.cell? ⟨kb, 0, none⟩ = some (.int .i64 v.1) := b1.at_ 0
  have x1 : W0.cell? ⟨kb, 1, none⟩ = some (.int .i64 v.2.1) := b1.at_ 1
  have x2 : W0.cell? ⟨kb, 2, none⟩ = some (.string v.2.2) := b1.at_ 2
  clear hW0 hkb b1 bb
  have HSO := Veil.mk (HSO.out W0 HBB.out.1)
  have HBX := Veil.mk (hb.below HBB.out.1)
  have HC := Veil.mk hc0
  clear hb hc0
  go_enter Tryz.func61, Tryz.ntmps61
  go_upto_region 1 with (fail)
  rw [HW0.out.1, HW0.out.2]
  go_upto_region 4 with (go_at_call 82; ((with_reducible refine HSO.out.mono ?_); rintro e w4 ⟨rfl, hb4⟩; have HB4 := Veil.mk hb4; clear hb4))
  have o0 : w4.cell? ⟨o, 0, none⟩ = some (.int .i64 12) := by rw [(HBX.out.below HB4.out).at_ 0]; exact HC.out
  have HBW4 := Veil.mk (HBB.out.1.trans (HB4.out.mono HBB.out.1.size))
  have HWO4 := Veil.mk (HWO.out w4 HBW4.out)
  have b4 := HBB.out.2.below HB4.out
  have y0 : w4.cell? ⟨kb, 0, none⟩ = some (.int .i64 v.1) := b4.at_ 0
  have y1 : w4.cell? ⟨kb, 1, none⟩ = some (.int .i64 v.2.1) := b4.at_ 1
  have y2 : w4.cell? ⟨kb, 2, none⟩ = some (.string v.2.2) := b4.at_ 2
  clear x0 x1 x2 b4
  go_wp2_with (go_at_call 17; ((with_reducible refine HWO4.out.mono ?_); rintro e w9 ⟨rfl, hb9⟩; have HB9 := Veil.mk hb9; clear hb9))
  go_ret
  exact ⟨rfl, HBW4.out.trans (HB9.out.mono HBW4.out.size)⟩
abbrev kMsg : Vt := (7, 0, ⟨#[0, 109, 0, 101, 0, 115, 0, 115, 0, 97, 0, 103, 0, 101]⟩)
theorem val_msg (w : World) : Calls Tryz.prog 23 #[.string ⟨#[109, 101, 115, 115, 97, 103, 101]⟩] w fun e w' => e = .returned (valV kMsg) ∧ Below w.heap.size w w' :=
  W.val_const _ [0, 109, 0, 101, 0, 115, 0, 115, 0, 97, 0, 103, 0, 101] (by decide) (show Hid _ from (by decide +kernel : W.ofB ⟨#[109, 101, 115, 115, 97, 103, 101]⟩ = [0, 109, 0, 101, 0, 115, 0, 115, 0, 97, 0, 103, 0, 101])) w
section
variable {W W' : World} {h A m : Nat} {f : Nat → Int} {os : List OS} {ts ts1 ts2 : List TO}
/-- A prototype chain of two. -/
theorem MP.chain2 (H : MP W h A m f ts) (hl : ts.length < 1000000) (i j : Nat) (t s : TO) (ht : ts[i]? = some t) (hs : ts[j]? = some s) (hp : t.proto = (j : Int) + 1) (hq : s.proto = 0) : ∃ cv fv rv d, CH W A h A cv fv rv d [(i + 1, t.b), (j + 1, s.b)] ∧ d.count < 1000000 := by
  obtain ⟨cv, fv, rv, hh⟩ := H.mm.hp
  have hget : ∀ (k : Nat) (u : TO), ts[k]? = some u → (⟨(ts.map TO.os).map fun o => some (40, o.1), [], (ts.map TO.os).length, []⟩ : AD).get ((k : Int) + 1) = some (40, u.b) := fun k u hk => by
    have hlt : k < ts.length := (List.getElem?_eq_some_iff.1 hk).1
    unfold AD.get
    rw [if_pos ⟨by omega, by show (k : Int) + 1 ≤ ((((ts.map TO.os).map _).length : Nat) : Int); rw [List.length_map, List.length_map]; omega⟩, show ((k : Int) + 1 - 1).toNat = k by omega]
    show ((ts.map TO.os).map _)[k]?.getD none = _
    rw [List.getElem?_map, List.getElem?_map, hk]
    rfl
  have hne : i ≠ j := fun e => by
    subst e
    rw [ht] at hs
    injection hs with hs
    subst hs
    omega
  have h2 : 2 ≤ ts.length := by
    have h1 := (List.getElem?_eq_some_iff.1 ht).1
    have h3 := (List.getElem?_eq_some_iff.1 hs).1
    omega
  refine ⟨cv, fv, rv, _, ⟨hh, fun k r nb hk => ?_, by show 2 ≤ (ts.map TO.os).length; rw [List.length_map]; exact h2⟩, by show (ts.map TO.os).length < 1000000; rw [List.length_map]; exact hl⟩
  match k, hk with
  | 0, hk =>
    cases hk
    refine ⟨by have := hget i t ht; rw [show ((i + 1 : Nat) : Int) = (i : Int) + 1 by omega]; exact this, _, H.mem_b (List.mem_of_getElem? ht), ?_⟩
    show some (Value.int .i64 t.proto) = some (.int .i64 (((j + 1 : Nat)) : Int))
    rw [hp, show ((j + 1 : Nat) : Int) = (j : Int) + 1 by omega]
  | 1, hk =>
    cases hk
    refine ⟨by have := hget j s hs; rw [show ((j + 1 : Nat) : Int) = (j : Int) + 1 by omega]; exact this, _, H.mem_b (List.mem_of_getElem? hs), ?_⟩
    show some (Value.int .i64 s.proto) = some (.int .i64 0)
    rw [hq]
  | k + 2, hk => cases hk
theorem MP.find2 (H : MP W h A m f ts) (hl : ts.length < 1000000) (i j : Nat) (t s : TO) (ht : ts[i]? = some t) (hs : ts[j]? = some s) (hp : t.proto = (j : Int) + 1) (hq : s.proto = 0) (hc : (t.cl == 1) = false) (hd : (s.cl == 1) = false) (k : Vt) (hk6 : keyT k = k) (hk : k.2.2.size ≤ 1000) (x : Vt) (fl : Int) (hx : (if (lookO t.O k).2.2 = true then lookO t.O k else lookO s.O k) = (x, fl, true)) :
    Calls Tryz.prog 83 #[.pointer (some ⟨h, 0, none⟩), .int .i64 ((i : Int) + 1), valV k] W fun e w' => e = .returned (.tuple #[valV x, .int .i64 fl, .bool true]) ∧ Below W.heap.size W w' := by
  obtain ⟨cv, fv, rv, d, hch, hdl⟩ := H.chain2 hl i j t s ht hs hp hq
  have := hfind_any hch hdl k (fun n => if n = 0 then lookO t.O k else lookO s.O k) (fun n r nb hn W' hb => by
    have own : ∀ u ∈ ts, (u.cl == 1) = false → Calls Tryz.prog 49 #[.pointer (some ⟨u.b, 0, none⟩), valV k] W' fun e w' => e = .returned (.tuple #[valV (lookO u.O k).1, .int .i64 (lookO u.O k).2.1, .bool (lookO u.O k).2.2]) ∧ Below W'.heap.size W' w' := fun u hu hcu => by
      have h3 := own_plain ((H.on hb).mem_b hu) hcu ((H.on hb).pr u hu) k hk
      rw [hk6] at h3
      exact h3
    match n, hn with
    | 0, hn => cases hn; exact own t (List.mem_of_getElem? ht) hc
    | 1, hn => cases hn; exact own s (List.mem_of_getElem? hs) hd
    | n + 2, hn => cases hn)
  have e1 : ((nxtR [(i + 1, t.b), (j + 1, s.b)] 0 : Nat) : Int) = (i : Int) + 1 := by show ((i + 1 : Nat) : Int) = _; omega
  have e2 : findG (fun n => if n = 0 then lookO t.O k else lookO s.O k) 0 [(i + 1, t.b), (j + 1, s.b)].length = (x, fl, true) := by
    rw [← hx]
    show (if (lookO t.O k).2.2 = true then lookO t.O k else if (lookO s.O k).2.2 = true then lookO s.O k else ((0, 0, ⟨#[]⟩), 0, false)) = _
    by_cases hh : (lookO t.O k).2.2 = true
    · rw [if_pos hh, if_pos hh]
    · rw [if_neg hh, if_neg hh]
      have : (lookO s.O k).2.2 = true := by rw [if_neg hh] at hx; rw [hx]
      rw [if_pos this]
  rw [e1, e2] at this
  exact this
end
end Go.Proofs.YtgdkjkfbknbgkaaGreatDoor
namespace Go.Proofs.YtgdkjkfbknbgkaaGreatDoor
open Go Go.RowKit

section
variable {W W' : World} {h A m : Nat} {f : Nat → Int} {os : List OS} {ts ts1 ts2 : List TO}
/-- The printed form of an error. -/
def woeS (be : Bool) (g1 g2 : ByteArray) : ByteArray := if be then g1 else g1 ++ ⟨#[58, 32]⟩ ++ g2
theorem MP.woe (H : MP W h A m f ts) (hl : ts.length < 1000000) (i j : Nat) (t s : TO) (ht : ts[i]? = some t) (hs : ts[j]? = some s) (hp : t.proto = (j : Int) + 1) (hq : s.proto = 0) (hc : t.cl = 12) (hd : s.cl = 0) (n1 n2 : Int) (s1 s2 g1 g2 : ByteArray) (be : Bool) (hbe : (s2.toList == []) = be) (hz : g1.size ≤ 1000000000 ∧ g2.size ≤ 1000000000)
    (hN : (if (lookO t.O kName).2.2 = true then lookO t.O kName else lookO s.O kName) = ((7, 0, s1), n1, true)) (hM : (if (lookO t.O kMsg).2.2 = true then lookO t.O kMsg else lookO s.O kMsg) = ((7, 0, s2), n2, true))
    (HG1 : ∀ w, Calls Tryz.prog 16 #[.string s1] w fun e w' => e = .returned (.string g1) ∧ Below w.heap.size w w') (HG2 : ∀ w, Calls Tryz.prog 16 #[.string s2] w fun e w' => e = .returned (.string g2) ∧ Below w.heap.size w w') :
    ∀ W', Below W.heap.size W W' → Calls Tryz.prog 17 #[.pointer (some ⟨m, 0, none⟩), valV (9, (i : Int) + 1, ⟨#[]⟩)] W' fun e w' => e = .returned (.string (woeS be g1 g2)) ∧ Below W'.heap.size W' w' := by
  intro W1 hb1
  have H1 := H.on hb1
  have obj : ∀ W2, Below W1.heap.size W1 W2 → ∀ W3, Below W2.heap.size W2 W3 → Calls Tryz.prog 82 #[.pointer (some ⟨m, 0, none⟩), valV (9, (i : Int) + 1, ⟨#[]⟩)] W3 fun e w' => e = .returned (.pointer (some ⟨t.b, 0, none⟩)) ∧ Below W3.heap.size W3 w' := fun W2 hb2 W3 hb3 => by
    have H3 := (H1.on hb2).on hb3
    refine object_yes (W := W3) m h (9, (i : Int) + 1, ⟨#[]⟩) H3.mm.cell0 H3.mm.mb.lt t.b ⟨fun W5 hb5 => ?_⟩
    exact (H3.on hb5).mm.of_ i t.os (by rw [List.getElem?_map, ht]; rfl) ⟨#[]⟩
  have part : ∀ (k : Vt) (nm : ByteArray) (x : Vt) (fl : Int), keyT k = k → k.2.2.size ≤ 1000 → (if (lookO t.O k).2.2 = true then lookO t.O k else lookO s.O k) = (x, fl, true) → (∀ w, Calls Tryz.prog 23 #[.string nm] w fun e w' => e = .returned (valV k) ∧ Below w.heap.size w w') → ∀ W2, Below W1.heap.size W1 W2 → Calls Tryz.prog 44 #[.pointer (some ⟨m, 0, none⟩), valV (9, (i : Int) + 1, ⟨#[]⟩), .string nm] W2 fun e w' => e = .returned (valV x) ∧ Below W2.heap.size W2 w' := fun k nm x fl hk6 hk hx hv W2 hb2 => by
    have H2 := H1.on hb2
    refine part_any W2 m h t.b (9, (i : Int) + 1, ⟨#[]⟩) k x fl true nm H2.mm.cell0 H2.mm.mb.lt rfl ⟨fun W3 hb3 => obj W2 hb2 W3 hb3⟩ ⟨fun W3 => hv W3⟩ ⟨fun W3 hb3 => ?_⟩
    exact (H2.on hb3).find2 hl i j t s ht hs hp hq (by rw [hc]; rfl) (by rw [hd]; rfl) k hk6 hk x fl hx
  refine woe_any W1 m (9, (i : Int) + 1, ⟨#[]⟩) (7, 0, s1) s2 be hbe g1 g2 hz ⟨part kName _ _ _ (keyT_str _ _) (by decide) hN val_name⟩ ⟨part kMsg _ _ _ (keyT_str _ _) (by decide) hM val_msg⟩ ⟨fun W2 hb2 => ?_⟩ ⟨fun W2 hb2 => ?_⟩
  · have H2 := H1.on hb2
    exact brief_no W2 m h (7, 0, s1) H2.mm.cell0 H2.mm.mb.lt rfl g1 ⟨fun W4 _ => leaf_str s1 g1 0 HG1 _ _ W4⟩
  · have H2 := H1.on hb2
    exact brief_no W2 m h (7, 0, s2) H2.mm.cell0 H2.mm.mb.lt rfl g2 ⟨fun W4 _ => leaf_str s2 g2 0 HG2 _ _ W4⟩
theorem MP.errshow (H : MP W h A m f ts) (i : Nat) (t : TO) (ht : ts[i]? = some t) (hc : t.cl = 12) (r : ByteArray)
    (HW : ∀ W', Below W.heap.size W W' → Calls Tryz.prog 17 #[.pointer (some ⟨m, 0, none⟩), valV (9, (i : Int) + 1, ⟨#[]⟩)] W' fun e w' => e = .returned (.string r) ∧ Below W'.heap.size W' w') : Calls Tryz.prog 11 #[.pointer (some ⟨m, 0, none⟩), valV (9, (i : Int) + 1, ⟨#[]⟩)] W fun e w' => e = .returned (.string r) ∧ Below W.heap.size W w' := by
  have hs : Shown W m h (2 + 1) (9, (i : Int) + 1, ⟨#[]⟩) r := by
    refine .inl fun W1 a hb1 => ?_
    refine within_obj W1 _ _ (9, (i : Int) + 1, ⟨#[]⟩) rfl _ ⟨fun W2 hb2 => ?_⟩
    have hbb := hb1.trans (hb2.mono hb1.size)
    have H2 := H.on hbb
    refine printed_err W2 m t.b (9, (i : Int) + 1, ⟨#[]⟩) _ _ (H2.mem_b (List.mem_of_getElem? ht)) (by rw [hc]; rfl) r ⟨fun W3 hb3 => ?_⟩ ⟨fun W3 hb3 => HW W3 (hbb.trans (hb3.mono hbb.size))⟩
    have H3 := H2.on hb3
    refine object_yes (W := W3) m h (9, (i : Int) + 1, ⟨#[]⟩) H3.mm.cell0 H3.mm.mb.lt t.b ⟨fun W5 hb5 => ?_⟩
    exact (H3.on hb5).mm.of_ i t.os (by rw [List.getElem?_map, ht]; rfl) ⟨#[]⟩
  exact show_shown H.mm.cell0 H.mm.mb.lt _ _ hs
theorem MP.make (H : MP W h A m f ts) (cl proto : Int) (hl : ts.length < 100000) : Calls Tryz.prog 13 #[.pointer (some ⟨h, 0, none⟩), .int .i64 cl, .int .i64 proto] W fun e w' => e = .returned (.tuple #[.int .i64 ((ts.length : Int) + 1), .pointer (some ⟨W.heap.size, 0, none⟩)]) ∧ MP w' h A m f (ts ++ [TO.plain W.heap.size cl proto (.slice none 0 0)]) ∧ Bk A W w' := by
  refine (H.mm.make cl proto (by rw [List.length_map]; omega)).mono ?_
  rintro e w' ⟨he, h1, h2, h3, h4⟩
  rw [List.length_map] at he
  exact ⟨he, H.new (t := TO.plain W.heap.size cl proto (.slice none 0 0)) h1 h4 h2 (Nat.le_refl _) (fun _ h => h) (.inl ⟨rfl, rfl, rfl⟩), Bk.of_kp h2 h3⟩
end
end Go.Proofs.YtgdkjkfbknbgkaaGreatDoor
