/- Texts of the stage, joined: Uc Ud Uj. -/
import Derived.Test.YtahkohfppakaiaaGreatDoorBd
import Derived.RangeFuncNested
import Derived.RangeFuncBound
import Derived.RangeFuncCalls
import Derived.RangeFuncLeaves
import Derived.Shelf.Abstract
import Derived.Shelf.RegionOpen
import Derived.WalkKit
import Derived.OwnWalkIn
import Derived.TacticsInMore
import Derived.LoopNIn
import Derived.LoopIn
import Derived.Laws.StructEq
import Derived.Deep.AppendLies
import Derived.Deep.RegionLaw
import Derived.Test.YtahkohfppakaiaaGreatDoorBe
set_option maxHeartbeats 40000000
set_option maxRecDepth 100000
namespace Go.Proofs.YtahkohfppakaiaaGreatDoor
open Go Go.RowKit
theorem Touch.putObj {S : Nat -> Prop} {w : World} {l : Nat} (hl : S l) (o : Obj) : Touch S w (w.putObj l o) :=
 ⟨rfl, rfl, rfl, by simp, fun k _ hk => World.putObj_heap_other (fun e => hk (by rw [e]; exact hl))⟩
section
variable {α : Type} {P : Program} {n : Nat}
def AbT (F : Nat -> Prop) (N : Nat) (J : List α -> World -> Prop) : Prop := ∀ s A B, J s A -> Touch (fun k => F k \/ N <= k) A B -> J s B
def TabStops (n : Nat) (P : Program) (gf : Nat) (lb : Array Value) (encs : α -> Array Value) (F G : Nat -> Prop) (S Sp : List α -> Prop) (Pt : World -> Prop) (W : World) : Prop :=
 ∀ (l : Nat) (J Jx : List α -> World -> Prop), AbT F W.heap.size J -> AbT F W.heap.size Jx ->
  (∀ pre x W1, J pre W1 -> Sp (pre ++ [x]) -> YieldAt Fence.wide (n - 1) P l (encs x) W1 fun e W' =>
   (e = .returned (.bool true) /\ J (pre ++ [x]) W' /\ Touch (fun k => k < W.heap.size /\ ¬ F k /\ ¬ G k) W1 W') \/ (e = .returned (.bool false) /\ Jx (pre ++ [x]) W' /\ Touch (fun k => k < W.heap.size /\ ¬ F k /\ ¬ G k) W1 W')) ->
  J [] W ->
  CallsIn Fence.wide n P gf (#[.func (.yield l) #[] #[]] ++ lb) W fun e W' => (∃ v, e = .returned v) /\ Pt W' /\ ((∃ xs, S xs /\ J xs W') \/ (∃ pre, Sp pre /\ Jx pre W'))
def tabPost (Bx : Nat -> Prop) (I : List α -> World -> Prop) (Ix : Code -> List α -> World -> Prop) (xs : List α) (W : World) : Exit -> Act -> World -> Prop
 | .normal, _, W' => Touch Bx W W' /\ I xs W'
 | .ret, _, W' => Touch Bx W W' /\ Ix .ret xs W'
 | .exit id, _, W' => Touch Bx W W' /\ Ix (.exit id) xs W'
 | .goto t, _, W' => Touch Bx W W' /\ Ix (.goto t) xs W'
 | .panic _, _, _ => False
 | .outgrown, _, _ => False
theorem wpIn_rangeFunc_tab {g : Operand} {ps : Array Tmp} {assign body : Code} {Q : Exit -> Act -> World -> Prop} {a : Act} {w : World} (h1 : 1 <= n) {gf : Nat} {lb : Array Value} (hg : a.eval g = .func (.func gf) #[] lb) (eg : ∀ args w, (callFunc gf args).run P w = .ok (.enter gf args) w)
  {encs : α -> Array Value} {F G : Nat -> Prop} {S Sp : List α -> Prop} {Pt : World -> Prop} (hF : ∀ k, F k -> k < w.heap.size)
  (hseq : ∀ W, Below w.heap.size w W -> TabStops (n - 1) P gf lb encs F G S Sp Pt W) (hPt : ∀ A B l, w.heap.size <= l -> Pt A -> Touch (fun k => k = l) A B -> (∃ o, A.heap[l]? = some (.loop o)) -> Pt B) (hps : ∀ x, (encs x).size = ps.size)
  (Bx : Nat -> Prop) (hBx : ∀ k, Bx k -> k < w.heap.size /\ ¬ F k /\ ¬ G k) (hG : ∀ k, G k -> k < w.heap.size)
  (I : List α -> World -> Prop) (Ix : Code -> List α -> World -> Prop) (hI : ∀ s A B, I s A -> Touch (fun k => F k \/ w.heap.size <= k) A B -> I s B) (hIx : ∀ c s A B, Ix c s A -> Touch (fun k => F k \/ w.heap.size <= k) A B -> Ix c s B) (h0 : I [] w)
  (Ax : Act -> α -> Act -> World -> Prop) (hAx : ∀ x a' A B l, Ax a x a' A -> Touch (fun k => k = l) A B -> (∃ o, A.heap[l]? = some (.loop o)) -> Ax a x a' B)
  (hassign : ∀ (l : Nat) (pre : List α) (x : α) (W : World) (K : Act -> World -> Prop), I pre W -> (∀ a' W', Touch Bx W W' -> I pre W' -> Ax a x a' W' -> K a' W') ->
   assign.wpIn (Fence.wide.inRound l) (n - 1 - 1) P (Exit.then K (fun _ _ _ => False)) { tmps := (ps.zip (encs x)).foldl (fun t (p, v) => t.setIfInBounds p v) a.tmps, defers := [] } W)
  (hbody : ∀ (l : Nat) (pre : List α) (x : α) (a' : Act) (W : World), I pre W -> Ax a x a' W -> Sp (pre ++ [x]) -> body.wpIn (Fence.wide.inRound l) (n - 1 - 1) P (tabPost Bx I Ix (pre ++ [x]) W) a' W)
  (hdone : ∀ (D : Nat) (xs : List α) (W : World), w.heap.size <= D -> S xs -> I xs W -> Pt W -> W.heap[D]? = some (.deferred (some [])) -> Q .normal { a with defers := { target := .collected D, args := #[] } :: a.defers } W)
  (hstop : ∀ (D : Nat) (c : Code) (pre : List α) (W : World), w.heap.size <= D -> Sp pre -> Ix c pre W -> Pt W -> W.heap[D]? = some (.deferred (some [])) -> c.wpIn Fence.wide n P Q { a with defers := { target := .collected D, args := #[] } :: a.defers } W) :
  (Code.rangeFunc g ps assign body).wpIn Fence.wide n P Q a w := by
 refine wpIn_rangeFunc (fun fn hfn => ?_)
 obtain ⟨R, hR⟩ : ∃ R : LoopState -> Option Code -> Loop, R = fun st pe => { state := st, pending := pe, fn, tmps := a.tmps, params := ps, assign, body, defers := w.heap.size } := ⟨_, rfl⟩
 obtain ⟨L, hL⟩ : ∃ L, w.heap.size + 1 = L := ⟨_, rfl⟩
 obtain ⟨V, hV⟩ : ∃ V, (w.alloc (.deferred (some []))).alloc (.loop (R .ready none)) = V := ⟨_, rfl⟩
 have bV : Below w.heap.size w V := by
  rw [<- hV]
  exact ((Below.refl _ w).alloc (Nat.le_refl _) _).alloc (by simp) _
 have sV : V.heap.size = L + 1 := by rw [<- hV, <- hL]; simp
 have vL : V.heap[L]? = some (.loop (R .ready none)) := by
  rw [<- hV, <- hL]
  have := World.alloc_heap_new (w.alloc (.deferred (some []))) (.loop (R .ready none))
  rwa [World.size_alloc] at this
 have vD : V.heap[w.heap.size]? = some (.deferred (some [])) := by
  rw [<- hV]
  exact (Below.heap_alloc _ _ _ (by simp)).trans (World.alloc_heap_new w _)
 have i1 : I [] V := hI _ _ _ h0 (Touch.of_below bV)
 -- what the two blocks of the loop are
 have nF : ∀ k, w.heap.size <= k -> ¬ F k := fun k hk hf => by have := hF k hf; omega
 have nG : ∀ k, w.heap.size <= k -> ¬ G k := fun k hk hf => by have := hG k hf; omega
 have two : ∀ (S' : Nat -> Prop) (A B : World) (o o2 : Obj), Touch S' A B -> ¬ S' L -> ¬ S' w.heap.size -> A.heap[L]? = some o -> A.heap[w.heap.size]? = some o2 -> B.heap[L]? = some o /\ B.heap[w.heap.size]? = some o2 := fun S' A B o o2 ht n1 n2 a1 a2 =>
  ⟨(ht.block L (Array.getElem?_eq_some_iff.1 a1).1 n1).trans a1, (ht.block _ (Array.getElem?_eq_some_iff.1 a2).1 n2).trans a2⟩
 have far : ∀ k, w.heap.size <= k -> k < V.heap.size -> ¬ (F k \/ V.heap.size <= k) := fun k h2 h3 h4 => by
  rcases h4 with h4 | h4
  ·exact nF k h2 h4
  ·omega
 have nB : ∀ k, w.heap.size <= k -> ¬ Bx k := fun k hk hb => by have := (hBx k hb).1; omega
 have tput : ∀ (A : World) (o : Obj), Touch (fun k => F k \/ w.heap.size <= k) A (A.putObj L o) := fun A o => Touch.putObj (.inr (by omega)) o
 have tpu : ∀ (A : World) (o : Obj), Touch (fun k => k < V.heap.size /\ ¬ F k /\ ¬ G k) A (A.putObj L o) := fun A o => Touch.putObj ⟨by omega, nF L (by omega), nG L (by omega)⟩ o
 have tBx : ∀ (A B : World), Touch Bx A B -> Touch (fun k => k < V.heap.size /\ ¬ F k /\ ¬ G k) A B := fun A B h => h.mono (fun k hk => ⟨by have := (hBx k hk).1; omega, (hBx k hk).2⟩)
 refine ⟨L, [{ target := .collected w.heap.size, args := #[] }], V, { target := .fn (.func gf) lb, args := #[.func (.yield L) #[] #[]] }, V, gf, #[.func (.yield L) #[] #[]] ++ lb, V, ?_, ?_, ?_, ?_, fun _ => h1, ?_⟩
 ·rw [<- hV, hR, <- hL]
  exact run_enterLoop_outer _ _ _ _ _
 ·simp only [resolve, hg]
  simp [go_sem]
 ·intro f' _
  trivial
 ·simp [invoke, go_sem, eg]
 refine (hseq V bV L (fun pre W => I pre W /\ W.heap[L]? = some (.loop (R .ready none)) /\ W.heap[w.heap.size]? = some (.deferred (some []))) (fun pre W => ∃ c, Ix c pre W /\ W.heap[L]? = some (.loop (R .done (some c))) /\ W.heap[w.heap.size]? = some (.deferred (some [])))
  ?_ ?_ ?_ ⟨i1, vL, vD⟩).mono ?_
 ·rintro s A B ⟨a1, a2, a3⟩ ht
  obtain ⟨b1, b2⟩ := two _ A B _ _ ht (far L (by omega) (by omega)) (far _ (Nat.le_refl _) (by omega)) a2 a3
  exact ⟨hI _ _ _ a1 (ht.mono (fun k hk => hk.imp id (fun h => by omega))), b1, b2⟩
 ·rintro s A B ⟨c, a1, a2, a3⟩ ht
  obtain ⟨b1, b2⟩ := two _ A B _ _ ht (far L (by omega) (by omega)) (far _ (Nat.le_refl _) (by omega)) a2 a3
  exact ⟨c, hIx _ _ _ _ a1 (ht.mono (fun k hk => hk.imp id (fun h => by omega))), b1, b2⟩
 ·rintro pre x W ⟨a1, a2, a3⟩ hlen
  have hy := run_yield (P := P) (args := encs x) a2 (by rw [hR]; exact hps x)
  rw [hR] at hy
  refine ⟨fn, _, assign, body, hy, roundIn_of_wpIn hfn (hassign _ pre x W _ a1 ?_)⟩
  clear hy
  intro a' Wa ta ia xa
  obtain ⟨b2, b3⟩ := two _ W Wa _ _ ta (nB L (by omega)) (nB _ (Nat.le_refl _)) a2 a3
  have lt1 := (Array.getElem?_eq_some_iff.1 b2).1
  refine ⟨_, run_beginRound b2 (by rw [hR]), ?_⟩
  obtain ⟨bz, hbz⟩ : ∃ o, o = Obj.loop { R .ready none with state := .busy } := ⟨_, rfl⟩
  rw [<- hbz]
  have c2 : (Wa.putObj L bz).heap[L]? = some bz := World.putObj_heap_same lt1
  have c3 : (Wa.putObj L bz).heap[w.heap.size]? = some (.deferred (some [])) := (World.putObj_heap_other (by omega)).trans b3
  have tb := tpu Wa bz
  refine wpIn_mono (hbody _ pre x a' _ (hI _ _ _ ia (tput Wa bz)) (hAx _ _ _ _ L xa (Touch.putObj (S := fun k => k = L) rfl bz) ⟨_, b2⟩) hlen) ?_
  have fin : ∀ (jump : Option Code) (W3 : World), Touch Bx (Wa.putObj L bz) W3 -> ∃ o, o = Obj.loop (R (if jump.isNone then .ready else .done) jump) /\ (Instr.endRound L jump).run P W3 = .ok (.bool jump.isNone) (W3.putObj L o) /\
    (W3.putObj L o).heap[L]? = some o /\ (W3.putObj L o).heap[w.heap.size]? = some (.deferred (some [])) /\ Touch (fun k => k < V.heap.size /\ ¬ F k /\ ¬ G k) W (W3.putObj L o) := fun jump W3 t3 => by
   obtain ⟨d2, d3⟩ := two _ _ W3 _ _ t3 (nB L (by omega)) (nB _ (Nat.le_refl _)) c2 c3
   rw [hbz] at d2
   have hr := run_endRound (P := P) jump d2
   refine ⟨_, rfl, ?_, World.putObj_heap_same (Array.getElem?_eq_some_iff.1 d2).1, (World.putObj_heap_other (by omega)).trans d3, ((((tBx _ _ ta).trans tb).trans (tBx _ _ t3)).trans (tpu W3 _))⟩
   rw [hR] at hr ⊢
   exact hr
  rintro e a3' W3 hp
  cases e with
  | normal =>
   obtain ⟨t3, i3⟩ := hp
   obtain ⟨o, ho, hr, e2, e3, e4⟩ := fin none W3 t3
   exact ⟨_, _, hr, .inl ⟨rfl, ⟨hI _ _ _ i3 (tput W3 o), by rw [e2, ho]; rfl, e3⟩, e4⟩⟩
  | ret =>
   obtain ⟨t3, i3⟩ := hp
   obtain ⟨o, ho, hr, e2, e3, e4⟩ := fin (some .ret) W3 t3
   exact ⟨_, _, hr, .inr ⟨rfl, ⟨.ret, hIx _ _ _ _ i3 (tput W3 o), by rw [e2, ho]; rfl, e3⟩, e4⟩⟩
  | exit id =>
   obtain ⟨t3, i3⟩ := hp
   obtain ⟨o, ho, hr, e2, e3, e4⟩ := fin (some (.exit id)) W3 t3
   exact ⟨_, _, hr, .inr ⟨rfl, ⟨.exit id, hIx _ _ _ _ i3 (tput W3 o), by rw [e2, ho]; rfl, e3⟩, e4⟩⟩
  | goto t =>
   obtain ⟨t3, i3⟩ := hp
   obtain ⟨o, ho, hr, e2, e3, e4⟩ := fin (some (.goto t)) W3 t3
   exact ⟨_, _, hr, .inr ⟨rfl, ⟨.goto t, hIx _ _ _ _ i3 (tput W3 o), by rw [e2, ho]; rfl, e3⟩, e4⟩⟩
  | panic ch => exact hp.elim
  | outgrown => exact hp.elim
 ·rintro e W2 ⟨⟨v, rfl⟩, hpt, hJ⟩
  rcases hJ with ⟨xs, hS, a1, a2, a3⟩ | ⟨pre, hSp, c, a1, a2, a3⟩
  ·have hr := run_endLoop (P := P) a2 (by rw [hR]; simp)
   refine ⟨none, _, by rw [hr, hR], hdone _ xs _ (Nat.le_refl _) hS (hI _ _ _ a1 (tput W2 _)) (hPt _ _ L (by omega) hpt (Touch.putObj (S := fun k => k = L) rfl _) ⟨_, a2⟩) ((World.putObj_heap_other (by omega)).trans a3)⟩
  ·have hr := run_endLoop (P := P) a2 (by rw [hR]; simp)
   refine ⟨some c, _, by rw [hr, hR], hstop _ c pre _ (Nat.le_refl _) hSp (hIx _ _ _ _ a1 (tput W2 _)) (hPt _ _ L (by omega) hpt (Touch.putObj (S := fun k => k = L) rfl _) ⟨_, a2⟩) ((World.putObj_heap_other (by omega)).trans a3)⟩
end
end Go.Proofs.YtahkohfppakaiaaGreatDoor
namespace Go.Proofs.YtahkohfppakaiaaGreatDoor
open Go Go.RowKit
attribute [local go_sem] Oper.semAt_some
def nxtR (ch : List (Nat × Nat)) (k : Nat) : Nat := match ch[k]? with
 | some x => x.1
 | none => 0
structure CH (w : World) (B h A : Nat) (cv fv rv : Value) (d : AD) (ch : List (Nat × Nat)) : Prop where
 hp : HpAt w B h A cv fv rv d
 st : ∀ (k : Nat) r nb, ch[k]? = some (r, nb) -> d.get (r : Int) = some (64, nb) /\ ∃ cs, Box w nb 63 cs /\ cs[1]? = some (.int .i64 (nxtR ch (k + 1) : Int))
 cnt : ch.length <= d.count
def CFoot (h A : Nat) (cv fv rv : Value) (ch : List (Nat × Nat)) (k : Nat) : Prop := k = h \/ AFoot A cv fv rv k \/ ∃ x ∈ ch, k = x.2
theorem CH.touch {w w' : World} {B h A : Nat} {cv fv rv : Value} {d : AD} {ch : List (Nat × Nat)} {S : Nat -> Prop} (H : CH w B h A cv fv rv d ch) (ht : Touch S w w') (hn : ∀ k, CFoot h A cv fv rv ch k -> ¬ S k) : CH w' B h A cv fv rv d ch :=
 ⟨⟨H.hp.hb.touch ht (hn h (.inl rfl)), H.hp.ar.touch ht (fun k hk => hn k (.inr (.inl hk))), H.hp.hB⟩, fun k r nb hk => by
  obtain ⟨h1, cs, h2, h3⟩ := H.st k r nb hk
  exact ⟨h1, cs, h2.touch ht (hn nb (.inr (.inr ⟨_, List.mem_of_getElem? hk, rfl⟩))), h3⟩, H.cnt⟩
theorem CH.on {w w' : World} {B h A : Nat} {cv fv rv : Value} {d : AD} {ch : List (Nat × Nat)} (H : CH w B h A cv fv rv d ch) (hb : Below w.heap.size w w') : CH w' B h A cv fv rv d ch := H.touch (S := fun _ => False) (Touch.of_below hb) (fun _ _ h => h)
theorem CH.lt {w : World} {B h A : Nat} {cv fv rv : Value} {d : AD} {ch : List (Nat × Nat)} (H : CH w B h A cv fv rv d ch) {k : Nat} (hk : CFoot h A cv fv rv ch k) : k < w.heap.size := by
 rcases hk with rfl | hk | ⟨x, hx, rfl⟩
 ·exact H.hp.hb.lt
 ·exact (AFoot.lt H.hp.ar hk).2
 ·obtain ⟨i, hi⟩ := List.mem_iff_getElem?.1 hx
  obtain ⟨-, cs, h2, -⟩ := H.st i x.1 x.2 hi
  exact h2.lt
theorem get_zero (d : AD) : d.get 0 = none := by
 unfold AD.get
 rw [if_neg (by omega)]
theorem take_snoc {α : Type} (l : List α) (k : Nat) (x : α) (h : l[k]? = some x) : l.take (k + 1) = l.take k ++ [x] := by rw [List.take_add_one, h]; rfl
theorem chain_any (r : Int) (p : Option Addr) (w : World) : Calls Tryz.prog 124 #[.pointer p, .int .i64 r] w fun e w' => e = .returned (.func (.func 140) #[] #[.pointer (some ⟨w.heap.size, 0, none⟩), .pointer (some ⟨w.heap.size + 1, 0, none⟩)]) /\ Box w' w.heap.size 38 #[.pointer p] /\ Box w' (w.heap.size + 1) 3 #[.int .i64 r] /\ Below w.heap.size w w' := by
 have b1 := (Box.new w 38 #[.pointer p]).more (.cells #[.int .i64 r] 3)
 have b2 := Box.new (w.alloc (.cells #[.pointer p] 38)) 3 #[.int .i64 r]
 have bb : Below w.heap.size w ((w.alloc (.cells #[.pointer p] 38)).alloc (.cells #[.int .i64 r] 3)) := ((Below.refl _ _).alloc (Nat.le_refl _) _).alloc (by rw [World.size_alloc]; omega) _
 rw [World.size_alloc] at b2
 go_enter Tryz.func124, Tryz.ntmps124
 go_wp2
 go_ret
 exact ⟨rfl, b1, b2, bb⟩
theorem chain_stops (n : Nat) (hn : 2 <= n) {B h A : Nat} {cv fv rv : Value} {d : AD} {ch : List (Nat × Nat)} (hb rb : Nat) (hsm : d.count < 1000000) (W : World) (H : CH W B h A cv fv rv d ch) (bh : Box W hb 38 #[.pointer (some ⟨h, 0, none⟩)]) (br : Box W rb 3 #[.int .i64 (nxtR ch 0 : Int)]) (hnr : ¬ CFoot h A cv fv rv ch rb) :
  TabStops n Tryz.prog 140 #[.pointer (some ⟨hb, 0, none⟩), .pointer (some ⟨rb, 0, none⟩)] (fun x : Nat × Nat => #[.int .i64 (x.1 : Int), .pointer (some ⟨x.2, 0, none⟩)]) (fun k => k = rb) (fun k => k = hb \/ CFoot h A cv fv rv ch k) (fun xs => xs = ch) (fun pre => pre <+: ch) (fun _ => True) W := by
 intro l J Jx hJ hJx hY h0
 have hn1 : 1 <= n := by omega
 have hn2 : 1 <= n - 1 := by omega
 have hne : rb ≠ hb := br.lab.ne bh.lab (by decide)
 have c0 : W.cell? ⟨hb, 0, none⟩ = some (.pointer (some ⟨h, 0, none⟩)) := bh.at_ 0
 have d0 : W.cell? ⟨h, 0, none⟩ = some (.pointer (some ⟨A, 0, none⟩)) := H.hp.hb.at_ 0
 have HC := Veil.mk (count_any B A cv fv rv _ W H.hp.ar)
 have HST := Veil.mk (And.intro H (And.intro bh br))
 have HJJ := Veil.mk (And.intro hJ (And.intro hJx h0))
 have HY := Veil.mk hY
 have hbl := bh.lt
 have hrbl := br.lt
 have HLT := Veil.mk (fun k (hk : CFoot h A cv fv rv ch k) => H.lt hk)
 clear H bh br hJ hJx h0 hY
 refine callsIn_of_wp Tryz.func140 rfl trivial ?_ rfl
 simp only [Tryz.ntmps140, List.size_toArray, List.length_cons, List.length_nil, Nat.reduceAdd, Nat.reduceSub, Array.replicate_succ, Array.replicate_zero, List.push_toArray, List.append_toArray, List.nil_append, List.cons_append]
 gi_wp2_with (first | (refine ⟨trivial, ?_⟩; gi_at_call 123; refine (callsIn_wide.2 HC.out).mono ?_; rintro e w1 ⟨rfl, h1⟩; subst w1))
 clear c0 d0
 gi_loopw [12] (fun i wr => ∃ k : Nat, k <= ch.length /\ i = .int .i64 (k : Int) /\ J (ch.take k) wr /\ CH wr B h A cv fv rv d ch /\ Box wr hb 38 #[.pointer (some ⟨h, 0, none⟩)] /\ Box wr rb 3 #[.int .i64 (nxtR ch k : Int)] /\ W.heap.size <= wr.heap.size) (fun i _ => d.count - (intOf i).toNat)
 case atStart => exact ⟨0, by omega, rfl, HJJ.out.2.2, HST.out.1, HST.out.2.1, HST.out.2.2, Nat.le_refl _⟩
 case round =>
  obtain ⟨k, hkc, rfl, hJk, hK, bh, br, hsz⟩ := hrel
  have hk0 : (0 : Int) <= (k : Int) := by omega
  by_cases hlt : k < d.count
  ·have hlt' : (k : Int) < (d.count : Int) := by omega
   have c0 : wr.cell? ⟨hb, 0, none⟩ = some (.pointer (some ⟨h, 0, none⟩)) := bh.at_ 0
   have r0 : wr.cell? ⟨rb, 0, none⟩ = some (.int .i64 (nxtR ch k : Int)) := br.at_ 0
   have r0f := br.free 0
   cases hck : ch[k]? with
   | none =>
    have hx0 : nxtR ch k = 0 := by unfold nxtR; rw [hck]
    rw [hx0] at r0
    have HO := Veil.mk (obj_none hK.hp 0 (get_zero _))
    have hkl : ch.length <= k := by
     rcases Nat.lt_or_ge k ch.length with h9 | h9
     ·rw [List.getElem?_eq_getElem h9] at hck; cases hck
     ·exact h9
    replace r0 : wr.cell? ⟨rb, 0, none⟩ = some (.int .i64 0) := r0
    have HJ2 := Veil.mk (And.intro hJk hkl)
    clear hK bh br hJk hx0 hck hkl
    gi_wp2_with (first | (refine ⟨trivial, ?_⟩; gi_at_call 32; refine (callsIn_wide.2 HO.out).mono ?_; rintro e w1 ⟨rfl, h1⟩; subst w1))
    refine ⟨fun _ h => (by cases h), ?_⟩
    gi_wp2
    refine bodyPost_ret (results_none rfl _ _ _) rfl ?_
    exact ⟨⟨_, rfl⟩, trivial, .inl ⟨_, rfl, by have := HJ2.out.1; rwa [List.take_of_length_le HJ2.out.2] at this⟩⟩
   | some x =>
    obtain ⟨r, nb⟩ := x
    have hxk : nxtR ch k = r := by unfold nxtR; rw [hck]
    obtain ⟨hg, cs, hbx, hc1⟩ := hK.st k r nb hck
    have hkl : k < ch.length := (List.getElem?_eq_some_iff.1 hck).1
    have HO := Veil.mk (obj_some hK.hp (r : Int) nb hg)
    have hps := take_snoc ch k (r, nb) hck
    have hpre : ch.take k ++ [(r, nb)] <+: ch := by rw [<- hps]; exact List.take_prefix _ _
    obtain ⟨fn, tmps, assign, body, hy, hR⟩ := HY.out (ch.take k) (r, nb) wr hJk hpre
    rw [hxk] at r0 br
    have HK2 := Veil.mk (And.intro hK (And.intro bh (And.intro br (And.intro hbx (And.intro hc1 hck)))))
    have HPS := Veil.mk (And.intro hps (And.intro hpre hkl))
    clear hK bh br hJk hps hpre hg hxk hbx hc1 hck hkl
    gi_wp2_with (first | (refine ⟨trivial, ?_⟩; gi_at_call 32; refine (callsIn_wide.2 HO.out).mono ?_; rintro e w1 ⟨rfl, h1⟩; subst w1; refine Hid.out ?_))
    refine Lib.hid ?_
    gi_wp2
    refine hR.mono ?_
    rintro e W3 (⟨rfl, hJ3, ht3⟩ | ⟨rfl, hJx3, ht3⟩)
    ·obtain ⟨hK, bh, br, hbx, hc1, hck⟩ := HK2.out
     obtain ⟨nx, hnx⟩ : ∃ nx, nxtR ch (k + 1) = nx := ⟨_, rfl⟩
     rw [hnx] at hc1
     have hK3 := hK.touch ht3 (fun j hj h => h.2.2 (.inr hj))
     have bh3 := bh.touch ht3 (fun h => h.2.2 (.inl rfl))
     have br3 := br.touch ht3 (fun h => h.2.1 rfl)
     have hb3 := hbx.touch ht3 (fun h => h.2.2 (.inr (.inr (.inr ⟨_, List.mem_of_getElem? hck, rfl⟩))))
     have tp : Touch (fun j => j = rb) W3 (W3.setCell ⟨rb, 0, none⟩ (.int .i64 (nx : Int))) := Touch.put (S := fun j => j = rb) rfl _ _
     have o1 : W3.cell? ⟨nb, 1, none⟩ = some (.int .i64 (nx : Int)) := by rw [hb3.at_ 1]; exact hc1
     have r3 : W3.cell? ⟨rb, 0, none⟩ = some (.int .i64 (r : Int)) := br3.at_ 0
     have r3f := br3.free 0
     have HN : Veil (J (ch.take (k + 1)) (W3.setCell ⟨rb, 0, none⟩ (.int .i64 (nx : Int))) /\ CH (W3.setCell ⟨rb, 0, none⟩ (.int .i64 (nx : Int))) B h A cv fv rv d ch /\ Box (W3.setCell ⟨rb, 0, none⟩ (.int .i64 (nx : Int))) hb 38 #[.pointer (some ⟨h, 0, none⟩)] /\ Box (W3.setCell ⟨rb, 0, none⟩ (.int .i64 (nx : Int))) rb 3 #[.int .i64 (nx : Int)] /\ W.heap.size <= (W3.setCell ⟨rb, 0, none⟩ (.int .i64 (nx : Int))).heap.size) :=
      ⟨by rw [HPS.out.1]; exact HJJ.out.1 _ _ _ hJ3 (tp.mono (fun j hj => .inl hj)), hK3.touch tp (fun j hj e => hnr (e ▸ hj)), bh3.touch tp (fun e => hne e.symm), br3.put 0 _, Nat.le_trans hsz (Nat.le_trans ht3.size tp.size)⟩
     have HNX := Veil.mk hnx
     have hkl := HPS.out.2.2
     clear hK bh br hbx hc1 hck hK3 bh3 br3 hb3 tp hJ3 ht3 c0 r0 r0f hR hy hnx
     gi_wp2
     go_roundw
     case rel => exact ⟨k + 1, by omega, by go_num, by rw [HNX.out]; exact HN.out⟩
     case measure => simp [intOf]; omega
    ·gi_wp2
     refine bodyPost_ret (results_none rfl _ _ _) rfl ?_
     exact ⟨⟨_, rfl⟩, trivial, .inr ⟨_, HPS.out.2.1, hJx3⟩⟩
  ·have hkl : ch.length <= k := by have := hK.cnt; omega
   have hlt' : ¬ (k : Int) < (d.count : Int) := by omega
   have HJ2 := Veil.mk (And.intro hJk hkl)
   clear hK bh br hJk hkc hkl
   gi_wp2
   refine bodyPost_end (results_none rfl _ _ _) rfl ?_
   exact ⟨⟨_, rfl⟩, .inl (by have := HJ2.out.1; rwa [List.take_of_length_le HJ2.out.2] at this)⟩
end Go.Proofs.YtahkohfppakaiaaGreatDoor
namespace Go.Proofs.YtahkohfppakaiaaGreatDoor
open Go Go.RowKit
attribute [local go_sem] Oper.semAt_some
def findG (L : Nat -> Vt × Int × Bool) : Nat -> Nat -> Vt × Int × Bool
 | _, 0 => ((0, 0, ⟨#[]⟩), 0, false)
 | i, n + 1 => if (L i).2.2 = true then L i else findG L (i + 1) n
structure FX (w : World) (N b5 b6 b7 b8 : Nat) (k v : Vt) (f : Int) (ok : Bool) (W : World) : Prop where
 bel : Below N w W
 k5 : Box W b5 28 #[.int .i64 k.1, .int .i64 k.2.1, .string k.2.2]
 r6 : Box W b6 28 #[.int .i64 v.1, .int .i64 v.2.1, .string v.2.2]
 r7 : Box W b7 3 #[.int .i64 f]
 r8 : Box W b8 4 #[.bool ok]
theorem FX.touch {w W W' : World} {N b5 b6 b7 b8 : Nat} {k v : Vt} {f : Int} {ok : Bool} {S : Nat -> Prop} (h : FX w N b5 b6 b7 b8 k v f ok W) (hN : N <= W.heap.size) (ht : Touch S W W') (hl : ∀ k, S k -> N <= k) (h5 : ¬ S b5) (h6 : ¬ S b6) (h7 : ¬ S b7) (h8 : ¬ S b8) : FX w N b5 b6 b7 b8 k v f ok W' :=
 ⟨h.bel.trans (ht.below hN hl), h.k5.touch ht h5, h.r6.touch ht h6, h.r7.touch ht h7, h.r8.touch ht h8⟩
theorem FX.done {w W : World} {N b5 b6 b7 b8 : Nat} {k v0 : Vt} {f0 : Int} {ok0 : Bool} (h : FX w N b5 b6 b7 b8 k v0 f0 ok0 W) (h6 : N <= b6) (h7 : N <= b7) (h8 : N <= b8) (n1 : b5 ≠ b6) (v : Vt) (f : Int) (ok : Bool) :
  FX w N b5 b6 b7 b8 k v f ok (((((W.setCell ⟨b6, 0, none⟩ (.int .i64 v.1)).setCell ⟨b6, 1, none⟩ (.int .i64 v.2.1)).setCell ⟨b6, 2, none⟩ (.string v.2.2)).setCell ⟨b7, 0, none⟩ (.int .i64 f)).setCell ⟨b8, 0, none⟩ (.bool ok)) /\
  Touch (fun j => j = b6 \/ j = b7 \/ j = b8) W (((((W.setCell ⟨b6, 0, none⟩ (.int .i64 v.1)).setCell ⟨b6, 1, none⟩ (.int .i64 v.2.1)).setCell ⟨b6, 2, none⟩ (.string v.2.2)).setCell ⟨b7, 0, none⟩ (.int .i64 f)).setCell ⟨b8, 0, none⟩ (.bool ok)) := by
 have n67 : b6 ≠ b7 := h.r6.lab.ne h.r7.lab (by decide)
 have n68 : b6 ≠ b8 := h.r6.lab.ne h.r8.lab (by decide)
 have n78 : b7 ≠ b8 := h.r7.lab.ne h.r8.lab (by decide)
 have n57 : b5 ≠ b7 := h.k5.lab.ne h.r7.lab (by decide)
 have n58 : b5 ≠ b8 := h.k5.lab.ne h.r8.lab (by decide)
 have t1 := ((Touch.put (S := fun j => j = b6) (w := W) rfl 0 (.int .i64 v.1)).trans (Touch.put (S := fun j => j = b6) rfl 1 (.int .i64 v.2.1))).trans (Touch.put (S := fun j => j = b6) rfl 2 (.string v.2.2))
 have a6 := ((h.r6.put 0 (.int .i64 v.1)).put 1 (.int .i64 v.2.1)).put 2 (.string v.2.2)
 have a5 := h.k5.touch t1 n1
 have a7 := h.r7.touch t1 (fun e => n67 e.symm)
 have a8 := h.r8.touch t1 (fun e => n68 e.symm)
 have hb1 := h.bel.trans (t1.below (by have := h.r6.lt; omega) (fun j hj => by omega))
 generalize ((W.setCell ⟨b6, 0, none⟩ (.int .i64 v.1)).setCell ⟨b6, 1, none⟩ (.int .i64 v.2.1)).setCell ⟨b6, 2, none⟩ (.string v.2.2) = W1 at t1 a6 a5 a7 a8 hb1 ⊢
 have t2 := Touch.put (S := fun j => j = b7) (w := W1) rfl 0 (.int .i64 f)
 have c6 := a6.touch t2 n67
 have c5 := a5.touch t2 n57
 have c8 := a8.touch t2 (fun e => n78 e.symm)
 have c7 := a7.put 0 (.int .i64 f)
 have hb2 := hb1.trans (t2.below (by have := a6.lt; omega) (fun j hj => by omega))
 generalize W1.setCell ⟨b7, 0, none⟩ (.int .i64 f) = W2 at t2 c6 c5 c8 c7 hb2 ⊢
 have t3 := Touch.put (S := fun j => j = b8) (w := W2) rfl 0 (.bool ok)
 exact ⟨⟨hb2.trans (t3.below (by have := c6.lt; omega) (fun j hj => by omega)), c5.touch t3 n58, c6.touch t3 n68, c7.touch t3 n78, c8.put 0 _⟩, (t1.mono (fun j hj => .inl hj)).trans ((t2.mono (fun j hj => .inr (.inl hj))).trans (t3.mono (fun j hj => .inr (.inr hj))))⟩
theorem fin_find {n : Nat} {t : Array Value} {w W : World} {N b5 b6 b7 b8 D : Nat} {k v : Vt} {f : Int} {ok : Bool} (h : FX w N b5 b6 b7 b8 k v f ok W) (h6 : t[6]? = some (.pointer (some ⟨b6, 0, none⟩))) (h7 : t[7]? = some (.pointer (some ⟨b7, 0, none⟩))) (h8 : t[8]? = some (.pointer (some ⟨b8, 0, none⟩))) (hK : W.heap[D]? = some (.deferred (some []))) (hD : N <= D) (hN : N <= W.heap.size) :
  bodyPostM Fence.wide n Tryz.prog Tryz.f94 (fun e w' => e = .returned (.tuple #[valV v, .int .i64 f, .bool ok]) /\ Below N w w') Exit.ret { tmps := t, defers := [{ target := .collected D, args := #[] }] } W := by
 refine ⟨by simp, .inl ⟨_, _, rfl, run_takeDeferred hK, ?_⟩⟩
 have tp := Touch.putObj (S := fun j => j = D) (w := W) rfl (.deferred none)
 have nD : ∀ (j : Nat) (e : TypeId) (cs : Array Value), Box W j e cs -> ¬ j = D := fun j e cs hb hj => by
  subst hj
  have := (show W.heap[j]? = _ from hb).symm.trans hK
  simp at this
 have a6 := h.r6.touch tp (nD _ _ _ h.r6)
 have a7 := h.r7.touch tp (nD _ _ _ h.r7)
 have a8 := h.r8.touch tp (nD _ _ _ h.r8)
 have hb := h.bel.trans (tp.below hN (fun j hj => by omega))
 generalize W.putObj D (.deferred none) = W9 at a6 a7 a8 hb ⊢
 have y0 : W9.cell? ⟨b6, 0, none⟩ = some (.int .i64 v.1) := a6.at_ 0
 have y1 : W9.cell? ⟨b6, 1, none⟩ = some (.int .i64 v.2.1) := a6.at_ 1
 have y2 : W9.cell? ⟨b6, 2, none⟩ = some (.string v.2.2) := a6.at_ 2
 have y7 : W9.cell? ⟨b7, 0, none⟩ = some (.int .i64 f) := a7.at_ 0
 have y8 : W9.cell? ⟨b8, 0, none⟩ = some (.bool ok) := a8.at_ 0
 exact ⟨.tuple #[valV v, .int .i64 f, .bool ok], by simp [results, Tryz.results94, go_sem, h6, h7, h8, y0, y1, y2, y7, y8], rfl, hb⟩
def AxH (a : Act) (x : Nat × Nat) (a' : Act) (_ : World) : Prop := a' = { tmps := ((a.tmps.setIfInBounds 17 (.int .i64 (x.1 : Int))).setIfInBounds 18 (.pointer (some ⟨x.2, 0, none⟩))).setIfInBounds 10 (.pointer (some ⟨x.2, 0, none⟩)), defers := [] }
def FNo (L : Nat -> Vt × Int × Bool) (n : Nat) (pre : List (Nat × Nat)) : Prop := ∃ q, n = pre.length + q /\ findG L 0 n = findG L pre.length q
theorem hfind_any {w : World} {B h A : Nat} {cv fv rv : Value} {d : AD} {ch : List (Nat × Nat)} (H : CH w B h A cv fv rv d ch) (hsm : d.count < 1000000) (k : Vt) (L : Nat -> Vt × Int × Bool) (HO : ∀ (i : Nat) r nb, ch[i]? = some (r, nb) -> ∀ W, Below w.heap.size w W -> Calls Tryz.prog 71 #[.pointer (some ⟨nb, 0, none⟩), valV k] W fun e w' => e = .returned (.tuple #[valV (L i).1, .int .i64 (L i).2.1, .bool (L i).2.2]) /\ Below W.heap.size W w') :
  Calls Tryz.prog 94 #[.pointer (some ⟨h, 0, none⟩), .int .i64 (nxtR ch 0 : Int), valV k] w fun e w' => e = .returned (.tuple #[valV (findG L 0 ch.length).1, .int .i64 (findG L 0 ch.length).2.1, .bool (findG L 0 ch.length).2.2]) /\ Below w.heap.size w w' := by
 obtain ⟨⟨v9, f9, ok9⟩, hz⟩ : ∃ z, findG L 0 ch.length = z := ⟨_, rfl⟩
 rw [hz]
 have HZ := Veil.mk hz
 clear hz
 obtain ⟨N, hN⟩ : ∃ N, w.heap.size = N := ⟨_, rfl⟩
 have b5 := (((Box.new w 28 #[.int .i64 k.1, .int .i64 k.2.1, .string k.2.2]).more (.cells #[.int .i64 0, .int .i64 0, .string ⟨#[]⟩] 28)).more (.cells #[.int .i64 0] 3)).more (.cells #[.bool false] 4)
 have b6 := ((Box.new (w.alloc (.cells #[.int .i64 k.1, .int .i64 k.2.1, .string k.2.2] 28)) 28 #[.int .i64 0, .int .i64 0, .string ⟨#[]⟩]).more (.cells #[.int .i64 0] 3)).more (.cells #[.bool false] 4)
 have b7 := (Box.new ((w.alloc (.cells #[.int .i64 k.1, .int .i64 k.2.1, .string k.2.2] 28)).alloc (.cells #[.int .i64 0, .int .i64 0, .string ⟨#[]⟩] 28)) 3 #[.int .i64 0]).more (.cells #[.bool false] 4)
 have b8 := Box.new (((w.alloc (.cells #[.int .i64 k.1, .int .i64 k.2.1, .string k.2.2] 28)).alloc (.cells #[.int .i64 0, .int .i64 0, .string ⟨#[]⟩] 28)).alloc (.cells #[.int .i64 0] 3)) 4 #[.bool false]
 have bb : Below w.heap.size w ((((w.alloc (.cells #[.int .i64 k.1, .int .i64 k.2.1, .string k.2.2] 28)).alloc (.cells #[.int .i64 0, .int .i64 0, .string ⟨#[]⟩] 28)).alloc (.cells #[.int .i64 0] 3)).alloc (.cells #[.bool false] 4)) := ((((Below.refl _ _).alloc (Nat.le_refl _) _).alloc (by simp) _).alloc (by simp; omega) _).alloc (by simp; omega) _
 rw [World.size_alloc] at b6
 rw [World.size_alloc, World.size_alloc] at b7
 rw [World.size_alloc, World.size_alloc, World.size_alloc] at b8
 obtain ⟨W0, hW0⟩ : ∃ W0, ((((w.alloc (.cells #[.int .i64 k.1, .int .i64 k.2.1, .string k.2.2] 28)).alloc (.cells #[.int .i64 0, .int .i64 0, .string ⟨#[]⟩] 28)).alloc (.cells #[.int .i64 0] 3)).alloc (.cells #[.bool false] 4)) = W0 := ⟨_, rfl⟩
 rw [hW0] at b5 b6 b7 b8 bb
 rw [hN] at b5 b6 b7 b8 bb ⊢
 have HW0 := Veil.mk (And.intro hW0 hN)
 have hF0 : FX w N N (N + 1) (N + 1 + 1) (N + 1 + 1 + 1) k (0, 0, ⟨#[]⟩) 0 false W0 := ⟨bb, b5, b6, b7, b8⟩
 have HCH := Veil.mk (chain_any (nxtR ch 0 : Int) (some ⟨h, 0, none⟩) W0)
 have hsz0 := b8.lt
 have HF0 := Veil.mk (And.intro hF0 hsz0)
 have HH := Veil.mk (And.intro H hsm)
 have HOO := Veil.mk HO
 have HON : Veil (∀ W, Below N w W -> CH W B h A cv fv rv d ch) := ⟨fun W hb => H.on (by rw [hN]; exact hb)⟩
 have HLT : Veil (∀ j, CFoot h A cv fv rv ch j -> j < N) := ⟨fun j hj => by rw [<- hN]; exact H.lt hj⟩
 rw [hN] at HOO
 clear H HO b5 b6 b7 b8 bb hW0 hN hF0 hsz0
 refine (callsIn_wide (n := 6)).1 (callsIn_of_wp_marks Tryz.func94 rfl trivial (wpIn_wide.2 ?_) rfl)
 simp only [Tryz.ntmps94, List.size_toArray, List.length_cons, List.length_nil, Nat.reduceAdd, Nat.reduceSub, Array.replicate_succ, Array.replicate_zero, List.push_toArray, List.append_toArray, List.nil_append, List.cons_append]
 go_upto_region 1 with (fail)
 rw [HW0.out.1, HW0.out.2]
 go_wp2_with (first | (go_at_call 124; ((with_reducible refine HCH.out.mono ?_); rintro e w2 ⟨rfl, bh, br, hb2⟩)))
 obtain ⟨hF0, hsz0⟩ := HF0.out
 obtain ⟨H, hsm⟩ := HH.out
 obtain ⟨hb, hhb⟩ : ∃ hb, W0.heap.size = hb := ⟨_, rfl⟩
 have hF2 := hF0.touch (S := fun _ => False) (by omega) (Touch.of_below hb2) (fun _ h => h.elim) (fun h => h) (fun h => h) (fun h => h) (fun h => h)
 rw [hhb] at bh br hb2 ⊢
 have hl1 := bh.lt
 have hl2 := br.lt
 have hfl := HLT.out
 refine wpIn_wide.1 (wpIn_rangeFunc_tab (n := 6) (by omega) (gf := 140) (lb := #[.pointer (some ⟨hb, 0, none⟩), .pointer (some ⟨hb + 1, 0, none⟩)]) rfl (enters_of Tryz.func140 (by kernel_rfl) rfl) (encs := fun x : Nat × Nat => #[.int .i64 (x.1 : Int), .pointer (some ⟨x.2, 0, none⟩)]) (F := fun j => j = hb + 1) (G := fun j => j = hb \/ CFoot h A cv fv rv ch j) (S := fun xs => xs = ch) (Sp := fun pre => pre <+: ch) (Pt := fun _ => True) (fun j hj => by omega) ?hseq
  (fun _ _ _ _ h _ _ => h) (fun _ => rfl) (fun j => j = N + 1 \/ j = N + 1 + 1 \/ j = N + 1 + 1 + 1) (fun j hj => ⟨by omega, by omega, fun h => by
   rcases h with h | h
   ·omega
   ·have := hfl j h; omega⟩) (fun j hj => by
   rcases hj with h | h
   ·omega
   ·have := hfl j h; omega) (fun pre W => FX w N N (N + 1) (N + 1 + 1) (N + 1 + 1 + 1) k (0, 0, ⟨#[]⟩) 0 false W /\ w2.heap.size <= W.heap.size /\ FNo L ch.length pre) (fun c _ W => c = .ret /\ w2.heap.size <= W.heap.size /\ ∃ v f, findG L 0 ch.length = (v, f, true) /\ FX w N N (N + 1) (N + 1 + 1) (N + 1 + 1 + 1) k v f true W)
  ?hI ?hIx ⟨hF2, Nat.le_refl _, ch.length, by simp, rfl⟩ AxH (fun _ _ _ _ _ h _ _ => h) ?assign ?body ?done ?stop)
 case hseq =>
  intro W hbW
  exact chain_stops 5 (by omega) hb (hb + 1) hsm W (HON.out W (hF2.bel.trans (hbW.mono (by omega)))) (bh.on hbW bh.lt) (br.on hbW br.lt) (fun h => by have := hfl _ h; omega)
 case hI =>
  rintro pre A' B' ⟨h1, h2, h3⟩ ht
  exact ⟨h1.touch (by omega) ht (fun j hj => by omega) (by omega) (by omega) (by omega) (by omega), by have := ht.size; omega, h3⟩
 case hIx =>
  rintro c pre A' B' ⟨hc, h2, v, f, h3, h1⟩ ht
  exact ⟨hc, by have := ht.size; omega, v, f, h3, h1.touch (by omega) ht (fun j hj => by omega) (by omega) (by omega) (by omega) (by omega)⟩
 case assign =>
  intro l pre x W K hI hK
  gi_wp2
  exact hK _ _ (Touch.refl _ _) hI rfl
 case body =>
  rintro l pre x a' W ⟨hF, hsz, q0, hq0, hfo⟩ rfl hsp
  simp only [List.setIfInBounds_toArray, List.set_cons_zero, List.set_cons_succ]
  have hle : pre.length + 1 <= ch.length := by
   have := hsp.length_le
   rw [List.length_append] at this
   simpa using this
  have hx : ch[pre.length]? = some x := by
   obtain ⟨s, hs⟩ := hsp
   rw [<- hs, List.append_assoc, List.getElem?_append_right (Nat.le_refl _), Nat.sub_self]
   rfl
  obtain ⟨rr, nb⟩ := x
  obtain ⟨q, hq1⟩ : ∃ q, q0 = q + 1 := ⟨q0 - 1, by omega⟩
  subst hq1
  have HOW0 := HOO.out pre.length rr nb hx W hF.bel
  obtain ⟨⟨v, f, ok⟩, hl⟩ : ∃ z, L pre.length = z := ⟨_, rfl⟩
  rw [hl] at HOW0
  have hfs : findG L pre.length (q + 1) = if ok = true then (v, f, ok) else findG L (pre.length + 1) q := by
   show (if (L pre.length).2.2 = true then L pre.length else findG L (pre.length + 1) q) = _
   rw [hl]
  have hq := hq0
  have HOW := Veil.mk HOW0
  have HFW := Veil.mk hF
  have hfree6 := hF.r6.free 0
  have x0 : W.cell? ⟨N, 0, none⟩ = some (.int .i64 k.1) := hF.k5.at_ 0
  have x1 : W.cell? ⟨N, 1, none⟩ = some (.int .i64 k.2.1) := hF.k5.at_ 1
  have x2 : W.cell? ⟨N, 2, none⟩ = some (.string k.2.2) := hF.k5.at_ 2
  have HQ := Veil.mk (And.intro hq (And.intro hfo hfs))
  have hNW : N <= W.heap.size := by omega
  clear HOW0 hl hfs hq hfo hF hq0 hle hsp hx hfree6 H hb2 bh br hF0 hF2
  cases ok with
  | false =>
   gi_wp2_with (first | (refine ⟨trivial, ?_⟩; gi_at_call 71; ((with_reducible refine ((callsIn_wide.2 HOW.out).inRound l).mono ?_); rintro e W' ⟨rfl, hb'⟩)))
   have hbw : Below W.heap.size W (W'.alloc (.cells #[.int .i64 v.1, .int .i64 v.2.1, .string v.2.2] 28)) := hb'.alloc hb'.size _
   obtain ⟨hq, hfo, hfs⟩ := HQ.out
   exact ⟨Touch.of_below hbw, HFW.out.touch (S := fun _ => False) hNW (Touch.of_below hbw) (fun _ h => h.elim) (fun h => h) (fun h => h) (fun h => h) (fun h => h), Nat.le_trans hsz hbw.size, q, by rw [List.length_append]; simp; omega, by rw [List.length_append]; exact hfo.trans hfs⟩
  | true =>
   gi_wp2_with (first | (refine ⟨trivial, ?_⟩; gi_at_call 71; ((with_reducible refine ((callsIn_wide.2 HOW.out).inRound l).mono ?_); rintro e W' ⟨rfl, hb'⟩; refine Hid.out ?_)))
   have hbw : Below W.heap.size W (W'.alloc (.cells #[.int .i64 v.1, .int .i64 v.2.1, .string v.2.2] 28)) := hb'.alloc hb'.size _
   have hF1 := HFW.out.touch (S := fun _ => False) hNW (Touch.of_below hbw) (fun _ h => h.elim) (fun h => h) (fun h => h) (fun h => h) (fun h => h)
   have p6 : (W'.alloc (.cells #[.int .i64 v.1, .int .i64 v.2.1, .string v.2.2] 28)).cell? ⟨N + 1, 0, none⟩ = some (.int .i64 0) := hF1.r6.at_ 0
   have p61 : (W'.alloc (.cells #[.int .i64 v.1, .int .i64 v.2.1, .string v.2.2] 28)).cell? ⟨N + 1, 1, none⟩ = some (.int .i64 0) := hF1.r6.at_ 1
   have p62 : (W'.alloc (.cells #[.int .i64 v.1, .int .i64 v.2.1, .string v.2.2] 28)).cell? ⟨N + 1, 2, none⟩ = some (.string ⟨#[]⟩) := hF1.r6.at_ 2
   have p7 : (W'.alloc (.cells #[.int .i64 v.1, .int .i64 v.2.1, .string v.2.2] 28)).cell? ⟨N + 1 + 1, 0, none⟩ = some (.int .i64 0) := hF1.r7.at_ 0
   have p8 : (W'.alloc (.cells #[.int .i64 v.1, .int .i64 v.2.1, .string v.2.2] 28)).cell? ⟨N + 1 + 1 + 1, 0, none⟩ = some (.bool false) := hF1.r8.at_ 0
   have q6 := hF1.r6.free 0
   have q61 := hF1.r6.free 1
   have q62 := hF1.r6.free 2
   have q7 := hF1.r7.free 0
   have q8 := hF1.r8.free 0
   have bn := Box.new W' 28 #[.int .i64 v.1, .int .i64 v.2.1, .string v.2.2]
   have t0 : (W'.alloc (.cells #[.int .i64 v.1, .int .i64 v.2.1, .string v.2.2] 28)).cell? ⟨W'.heap.size, 0, none⟩ = some (.int .i64 v.1) := bn.at_ 0
   have t1 : (W'.alloc (.cells #[.int .i64 v.1, .int .i64 v.2.1, .string v.2.2] 28)).cell? ⟨W'.heap.size, 1, none⟩ = some (.int .i64 v.2.1) := bn.at_ 1
   have t2 : (W'.alloc (.cells #[.int .i64 v.1, .int .i64 v.2.1, .string v.2.2] 28)).cell? ⟨W'.heap.size, 2, none⟩ = some (.string v.2.2) := bn.at_ 2
   have HFIN := Veil.mk (And.intro hbw hF1)
   clear x0 x1 x2 hbw bn hF1 hb'
   refine Lib.hid ?_
   gi_wp2
   obtain ⟨d1, d2⟩ := HFIN.out.2.done (by omega) (by omega) (by omega) (by omega) v f true
   obtain ⟨hq, hfo, hfs⟩ := HQ.out
   exact ⟨(Touch.of_below HFIN.out.1).trans d2, rfl, Nat.le_trans hsz (Nat.le_trans HFIN.out.1.size d2.size), v, f, hfo.trans (hfs.trans (by simp)), d1⟩
 case done =>
  rintro D xs W hD hxs ⟨hF, hsz, q0, hq0, hfo⟩ - hK
  subst xs
  have hq1 : q0 = 0 := by omega
  have hfo2 : findG L 0 ch.length = ((0, 0, ⟨#[]⟩), 0, false) := by rw [hfo, hq1]; rfl
  have e9 := HZ.out.symm.trans hfo2
  simp only [Prod.mk.injEq] at e9
  obtain ⟨rfl, rfl, rfl⟩ := e9
  have p6 : W.cell? ⟨N + 1, 0, none⟩ = some (.int .i64 0) := hF.r6.at_ 0
  have p61 : W.cell? ⟨N + 1, 1, none⟩ = some (.int .i64 0) := hF.r6.at_ 1
  have p62 : W.cell? ⟨N + 1, 2, none⟩ = some (.string ⟨#[]⟩) := hF.r6.at_ 2
  have p7 : W.cell? ⟨N + 1 + 1, 0, none⟩ = some (.int .i64 0) := hF.r7.at_ 0
  have p8 : W.cell? ⟨N + 1 + 1 + 1, 0, none⟩ = some (.bool false) := hF.r8.at_ 0
  have q6 := hF.r6.free 0
  have q61 := hF.r6.free 1
  have q62 := hF.r6.free 2
  have q7 := hF.r7.free 0
  have q8 := hF.r8.free 0
  have HFIN := Veil.mk (And.intro hF (And.intro hsz hK))
  clear hF hsz hK hfo hfo2 hq0 hq1 HZ H hb2 bh br hF0 hF2
  go_wp2
  obtain ⟨hF, hsz, hK⟩ := HFIN.out
  obtain ⟨d1, d2⟩ := hF.done (by omega) (by omega) (by omega) (by omega) (0, 0, ⟨#[]⟩) 0 false
  exact fin_find d1 rfl rfl rfl ((d2.block D (Array.getElem?_eq_some_iff.1 hK).1 (by omega)).trans hK) (by omega) (Nat.le_trans (by omega) d2.size)
 case stop =>
  rintro D c pre W hD - ⟨rfl, hsz, v, f, hfo, hF⟩ - hK
  have e9 := HZ.out.symm.trans hfo
  simp only [Prod.mk.injEq] at e9
  obtain ⟨rfl, rfl, rfl⟩ := e9
  have HFIN := Veil.mk (And.intro hF (And.intro hsz hK))
  clear hF hsz hK hfo H hb2 bh br hF0 hF2 HZ
  gi_wp2
  obtain ⟨hF, hsz, hK⟩ := HFIN.out
  exact fin_find hF rfl rfl rfl hK (by omega) (by omega)
section
variable {W W' : World} {h A m : Nat} {f : MF} {os : List OS} {ts ts1 ts2 : List TO}
theorem MM.get_ {cells : List (Option Bd)} {c : Nat} (ts : List TO) (hc : cells = (ts.map TO.os).map fun o => some (pty o, o.1)) {k : Nat} {u : TO} (hk : ts[k]? = some u) (h1 : (u.cl == 100) = false) : (⟨cells, [], c, []⟩ : AD).get ((k : Int) + 1) = some (64, u.b) := by
 have hlt : k < ts.length := (List.getElem?_eq_some_iff.1 hk).1
 unfold AD.get
 rw [if_pos ⟨by omega, by show (k : Int) + 1 <= (cells.length : Int); rw [hc, List.length_map, List.length_map]; omega⟩, show ((k : Int) + 1 - 1).toNat = k by omega]
 show cells[k]?.getD none = _
 rw [hc, List.getElem?_map, List.getElem?_map, hk]
 show some (pty u.os, u.os.1) = _
 rw [TO.os_obj h1]
 rfl
theorem MP.chain1 (H : MP W h A m f ts) (hl : ts.length < 1000000) (i : Nat) (t : TO) (ht : ts[i]? = some t) (h1 : (t.cl == 100) = false) (hp : t.proto = 0) : ∃ cv fv rv d, CH W A h A cv fv rv d [(i + 1, t.b)] /\ d.count < 1000000 := by
 obtain ⟨cv, fv, rv, hh⟩ := H.mm.hp
 have hi := (List.getElem?_eq_some_iff.1 ht).1
 refine ⟨cv, fv, rv, _, ⟨hh, fun k r nb hk => ?_, by show 1 <= (ts.map TO.os).length; rw [List.length_map]; omega⟩, by show (ts.map TO.os).length < 1000000; rw [List.length_map]; exact hl⟩
 match k, hk with
 | 0, hk =>
  cases hk
  refine ⟨by have := MM.get_ (c := (ts.map TO.os).length) ts rfl ht h1; rw [show ((i + 1 : Nat) : Int) = (i : Int) + 1 by omega]; exact this, _, H.mem_b (List.mem_of_getElem? ht) h1, ?_⟩
  show some (Value.int .i64 t.proto) = some (.int .i64 0)
  rw [hp]
 | k + 1, hk => cases hk
theorem MP.chain2 (H : MP W h A m f ts) (hl : ts.length < 1000000) (i j : Nat) (t s : TO) (ht : ts[i]? = some t) (hs : ts[j]? = some s) (h1 : (t.cl == 100) = false) (h2 : (s.cl == 100) = false) (hp : t.proto = (j : Int) + 1) (hq : s.proto = 0) : ∃ cv fv rv d, CH W A h A cv fv rv d [(i + 1, t.b), (j + 1, s.b)] /\ d.count < 1000000 := by
 obtain ⟨cv, fv, rv, hh⟩ := H.mm.hp
 have hne : i ≠ j := fun e => by
  subst e
  rw [ht] at hs
  injection hs with hs
  subst hs
  omega
 have h2' : 2 <= ts.length := by
  have h1 := (List.getElem?_eq_some_iff.1 ht).1
  have h3 := (List.getElem?_eq_some_iff.1 hs).1
  omega
 refine ⟨cv, fv, rv, _, ⟨hh, fun k r nb hk => ?_, by show 2 <= (ts.map TO.os).length; rw [List.length_map]; exact h2'⟩, by show (ts.map TO.os).length < 1000000; rw [List.length_map]; exact hl⟩
 match k, hk with
 | 0, hk =>
  cases hk
  refine ⟨by have := MM.get_ (c := (ts.map TO.os).length) ts rfl ht h1; rw [show ((i + 1 : Nat) : Int) = (i : Int) + 1 by omega]; exact this, _, H.mem_b (List.mem_of_getElem? ht) h1, ?_⟩
  show some (Value.int .i64 t.proto) = some (.int .i64 (((j + 1 : Nat)) : Int))
  rw [hp, show ((j + 1 : Nat) : Int) = (j : Int) + 1 by omega]
 | 1, hk =>
  cases hk
  refine ⟨by have := MM.get_ (c := (ts.map TO.os).length) ts rfl hs h2; rw [show ((j + 1 : Nat) : Int) = (j : Int) + 1 by omega]; exact this, _, H.mem_b (List.mem_of_getElem? hs) h2, ?_⟩
  show some (Value.int .i64 s.proto) = some (.int .i64 0)
  rw [hq]
 | k + 2, hk => cases hk
def OwnT (W : World) (b : Nat) (k : Vt) (z : Vt × Int × Bool) : Prop := ∀ W', Below W.heap.size W W' -> Calls Tryz.prog 71 #[.pointer (some ⟨b, 0, none⟩), valV k] W' fun e w' => e = .returned (.tuple #[valV z.1, .int .i64 z.2.1, .bool z.2.2]) /\ Below W'.heap.size W' w'
theorem MP.ownT (H : MP W h A m f ts) {i : Nat} {t : TO} (ht : ts[i]? = some t) (h1 : (t.cl == 100) = false) (k : Vt) (hc : NE t.cl k) (hk6 : keyT k = k) (hk : k.2.2.size <= 1000) : OwnT W t.b k (lookO t.O k) := fun W' hb => by
 have hm := List.mem_of_getElem? ht
 have h3 := own_plain ((H.on hb).mem_b hm h1) ((H.on hb).pr t hm) k hc hk
 rw [hk6] at h3
 exact h3
theorem MP.find1 (H : MP W h A m f ts) (hl : ts.length < 1000000) (i : Nat) (t : TO) (ht : ts[i]? = some t) (h1 : (t.cl == 100) = false) (hp : t.proto = 0) (k : Vt) (z : Vt × Int × Bool) (HO : OwnT W t.b k z) :
  Calls Tryz.prog 94 #[.pointer (some ⟨h, 0, none⟩), .int .i64 ((i : Int) + 1), valV k] W fun e w' => e = .returned (if z.2.2 = true then .tuple #[valV z.1, .int .i64 z.2.1, .bool z.2.2] else .tuple #[valV (0, 0, ⟨#[]⟩), .int .i64 0, .bool false]) /\ Below W.heap.size W w' := by
 obtain ⟨cv, fv, rv, d, hch, hdl⟩ := H.chain1 hl i t ht h1 hp
 have := hfind_any hch hdl k (fun _ => z) (fun n r nb hn W' hb => by
  match n, hn with
  | 0, hn => cases hn; exact HO W' hb
  | n + 1, hn => cases hn)
 have e1 : ((nxtR [(i + 1, t.b)] 0 : Nat) : Int) = (i : Int) + 1 := by show ((i + 1 : Nat) : Int) = _; omega
 have e2 : findG (fun _ => z) 0 [(i + 1, t.b)].length = if z.2.2 = true then z else ((0, 0, ⟨#[]⟩), 0, false) := rfl
 rw [e1, e2] at this
 by_cases hz : z.2.2 = true
 ·rw [if_pos hz] at this ⊢; exact this
 ·rw [if_neg hz] at this ⊢; exact this
theorem MP.find2 (H : MP W h A m f ts) (hl : ts.length < 1000000) (i j : Nat) (t s : TO) (ht : ts[i]? = some t) (hs : ts[j]? = some s) (h1 : (t.cl == 100) = false) (h2 : (s.cl == 100) = false) (hp : t.proto = (j : Int) + 1) (hq : s.proto = 0) (k : Vt) (z y : Vt × Int × Bool) (HO : OwnT W t.b k z) (HS : OwnT W s.b k y) :
  Calls Tryz.prog 94 #[.pointer (some ⟨h, 0, none⟩), .int .i64 ((i : Int) + 1), valV k] W fun e w' => e = .returned (if z.2.2 = true then .tuple #[valV z.1, .int .i64 z.2.1, .bool z.2.2] else if y.2.2 = true then .tuple #[valV y.1, .int .i64 y.2.1, .bool y.2.2] else .tuple #[valV (0, 0, ⟨#[]⟩), .int .i64 0, .bool false]) /\ Below W.heap.size W w' := by
 obtain ⟨cv, fv, rv, d, hch, hdl⟩ := H.chain2 hl i j t s ht hs h1 h2 hp hq
 have := hfind_any hch hdl k (fun n => if n = 0 then z else y) (fun n r nb hn W' hb => by
  match n, hn with
  | 0, hn => cases hn; exact HO W' hb
  | 1, hn => cases hn; exact HS W' hb
  | n + 2, hn => cases hn)
 have e1 : ((nxtR [(i + 1, t.b), (j + 1, s.b)] 0 : Nat) : Int) = (i : Int) + 1 := by show ((i + 1 : Nat) : Int) = _; omega
 have e2 : findG (fun n => if n = 0 then z else y) 0 [(i + 1, t.b), (j + 1, s.b)].length = if z.2.2 = true then z else if y.2.2 = true then y else ((0, 0, ⟨#[]⟩), 0, false) := rfl
 rw [e1, e2] at this
 by_cases hz : z.2.2 = true
 ·rw [if_pos hz] at this ⊢; exact this
 ·rw [if_neg hz] at this ⊢
  by_cases hy : y.2.2 = true
  ·rw [if_pos hy] at this ⊢; exact this
  ·rw [if_neg hy] at this ⊢; exact this
end
end Go.Proofs.YtahkohfppakaiaaGreatDoor
namespace Go.Proofs.YtahkohfppakaiaaGreatDoor
open Go Go.RowKit
attribute [local go_sem] Oper.semAt_some
theorem SqSt.bel {WD w : World} {Ps : List (World -> Prop)} {s : Nat} {f : Nat -> Value} (h : SqSt WD (Below WD.heap.size WD :: Ps) s f w) (hs : s <= 1) : Below WD.heap.size WD w := by
 match s, hs, h with
 | 0, _, h => rw [show w = WD from h]; exact Below.refl _ _
 | 1, _, h => exact h
theorem getfrom_w (W : World) (m h : Nat) (r fl : Int) (ok : Bool) (k rc x : Vt) (hfl : fl = 0 \/ fl = 1 \/ fl = 4 \/ fl = 5 \/ fl = 7) (hm : W.cell? ⟨m, 0, none⟩ = some (.pointer (some ⟨h, 0, none⟩))) (hml : m < W.heap.size)
  (HFD : Veil (∀ W', Below W.heap.size W W' -> Calls Tryz.prog 94 #[.pointer (some ⟨h, 0, none⟩), .int .i64 r, valV k] W' fun e w' => e = .returned (.tuple #[valV x, .int .i64 fl, .bool ok]) /\ Below W'.heap.size W' w')) :
  Calls Tryz.prog 88 #[.pointer (some ⟨m, 0, none⟩), .int .i64 r, valV k, valV rc] W fun e w' => e = .returned (.tuple #[valV x, .int .i64 0]) /\ Below W.heap.size W w' := by
 have HFL := Veil.mk hfl
 obtain ⟨kb, hkb⟩ : ∃ kb, W.heap.size = kb := ⟨_, rfl⟩
 obtain ⟨vb, hvb⟩ : ∃ vb, kb + 1 = vb := ⟨_, rfl⟩
 obtain ⟨rb, hrb⟩ : ∃ rb, vb + 1 = rb := ⟨_, rfl⟩
 obtain ⟨W0, hW0⟩ : ∃ W0, (((W.alloc (.cells #[.int .i64 k.1, .int .i64 k.2.1, .string k.2.2] 28)).alloc (.cells #[.int .i64 rc.1, .int .i64 rc.2.1, .string rc.2.2] 28)).alloc (.cells #[.int .i64 0, .int .i64 0, .string ⟨#[]⟩] 28)) = W0 := ⟨_, rfl⟩
 have bb : Below W.heap.size W W0 := by rw [<- hW0]; exact ((((Below.refl _ _).alloc (Nat.le_refl _) _).alloc (by simp only [World.size_alloc]; omega) _).alloc (by simp only [World.size_alloc]; omega) _)
 have xkb : Box W0 kb 28 #[.int .i64 k.1, .int .i64 k.2.1, .string k.2.2] := by have h9 := ((((Box.new W 28 #[.int .i64 k.1, .int .i64 k.2.1, .string k.2.2]).more (.cells #[.int .i64 rc.1, .int .i64 rc.2.1, .string rc.2.2] 28))).more (.cells #[.int .i64 0, .int .i64 0, .string ⟨#[]⟩] 28)); rw [hW0, hkb] at h9; exact h9
 have xvb : Box W0 vb 28 #[.int .i64 rc.1, .int .i64 rc.2.1, .string rc.2.2] := by have h9 := ((Box.new (W.alloc (.cells #[.int .i64 k.1, .int .i64 k.2.1, .string k.2.2] 28)) 28 #[.int .i64 rc.1, .int .i64 rc.2.1, .string rc.2.2]).more (.cells #[.int .i64 0, .int .i64 0, .string ⟨#[]⟩] 28)); rw [hW0, show (W.alloc (.cells #[.int .i64 k.1, .int .i64 k.2.1, .string k.2.2] 28)).heap.size = vb from by simp only [World.size_alloc]; omega] at h9; exact h9
 have xrb : Box W0 rb 28 #[.int .i64 0, .int .i64 0, .string ⟨#[]⟩] := by have h9 := Box.new ((W.alloc (.cells #[.int .i64 k.1, .int .i64 k.2.1, .string k.2.2] 28)).alloc (.cells #[.int .i64 rc.1, .int .i64 rc.2.1, .string rc.2.2] 28)) 28 #[.int .i64 0, .int .i64 0, .string ⟨#[]⟩]; rw [hW0, show ((W.alloc (.cells #[.int .i64 k.1, .int .i64 k.2.1, .string k.2.2] 28)).alloc (.cells #[.int .i64 rc.1, .int .i64 rc.2.1, .string rc.2.2] 28)).heap.size = rb from by simp only [World.size_alloc]; omega] at h9; exact h9
 have HW0 := Veil.mk (And.intro hW0 (And.intro hkb (And.intro hvb (hrb))))
 have HBB := Veil.mk (And.intro bb (And.intro xkb (And.intro xvb (xrb))))
 have HLO : Veil (W.heap.size <= kb /\ W.heap.size <= vb /\ W.heap.size <= rb) := ⟨by omega⟩
 clear hW0 bb hkb xkb hvb xvb hrb xrb
 have HM := Veil.mk (And.intro hm hml)
 clear hfl hm hml
 go_enter Tryz.func88, Tryz.ntmps88
 go_upto_region 1 with (fail)
 rw [HW0.out.1, HW0.out.2.1, HW0.out.2.2.1, HW0.out.2.2.2]
 have HBF : Veil (Below W.heap.size W W0) := ⟨HBB.out.1⟩
 have HXkb : Veil (Box W0 kb 28 #[.int .i64 k.1, .int .i64 k.2.1, .string k.2.2]) := ⟨HBB.out.2.1⟩
 have HXvb : Veil (Box W0 vb 28 #[.int .i64 rc.1, .int .i64 rc.2.1, .string rc.2.2]) := ⟨HBB.out.2.2.1⟩
 have HXrb : Veil (Box W0 rb 28 #[.int .i64 0, .int .i64 0, .string ⟨#[]⟩]) := ⟨HBB.out.2.2.2⟩
 clear HBB
 have HC : Veil (∀ w', Below W0.heap.size W0 w' -> w'.cell? ⟨m, 0, none⟩ = some (.pointer (some ⟨h, 0, none⟩))) := ⟨fun w' hb => by rw [(HBF.out.trans (hb.mono HBF.out.size)).cell (p := ⟨m, 0, none⟩) HM.out.2]; exact HM.out.1⟩
 clear HM HW0
 refine wp_region_gen (.val (· = .pointer (some ⟨m, 0, none⟩)) :: .val (· = .pointer (some ⟨m, 0, none⟩)) :: .val (· = .pointer (some ⟨m, 0, none⟩)) :: .val (· = .pointer (some ⟨h, 0, none⟩)) :: .val (· = .int .i64 r) :: .val (· = valV k) :: .val (· = (.tuple #[valV x, .int .i64 fl, .bool ok])) :: .val (· = (.tuple #[valV x, .int .i64 fl, .bool ok])) :: .val (· = valV x) :: .val (· = .int .i64 fl) :: .val (· = .bool ok) :: .box 28 #[.int .i64 0, .int .i64 0, .string ⟨#[]⟩] 12 8 :: .sto 11 8 :: .val (· = .int .i64 fl) :: .val (· = .bool ok) :: [] : List Kd) [some 14, some 15, some 16, some 17, some 18, some 19, some 20, some 13, some 21, some 22, some 23, some 10, none, some 11, some 12] (curV' _ [some 14, some 15, some 16, some 17, some 18, some 19, some 20, some 13, some 21, some 22, some 23, some 10, none, some 11, some 12]) (by kernel_rfl) rfl rfl (puts_cur _ _) ?_ (by kernel_rfl) ?_
 ·refine GY (fun _ S => ?_) ?_
  ·obtain ⟨⟩ := n15 S.hu
   rw [pin S.ha]
   go_simp
   exact S.k 0
  refine GY (fun _ S => ?_) ?_
  ·obtain ⟨⟩ := n15 S.hu
   obtain rfl := S.q 0
   rw [pin S.ha]
   go_simp
   exact S.k 1
  refine GY (fun _ S => ?_) ?_
  ·obtain ⟨⟩ := n15 S.hu
   obtain rfl := S.q 1
   rw [pin S.ha]
   go_simp
   exact S.k 2
  refine GY (fun w' S => ?_) ?_
  ·obtain ⟨⟩ := n15 S.hu
   obtain rfl := S.q 2
   have hch := S.hI.below
   have c0 := HC.out w' hch
   clear hch
   rw [pin S.ha]
   go_simp
   exact S.k 3
  refine GY (fun _ S => ?_) ?_
  ·obtain ⟨⟩ := n15 S.hu
   rw [pin S.ha]
   go_simp
   exact S.k 4
  refine GY (fun w' S => ?_) ?_
  ·obtain ⟨⟩ := n15 S.hu
   have hch := S.hI.below
   have c0 : w'.cell? ⟨kb, 0, none⟩ = some (.int .i64 k.1) := (HXkb.out.below hch).at_ 0
   have c1 : w'.cell? ⟨kb, 1, none⟩ = some (.int .i64 k.2.1) := (HXkb.out.below hch).at_ 1
   have c2 : w'.cell? ⟨kb, 2, none⟩ = some (.string k.2.2) := (HXkb.out.below hch).at_ 2
   clear hch
   rw [pin S.ha]
   go_simp
   exact S.k 5
  refine GY (fun w' S => ?_) ?_
  ·obtain ⟨⟩ := n15 S.hu
   obtain rfl := S.q 3
   obtain rfl := S.q 4
   obtain rfl := S.q 5
   have hch := S.hI.below
   have HX9 := Veil.mk (HFD.out w' (HBF.out.trans (hch.mono HBF.out.size)))
   clear hch
   rw [pin S.ha]
   go_simp
   go_at_call 94
   refine HX9.out.mono ?_
   rintro e9 w9 ⟨rfl, hb9⟩
   go_simp
   exact S.kw 6 hb9
  refine GY (fun _ S => ?_) ?_
  ·obtain ⟨⟩ := n15 S.hu
   obtain rfl := S.q 6
   rw [pin S.ha]
   go_simp
   exact S.k 7
  refine GY (fun _ S => ?_) ?_
  ·obtain ⟨⟩ := n15 S.hu
   obtain rfl := S.q 7
   rw [pin S.ha]
   go_simp
   exact S.k 8
  refine GY (fun _ S => ?_) ?_
  ·obtain ⟨⟩ := n15 S.hu
   obtain rfl := S.q 7
   rw [pin S.ha]
   go_simp
   exact S.k 9
  refine GY (fun _ S => ?_) ?_
  ·obtain ⟨⟩ := n15 S.hu
   obtain rfl := S.q 7
   rw [pin S.ha]
   go_simp
   exact S.k 10
  refine GY (fun _ S => ?_) ?_
  ·obtain ⟨⟩ := n15 S.hu
   rw [pin S.ha]
   go_simp
   exact S.hK _ _ (gen_box S.hI S.hu S.hs 11 _ _ _ _ (by show 11 < 15; decide) (fit_of rfl) rfl S.h0 (by simp only [puts, setAll, List.set_cons_zero, List.set_cons_succ, List.setIfInBounds_toArray]))
  refine GY (fun w' S => ?_) ?_
  ·obtain ⟨_, _, _, _, _, _, _, _, u8, _, _, u11⟩ := n15 S.hu
   have hq1 := gen_after 11 (by kernel_rfl) S.hp
   have hq2 := gen_after 8 (by kernel_rfl) S.hp
   have e8 : u8 = valV x := S.hI.val 8 _ rfl hq2
   subst e8
   have hq := gen_sto S.hI S.hu S.hs 12 11 8 _ _ (by show 12 < 15; decide) (fit_of rfl) rfl rfl S.h0 hq1 hq2
   have HA9 := Veil.mk S.ha
   obtain ⟨g, hg, hx, hJ⟩ := hq
   have e11 : u11 = .pointer (some ⟨g, 0, none⟩) := hg
   subst e11
   clear hg
   have x0 : w'.cell? ⟨g, 0, none⟩ = some (.int .i64 0) := hx.at_ 0
   have x1 : w'.cell? ⟨g, 1, none⟩ = some (.int .i64 0) := hx.at_ 1
   have x2 : w'.cell? ⟨g, 2, none⟩ = some (.string ⟨#[]⟩) := hx.at_ 2
   have f0 := hx.free 0
   have f1 := hx.free 1
   have f2 := hx.free 2
   have HJ := Veil.mk hJ
   have HX := Veil.mk hx
   clear hJ hx
   rw [HA9.out]
   simp only [puts, setAll, List.setIfInBounds_toArray, List.set_cons_zero, List.set_cons_succ]
   go_simp
   exact S.hK _ _ (HJ.out _ _ _ _ (((HX.out.put 0 _).put 1 _).put 2 _) (touch3 _ _ _ _ _) (by simp only [puts, setAll, List.set_cons_zero, List.set_cons_succ, List.setIfInBounds_toArray]))
  refine GY (fun _ S => ?_) ?_
  ·obtain ⟨⟩ := n15 S.hu
   obtain rfl := S.q 9
   rw [pin S.ha]
   go_simp
   exact S.k 13
  refine GY (fun _ S => ?_) ?_
  ·obtain ⟨⟩ := n15 S.hu
   obtain rfl := S.q 10
   rw [pin S.ha]
   go_simp
   exact S.k 14
  exact Steps.nil
 ·intro us wE hus dd hD2 hJ
  obtain ⟨_, _, _, _, _, _, _, _, _, _, _, p11⟩ := n15 hus
  have hbE := hJ.below
  obtain rfl := hJ.q 0 hD2
  obtain rfl := hJ.q 1 hD2
  obtain rfl := hJ.q 2 hD2
  obtain rfl := hJ.q 3 hD2
  obtain rfl := hJ.q 4 hD2
  obtain rfl := hJ.q 5 hD2
  obtain rfl := hJ.q 6 hD2
  obtain rfl := hJ.q 7 hD2
  obtain rfl := hJ.q 8 hD2
  obtain rfl := hJ.q 9 hD2
  obtain rfl := hJ.q 10 hD2
  obtain rfl := hJ.q 13 hD2
  obtain rfl := hJ.q 14 hD2
  obtain ⟨g11, hg11, hlo11, hbx11⟩ := hJ.box 11 _ _ _ _ rfl (hD2 11 (by show 11 < 15; decide))
  rw [hD2 12 (by show 12 < 15; decide)] at hbx11
  replace hg11 : p11 = .pointer (some ⟨g11, 0, none⟩) := hg11
  subst hg11
  replace hbx11 : Box wE g11 28 (flat (valV x)) := hbx11
  clear hJ hD2
  have HE := Veil.mk (And.intro hbE hbx11)
  have HRB := Veil.mk (HXrb.out.below hbE)
  have d0 : wE.cell? ⟨g11, 0, none⟩ = some (.int .i64 x.1) := hbx11.at_ 0
  have d1 : wE.cell? ⟨g11, 1, none⟩ = some (.int .i64 x.2.1) := hbx11.at_ 1
  have d2 : wE.cell? ⟨g11, 2, none⟩ = some (.string x.2.2) := hbx11.at_ 2
  have z0 : wE.cell? ⟨rb, 0, none⟩ = some (.int .i64 0) := HRB.out.at_ 0
  have z1 : wE.cell? ⟨rb, 1, none⟩ = some (.int .i64 0) := HRB.out.at_ 1
  have z2 : wE.cell? ⟨rb, 2, none⟩ = some (.string ⟨#[]⟩) := HRB.out.at_ 2
  have q0 := HRB.out.free 0
  have q1 := HRB.out.free 1
  have q2 := HRB.out.free 2
  clear hbE hbx11 hlo11
  simp only [puts, setAll, List.setIfInBounds_toArray, List.set_cons_zero, List.set_cons_succ]
  clear HFD HC HXkb HXvb
  rcases HFL.out with rfl | rfl | rfl | rfl | rfl
  all_goals
   go_wp2
   have hr6 := ((HRB.out.put 0 (.int .i64 x.1)).put 1 (.int .i64 x.2.1)).put 2 (.string x.2.2)
   have y0 := hr6.at_ 0
   have y1 := hr6.at_ 1
   have y2 := hr6.at_ 2
   have hbW := HBF.out.trans (HE.out.1.mono HBF.out.size)
   have hrb : W.heap.size <= rb := HLO.out.2.2
   exact bodyPost_ret (v := .tuple #[valV x, .int .i64 0]) (by simp [results, Tryz.results88, go_sem, y0, y1, y2]) rfl ⟨rfl, ((hbW.setCell (p := ⟨rb, 0, none⟩) hrb _).setCell (p := ⟨rb, 1, none⟩) hrb _).setCell (p := ⟨rb, 2, none⟩) hrb _⟩
theorem getkey_w (W : World) (m : Nat) (v k x : Vt) (h9 : v.1 = 9)
  (HGF : Veil (∀ W', Below W.heap.size W W' -> Calls Tryz.prog 88 #[.pointer (some ⟨m, 0, none⟩), .int .i64 v.2.1, valV k, valV v] W' fun e w' => e = .returned (.tuple #[valV x, .int .i64 0]) /\ Below W'.heap.size W' w')) :
  Calls Tryz.prog 48 #[.pointer (some ⟨m, 0, none⟩), valV v, valV k] W fun e w' => e = .returned (.tuple #[valV x, .int .i64 0]) /\ Below W.heap.size W w' := by
 obtain ⟨vb, hvb⟩ : ∃ vb, W.heap.size = vb := ⟨_, rfl⟩
 obtain ⟨kb, hkb⟩ : ∃ kb, vb + 1 = kb := ⟨_, rfl⟩
 obtain ⟨rb, hrb⟩ : ∃ rb, kb + 1 = rb := ⟨_, rfl⟩
 obtain ⟨W0, hW0⟩ : ∃ W0, (((W.alloc (.cells #[.int .i64 v.1, .int .i64 v.2.1, .string v.2.2] 28)).alloc (.cells #[.int .i64 k.1, .int .i64 k.2.1, .string k.2.2] 28)).alloc (.cells #[.int .i64 0, .int .i64 0, .string ⟨#[]⟩] 28)) = W0 := ⟨_, rfl⟩
 have bb : Below W.heap.size W W0 := by rw [<- hW0]; exact ((((Below.refl _ _).alloc (Nat.le_refl _) _).alloc (by simp only [World.size_alloc]; omega) _).alloc (by simp only [World.size_alloc]; omega) _)
 have xvb : Box W0 vb 28 #[.int .i64 v.1, .int .i64 v.2.1, .string v.2.2] := by have h9 := ((((Box.new W 28 #[.int .i64 v.1, .int .i64 v.2.1, .string v.2.2]).more (.cells #[.int .i64 k.1, .int .i64 k.2.1, .string k.2.2] 28))).more (.cells #[.int .i64 0, .int .i64 0, .string ⟨#[]⟩] 28)); rw [hW0, hvb] at h9; exact h9
 have xkb : Box W0 kb 28 #[.int .i64 k.1, .int .i64 k.2.1, .string k.2.2] := by have h9 := ((Box.new (W.alloc (.cells #[.int .i64 v.1, .int .i64 v.2.1, .string v.2.2] 28)) 28 #[.int .i64 k.1, .int .i64 k.2.1, .string k.2.2]).more (.cells #[.int .i64 0, .int .i64 0, .string ⟨#[]⟩] 28)); rw [hW0, show (W.alloc (.cells #[.int .i64 v.1, .int .i64 v.2.1, .string v.2.2] 28)).heap.size = kb from by simp only [World.size_alloc]; omega] at h9; exact h9
 have xrb : Box W0 rb 28 #[.int .i64 0, .int .i64 0, .string ⟨#[]⟩] := by have h9 := Box.new ((W.alloc (.cells #[.int .i64 v.1, .int .i64 v.2.1, .string v.2.2] 28)).alloc (.cells #[.int .i64 k.1, .int .i64 k.2.1, .string k.2.2] 28)) 28 #[.int .i64 0, .int .i64 0, .string ⟨#[]⟩]; rw [hW0, show ((W.alloc (.cells #[.int .i64 v.1, .int .i64 v.2.1, .string v.2.2] 28)).alloc (.cells #[.int .i64 k.1, .int .i64 k.2.1, .string k.2.2] 28)).heap.size = rb from by simp only [World.size_alloc]; omega] at h9; exact h9
 have HW0 := Veil.mk (And.intro hW0 (And.intro hvb (And.intro hkb (hrb))))
 have HBB := Veil.mk (And.intro bb (And.intro xvb (And.intro xkb (xrb))))
 have HLO : Veil (W.heap.size <= vb /\ W.heap.size <= kb /\ W.heap.size <= rb) := ⟨by omega⟩
 clear hW0 bb hvb xvb hkb xkb hrb xrb
 have HRF0 := Veil.mk (fun W' => ref_9 v h9 W')
 have HN9 := Veil.mk h9
 clear h9
 go_enter Tryz.func48, Tryz.ntmps48
 go_upto_region 1 with (fail)
 rw [HW0.out.1, HW0.out.2.1, HW0.out.2.2.1, HW0.out.2.2.2]
 have c0 : W0.cell? ⟨vb, 0, none⟩ = some (.int .i64 v.1) := HBB.out.2.1.at_ 0
 rw [HN9.out] at c0
 go_upto_region 5 with (fail)
 clear c0
 obtain ⟨WD, hWD⟩ : ∃ WD, W0.drew = WD := ⟨_, rfl⟩
 have HBF : Veil (Below W.heap.size W WD) := ⟨by rw [<- hWD]; exact HBB.out.1.drew⟩
 have HXvb : Veil (Box WD vb 28 #[.int .i64 v.1, .int .i64 v.2.1, .string v.2.2]) := ⟨by rw [<- hWD]; exact HBB.out.2.1.drew⟩
 have HXkb : Veil (Box WD kb 28 #[.int .i64 k.1, .int .i64 k.2.1, .string k.2.2]) := ⟨by rw [<- hWD]; exact HBB.out.2.2.1.drew⟩
 have HXrb : Veil (Box WD rb 28 #[.int .i64 0, .int .i64 0, .string ⟨#[]⟩]) := ⟨by rw [<- hWD]; exact HBB.out.2.2.2.drew⟩
 have HWD := Veil.mk hWD
 clear hWD HBB
 have HRF : Veil (∀ w', Calls Tryz.prog 47 #[valV v] w' fun e w9 => e = .returned (.int .i64 v.2.1) /\ Below w'.heap.size w' w9) := HRF0
 have HGF : Veil (∀ W', Below WD.heap.size WD W' -> Calls Tryz.prog 88 #[.pointer (some ⟨m, 0, none⟩), .int .i64 v.2.1, valV k, valV v] W' fun e w' => e = .returned (.tuple #[valV x, .int .i64 0]) /\ Below WD.heap.size WD w') := ⟨fun W' hb => (HGF.out W' (HBF.out.trans (hb.mono HBF.out.size))).mono (fun e w9 ⟨a1, a2⟩ => ⟨a1, hb.trans (a2.mono hb.size)⟩)⟩
 clear HW0
 refine wp_region_chain [qp m 0, qv v, qi v.2.1, qv k, qv v, qq (.tuple #[valV x, .int .i64 0]), qv x, qi 0, none, qi 0] (LPh [2, 5, 8] (SqSt WD [Below WD.heap.size WD, Below WD.heap.size WD, (fun w => ∃ w0, Below WD.heap.size WD w0 /\ w = ((w0.setCell ⟨rb, 0, none⟩ (.int .i64 x.1)).setCell ⟨rb, 1, none⟩ (.int .i64 x.2.1)).setCell ⟨rb, 2, none⟩ (.string x.2.2))])) [some 17, some 18, some 19, some 20, some 21, some 22, some 23, some 24, none, some 7] (curV' _ [some 17, some 18, some 19, some 20, some 21, some 22, some 23, some 24, none, some 7]) (by kernel_rfl) rfl rfl (puts_cur _ _) (LPh.start (show W0.drew = WD from HWD.out)) ?_ (by kernel_rfl) ?_
 ·refine SY (fun _ S => ?_) ?_
  ·obtain ⟨⟩ := n10 S.hu
   rw [pin S.ha]
   go_simp
   exact S.kL 0
  refine SY (fun w' S => ?_) ?_
  ·obtain ⟨⟩ := n10 S.hu
   have gb := (S.hI.bwd [1] 2 1 (by kernel_rfl) rfl S.h0)
   have hst := S.hI.ph.btw1 0 (.inl rfl) (.inr ⟨2, rfl, gb⟩)
   have hst' : WD = w' := (show w' = WD from hst).symm
   clear hst
   subst hst'
   have c0 : WD.cell? ⟨vb, 0, none⟩ = some (.int .i64 v.1) := HXvb.out.at_ 0
   have c1 : WD.cell? ⟨vb, 1, none⟩ = some (.int .i64 v.2.1) := HXvb.out.at_ 1
   have c2 : WD.cell? ⟨vb, 2, none⟩ = some (.string v.2.2) := HXvb.out.at_ 2
   clear gb
   rw [pin S.ha]
   go_simp
   exact S.kL 1
  refine SY (fun w' S => ?_) ?_
  ·obtain ⟨⟩ := n10 S.hu
   obtain rfl := S.q 1
   have gb := S.h0
   have hst := S.hI.ph.btw1 0 (.inl rfl) (.inr ⟨2, rfl, gb⟩)
   have hst' : WD = w' := (show w' = WD from hst).symm
   clear hst
   subst hst'
   clear gb
   rw [pin S.ha]
   go_simp
   go_at_call 47
   refine (HRF.out WD).mono ?_
   rintro e9 w9 ⟨rfl, hm9⟩
   go_simp
   exact S.kS 2 _ (S.hI.ph.next 0 2 _ rfl S.h0 (.inl rfl) (by decide) (hm9))
  refine SY (fun w' S => ?_) ?_
  ·obtain ⟨⟩ := n10 S.hu
   have gb := (S.hI.bwd [3] 5 3 (by kernel_rfl) rfl S.h0)
   obtain ⟨sg, hlo, hhi, hst⟩ := S.hI.ph.btw 0 1 (.inl rfl) (.inr ⟨5, rfl, gb⟩)
   have hb9 := SqSt.bel hst (by omega)
   clear hst
   have c0 : w'.cell? ⟨kb, 0, none⟩ = some (.int .i64 k.1) := (HXkb.out.below hb9).at_ 0
   have c1 : w'.cell? ⟨kb, 1, none⟩ = some (.int .i64 k.2.1) := (HXkb.out.below hb9).at_ 1
   have c2 : w'.cell? ⟨kb, 2, none⟩ = some (.string k.2.2) := (HXkb.out.below hb9).at_ 2
   clear gb
   rw [pin S.ha]
   go_simp
   exact S.kL 3
  refine SY (fun w' S => ?_) ?_
  ·obtain ⟨⟩ := n10 S.hu
   have gb := (S.hI.bwd [4] 5 4 (by kernel_rfl) rfl S.h0)
   obtain ⟨sg, hlo, hhi, hst⟩ := S.hI.ph.btw 0 1 (.inl rfl) (.inr ⟨5, rfl, gb⟩)
   have hb9 := SqSt.bel hst (by omega)
   clear hst
   have c0 : w'.cell? ⟨vb, 0, none⟩ = some (.int .i64 v.1) := (HXvb.out.below hb9).at_ 0
   have c1 : w'.cell? ⟨vb, 1, none⟩ = some (.int .i64 v.2.1) := (HXvb.out.below hb9).at_ 1
   have c2 : w'.cell? ⟨vb, 2, none⟩ = some (.string v.2.2) := (HXvb.out.below hb9).at_ 2
   clear gb
   rw [pin S.ha]
   go_simp
   exact S.kL 4
  refine SY (fun w' S => ?_) ?_
  ·obtain ⟨⟩ := n10 S.hu
   obtain rfl := S.q 0
   obtain rfl := S.q 2
   obtain rfl := S.q 3
   obtain rfl := S.q 4
   have ga := (gen_after 2 (by kernel_rfl) S.hp)
   have gb := S.h0
   have hst := S.hI.ph.btw1 1 (.inr ⟨2, rfl, ga⟩) (.inr ⟨5, rfl, gb⟩)
   have HST := Veil.mk (show Below WD.heap.size WD w' from hst)
   clear hst
   have HGA := Veil.mk ga
   clear ga gb
   rw [pin S.ha]
   go_simp
   go_at_call 88
   refine (HGF.out w' HST.out).mono ?_
   rintro e9 w9 ⟨rfl, hm9⟩
   go_simp
   exact S.kS 5 _ (S.hI.ph.next 1 5 _ rfl S.h0 (.inr ⟨2, rfl, HGA.out⟩) (by decide) (hm9))
  refine SY (fun _ S => ?_) ?_
  ·obtain ⟨⟩ := n10 S.hu
   obtain rfl := S.q 5
   rw [pin S.ha]
   go_simp
   exact S.kL 6
  refine SY (fun _ S => ?_) ?_
  ·obtain ⟨⟩ := n10 S.hu
   obtain rfl := S.q 5
   rw [pin S.ha]
   go_simp
   exact S.kL 7
  refine SY (fun w' S => ?_) ?_
  ·obtain ⟨⟩ := n10 S.hu
   obtain rfl := S.q 6
   have ga := (gen_after 5 (by kernel_rfl) S.hp)
   have gb := S.h0
   have hst := S.hI.ph.btw1 2 (.inr ⟨5, rfl, ga⟩) (.inr ⟨8, rfl, gb⟩)
   have HST := Veil.mk (show Below WD.heap.size WD w' from hst)
   clear hst
   have z0 : w'.cell? ⟨rb, 0, none⟩ = some (.int .i64 0) := (HXrb.out.below HST.out).at_ 0
   have z1 : w'.cell? ⟨rb, 1, none⟩ = some (.int .i64 0) := (HXrb.out.below HST.out).at_ 1
   have z2 : w'.cell? ⟨rb, 2, none⟩ = some (.string ⟨#[]⟩) := (HXrb.out.below HST.out).at_ 2
   have q0 := (HXrb.out.below HST.out).free 0
   have q1 := (HXrb.out.below HST.out).free 1
   have q2 := (HXrb.out.below HST.out).free 2
   have HGA := Veil.mk ga
   clear ga gb
   rw [pin S.ha]
   go_simp
   exact S.kN 8 undef (S.hI.ph.next 2 8 _ rfl S.h0 (.inr ⟨5, rfl, HGA.out⟩) (by decide) (⟨_, HST.out, rfl⟩))
  refine SY (fun _ S => ?_) ?_
  ·obtain ⟨⟩ := n10 S.hu
   obtain rfl := S.q 7
   rw [pin S.ha]
   go_simp
   exact S.kL 9
  exact Steps.nil
 ·intro us wE hus dd hD2 hJ
  obtain ⟨⟩ := n10 hus
  have q1 := hJ.ph.all (fun c hc => hD2 c (by
   have : c = 2 \/ c = 5 \/ c = 8 := by simpa using hc
   show c < 10
   omega))
  obtain rfl := hJ.vq 0 hD2
  obtain rfl := hJ.vq 1 hD2
  obtain rfl := hJ.vq 2 hD2
  obtain rfl := hJ.vq 3 hD2
  obtain rfl := hJ.vq 4 hD2
  obtain rfl := hJ.vq 5 hD2
  obtain rfl := hJ.vq 6 hD2
  obtain rfl := hJ.vq 7 hD2
  obtain rfl := hJ.vq 9 hD2
  clear hJ hD2
  have HQ := Veil.mk (show ∃ w0, Below WD.heap.size WD w0 /\ wE = ((w0.setCell ⟨rb, 0, none⟩ (.int .i64 x.1)).setCell ⟨rb, 1, none⟩ (.int .i64 x.2.1)).setCell ⟨rb, 2, none⟩ (.string x.2.2) from q1)
  clear q1
  simp only [puts, setAll, List.setIfInBounds_toArray, List.set_cons_zero, List.set_cons_succ]
  clear HGF HRF HXkb HXvb
  obtain ⟨w0, hbE, rfl⟩ := HQ.out
  have hr6 := (((HXrb.out.below hbE).put 0 (.int .i64 x.1)).put 1 (.int .i64 x.2.1)).put 2 (.string x.2.2)
  have hbW := HBF.out.trans (hbE.mono HBF.out.size)
  have hrb : W.heap.size <= rb := HLO.out.2.2
  have HZ := Veil.mk (And.intro hr6 (((hbW.setCell (p := ⟨rb, 0, none⟩) hrb (.int .i64 x.1)).setCell (p := ⟨rb, 1, none⟩) hrb (.int .i64 x.2.1)).setCell (p := ⟨rb, 2, none⟩) hrb (.string x.2.2)))
  clear hr6 hbW hrb HQ hbE
  go_wp2
  have y0 := HZ.out.1.at_ 0
  have y1 := HZ.out.1.at_ 1
  have y2 := HZ.out.1.at_ 2
  exact bodyPost_ret (v := (.tuple #[valV x, .int .i64 0])) (by simp [results, Tryz.results48, go_sem, y0, y1, y2]) rfl ⟨rfl, HZ.out.2⟩
theorem member_w (W : World) (m : Nat) (v k x : Vt) (nm : ByteArray)
  (HVL : Veil (∀ W', Calls Tryz.prog 44 #[.string nm] W' fun e w' => e = .returned (valV k) /\ Below W'.heap.size W' w'))
  (HGK : Veil (∀ W', Below W.heap.size W W' -> Calls Tryz.prog 48 #[.pointer (some ⟨m, 0, none⟩), valV v, valV k] W' fun e w' => e = .returned (.tuple #[valV x, .int .i64 0]) /\ Below W'.heap.size W' w')) :
  Calls Tryz.prog 21 #[.pointer (some ⟨m, 0, none⟩), valV v, .string nm] W fun e w' => e = .returned (.tuple #[valV x, .int .i64 0]) /\ Below W.heap.size W w' := by
 obtain ⟨vb, hvb⟩ : ∃ vb, W.heap.size = vb := ⟨_, rfl⟩
 obtain ⟨rb, hrb⟩ : ∃ rb, vb + 1 = rb := ⟨_, rfl⟩
 obtain ⟨W0, hW0⟩ : ∃ W0, ((W.alloc (.cells #[.int .i64 v.1, .int .i64 v.2.1, .string v.2.2] 28)).alloc (.cells #[.int .i64 0, .int .i64 0, .string ⟨#[]⟩] 28)) = W0 := ⟨_, rfl⟩
 have bb : Below W.heap.size W W0 := by rw [<- hW0]; exact (((Below.refl _ _).alloc (Nat.le_refl _) _).alloc (by simp only [World.size_alloc]; omega) _)
 have xvb : Box W0 vb 28 #[.int .i64 v.1, .int .i64 v.2.1, .string v.2.2] := by have h9 := ((Box.new W 28 #[.int .i64 v.1, .int .i64 v.2.1, .string v.2.2]).more (.cells #[.int .i64 0, .int .i64 0, .string ⟨#[]⟩] 28)); rw [hW0, hvb] at h9; exact h9
 have xrb : Box W0 rb 28 #[.int .i64 0, .int .i64 0, .string ⟨#[]⟩] := by have h9 := Box.new (W.alloc (.cells #[.int .i64 v.1, .int .i64 v.2.1, .string v.2.2] 28)) 28 #[.int .i64 0, .int .i64 0, .string ⟨#[]⟩]; rw [hW0, show (W.alloc (.cells #[.int .i64 v.1, .int .i64 v.2.1, .string v.2.2] 28)).heap.size = rb from by simp only [World.size_alloc]; omega] at h9; exact h9
 have HW0 := Veil.mk (And.intro hW0 (And.intro hvb (hrb)))
 have HBB := Veil.mk (And.intro bb (And.intro xvb (xrb)))
 have HLO : Veil (W.heap.size <= vb /\ W.heap.size <= rb) := ⟨by omega⟩
 clear hW0 bb hvb xvb hrb xrb
 go_enter Tryz.func21, Tryz.ntmps21
 go_upto_region 1 with (fail)
 rw [HW0.out.1, HW0.out.2.1, HW0.out.2.2]
 obtain ⟨WD, hWD⟩ : ∃ WD, W0.drew = WD := ⟨_, rfl⟩
 have HBF : Veil (Below W.heap.size W WD) := ⟨by rw [<- hWD]; exact HBB.out.1.drew⟩
 have HXvb : Veil (Box WD vb 28 #[.int .i64 v.1, .int .i64 v.2.1, .string v.2.2]) := ⟨by rw [<- hWD]; exact HBB.out.2.1.drew⟩
 have HXrb : Veil (Box WD rb 28 #[.int .i64 0, .int .i64 0, .string ⟨#[]⟩]) := ⟨by rw [<- hWD]; exact HBB.out.2.2.drew⟩
 have HWD := Veil.mk hWD
 clear hWD HBB
 have HGK : Veil (∀ W', Below WD.heap.size WD W' -> Calls Tryz.prog 48 #[.pointer (some ⟨m, 0, none⟩), valV v, valV k] W' fun e w' => e = .returned (.tuple #[valV x, .int .i64 0]) /\ Below WD.heap.size WD w') := ⟨fun W' hb => (HGK.out W' (HBF.out.trans (hb.mono HBF.out.size))).mono (fun e w9 ⟨a1, a2⟩ => ⟨a1, hb.trans (a2.mono hb.size)⟩)⟩
 clear HW0
 refine wp_region_chain [qp m 0, qv v, qq (.string nm), qv k, qq (.tuple #[valV x, .int .i64 0]), qv x, qi 0, none, qi 0] (LPh [3, 4, 7] (SqSt WD [Below WD.heap.size WD, Below WD.heap.size WD, (fun w => ∃ w0, Below WD.heap.size WD w0 /\ w = ((w0.setCell ⟨rb, 0, none⟩ (.int .i64 x.1)).setCell ⟨rb, 1, none⟩ (.int .i64 x.2.1)).setCell ⟨rb, 2, none⟩ (.string x.2.2))])) [some 8, some 9, some 10, some 11, some 12, some 13, some 14, none, some 7] (curV' _ [some 8, some 9, some 10, some 11, some 12, some 13, some 14, none, some 7]) (by kernel_rfl) rfl rfl (puts_cur _ _) (LPh.start (show W0.drew = WD from HWD.out)) ?_ (by kernel_rfl) ?_
 ·refine SY (fun _ S => ?_) ?_
  ·obtain ⟨⟩ := n9 S.hu
   rw [pin S.ha]
   go_simp
   exact S.kL 0
  refine SY (fun w' S => ?_) ?_
  ·obtain ⟨⟩ := n9 S.hu
   have gb := (S.hI.bwd [1] 4 1 (by kernel_rfl) rfl S.h0)
   obtain ⟨sg, hlo, hhi, hst⟩ := S.hI.ph.btw 0 1 (.inl rfl) (.inr ⟨4, rfl, gb⟩)
   have hb9 := SqSt.bel hst (by omega)
   clear hst
   have c0 : w'.cell? ⟨vb, 0, none⟩ = some (.int .i64 v.1) := (HXvb.out.below hb9).at_ 0
   have c1 : w'.cell? ⟨vb, 1, none⟩ = some (.int .i64 v.2.1) := (HXvb.out.below hb9).at_ 1
   have c2 : w'.cell? ⟨vb, 2, none⟩ = some (.string v.2.2) := (HXvb.out.below hb9).at_ 2
   clear gb
   rw [pin S.ha]
   go_simp
   exact S.kL 1
  refine SY (fun _ S => ?_) ?_
  ·obtain ⟨⟩ := n9 S.hu
   rw [pin S.ha]
   go_simp
   exact S.kL 2
  refine SY (fun w' S => ?_) ?_
  ·obtain ⟨⟩ := n9 S.hu
   obtain rfl := S.q 2
   have gb := S.h0
   have hst := S.hI.ph.btw1 0 (.inl rfl) (.inr ⟨3, rfl, gb⟩)
   have hst' : WD = w' := (show w' = WD from hst).symm
   clear hst
   subst hst'
   clear gb
   rw [pin S.ha]
   go_simp
   go_at_call 44
   refine (HVL.out WD).mono ?_
   rintro e9 w9 ⟨rfl, hm9⟩
   go_simp
   exact S.kS 3 _ (S.hI.ph.next 0 3 _ rfl S.h0 (.inl rfl) (by decide) (hm9))
  refine SY (fun w' S => ?_) ?_
  ·obtain ⟨⟩ := n9 S.hu
   obtain rfl := S.q 0
   obtain rfl := S.q 1
   obtain rfl := S.q 3
   have ga := (gen_after 3 (by kernel_rfl) S.hp)
   have gb := S.h0
   have hst := S.hI.ph.btw1 1 (.inr ⟨3, rfl, ga⟩) (.inr ⟨4, rfl, gb⟩)
   have HST := Veil.mk (show Below WD.heap.size WD w' from hst)
   clear hst
   have HGA := Veil.mk ga
   clear ga gb
   rw [pin S.ha]
   go_simp
   go_at_call 48
   refine (HGK.out w' HST.out).mono ?_
   rintro e9 w9 ⟨rfl, hm9⟩
   go_simp
   exact S.kS 4 _ (S.hI.ph.next 1 4 _ rfl S.h0 (.inr ⟨3, rfl, HGA.out⟩) (by decide) (hm9))
  refine SY (fun _ S => ?_) ?_
  ·obtain ⟨⟩ := n9 S.hu
   obtain rfl := S.q 4
   rw [pin S.ha]
   go_simp
   exact S.kL 5
  refine SY (fun _ S => ?_) ?_
  ·obtain ⟨⟩ := n9 S.hu
   obtain rfl := S.q 4
   rw [pin S.ha]
   go_simp
   exact S.kL 6
  refine SY (fun w' S => ?_) ?_
  ·obtain ⟨⟩ := n9 S.hu
   obtain rfl := S.q 5
   have ga := (gen_after 4 (by kernel_rfl) S.hp)
   have gb := S.h0
   have hst := S.hI.ph.btw1 2 (.inr ⟨4, rfl, ga⟩) (.inr ⟨7, rfl, gb⟩)
   have HST := Veil.mk (show Below WD.heap.size WD w' from hst)
   clear hst
   have z0 : w'.cell? ⟨rb, 0, none⟩ = some (.int .i64 0) := (HXrb.out.below HST.out).at_ 0
   have z1 : w'.cell? ⟨rb, 1, none⟩ = some (.int .i64 0) := (HXrb.out.below HST.out).at_ 1
   have z2 : w'.cell? ⟨rb, 2, none⟩ = some (.string ⟨#[]⟩) := (HXrb.out.below HST.out).at_ 2
   have q0 := (HXrb.out.below HST.out).free 0
   have q1 := (HXrb.out.below HST.out).free 1
   have q2 := (HXrb.out.below HST.out).free 2
   have HGA := Veil.mk ga
   clear ga gb
   rw [pin S.ha]
   go_simp
   exact S.kN 7 undef (S.hI.ph.next 2 7 _ rfl S.h0 (.inr ⟨4, rfl, HGA.out⟩) (by decide) (⟨_, HST.out, rfl⟩))
  refine SY (fun _ S => ?_) ?_
  ·obtain ⟨⟩ := n9 S.hu
   obtain rfl := S.q 6
   rw [pin S.ha]
   go_simp
   exact S.kL 8
  exact Steps.nil
 ·intro us wE hus dd hD2 hJ
  obtain ⟨⟩ := n9 hus
  have q1 := hJ.ph.all (fun c hc => hD2 c (by
   have : c = 3 \/ c = 4 \/ c = 7 := by simpa using hc
   show c < 9
   omega))
  obtain rfl := hJ.vq 0 hD2
  obtain rfl := hJ.vq 1 hD2
  obtain rfl := hJ.vq 2 hD2
  obtain rfl := hJ.vq 3 hD2
  obtain rfl := hJ.vq 4 hD2
  obtain rfl := hJ.vq 5 hD2
  obtain rfl := hJ.vq 6 hD2
  obtain rfl := hJ.vq 8 hD2
  clear hJ hD2
  have HQ := Veil.mk (show ∃ w0, Below WD.heap.size WD w0 /\ wE = ((w0.setCell ⟨rb, 0, none⟩ (.int .i64 x.1)).setCell ⟨rb, 1, none⟩ (.int .i64 x.2.1)).setCell ⟨rb, 2, none⟩ (.string x.2.2) from q1)
  clear q1
  simp only [puts, setAll, List.setIfInBounds_toArray, List.set_cons_zero, List.set_cons_succ]
  clear HGK HVL HXvb
  obtain ⟨w0, hbE, rfl⟩ := HQ.out
  have hr6 := (((HXrb.out.below hbE).put 0 (.int .i64 x.1)).put 1 (.int .i64 x.2.1)).put 2 (.string x.2.2)
  have hbW := HBF.out.trans (hbE.mono HBF.out.size)
  have hrb : W.heap.size <= rb := HLO.out.2
  have HZ := Veil.mk (And.intro hr6 (((hbW.setCell (p := ⟨rb, 0, none⟩) hrb (.int .i64 x.1)).setCell (p := ⟨rb, 1, none⟩) hrb (.int .i64 x.2.1)).setCell (p := ⟨rb, 2, none⟩) hrb (.string x.2.2)))
  clear hr6 hbW hrb HQ hbE
  go_wp2
  have y0 := HZ.out.1.at_ 0
  have y1 := HZ.out.1.at_ 1
  have y2 := HZ.out.1.at_ 2
  exact bodyPost_ret (v := (.tuple #[valV x, .int .i64 0])) (by simp [results, Tryz.results21, go_sem, y0, y1, y2]) rfl ⟨rfl, HZ.out.2⟩
end Go.Proofs.YtahkohfppakaiaaGreatDoor
