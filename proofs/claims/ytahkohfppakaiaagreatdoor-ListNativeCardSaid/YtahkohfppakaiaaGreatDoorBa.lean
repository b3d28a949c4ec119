/- Texts of the stage, joined: Ia. -/
import Derived.Orders
import Derived.Deep.Quiet
set_option maxHeartbeats 40000000
set_option maxRecDepth 100000
namespace Go.Proofs.YtahkohfppakaiaaGreatDoor
open Go
section
variable {P : Program} {ops : Array Oper} {Q : Exit -> Act -> World -> Prop} {md : Region.Mode}
theorem count_set (l : List Bool) (i : Nat) (h : l[i]? = some false) : (l.set i true).count false + 1 = l.count false := by
 induction l generalizing i with
 | nil => simp at h
 | cons b r ih =>
  cases i with
  | zero => simp at h; subst h; simp
  | succ i =>
   simp at h
   have := ih i h
   simp only [List.set_cons_succ, List.count_cons]
   omega
theorem ready_unlisted {l : Array Bool} {i : Nat} (h : i ∈ Region.ready md ops l) : l.toList[i]? = some false := by
 have h0 := (mem_ready.1 h).1
 rcases Nat.lt_or_ge i l.size with h' | h'
 ·simp [h'] at h0
  rw [Array.getElem?_toList]
  simp [h', h0]
 ·simp [Array.getElem?_eq_none h'] at h0
theorem wpAny_inv (Inv : Array Bool -> Act -> World -> Prop)
  (hstep : ∀ (l : Array Bool) (a : Act) (w : World) (i : Nat), l.size = ops.size -> i ∈ Region.ready md ops l -> Inv l a w -> wpOp P ops Q i (Inv (l.setIfInBounds i true)) a w)
  (hend : ∀ l a w, l.size = ops.size -> Region.ready md ops l = [] -> Inv l a w -> Q .normal a w) :
  ∀ (fuel : Nat) (l : Array Bool) (a : Act) (w : World), l.toList.count false <= fuel -> l.size = ops.size -> Inv l a w -> wpAny P md ops Q fuel l a w
 | 0, l, a, w, hc, hs, hI => by
  have hr : Region.ready md ops l = [] := by
   refine List.eq_nil_iff_forall_not_mem.2 (fun i hi => ?_)
   have := List.count_pos_iff.2 (List.mem_of_getElem? (ready_unlisted hi))
   omega
  exact ⟨hr, hend l a w hs hr hI⟩
 | fuel + 1, l, a, w, hc, hs, hI => by
  refine ⟨fun hr => hend l a w hs hr hI, fun i hi => wpOp_mono (fun a' w' h' => ?_) (hstep l a w i hs hi hI)⟩
  refine wpAny_inv Inv hstep hend fuel _ a' w' ?_ (by simpa using hs) h'
  have := count_set l.toList i (ready_unlisted hi)
  simp only [Array.toList_setIfInBounds]
  omega
def Steps (P : Program) (md : Region.Mode) (ops : Array Oper) (Q : Exit -> Act -> World -> Prop) (Inv : Array Bool -> Act -> World -> Prop) : Nat -> List Oper -> Prop
 | _, [] => True
 | i, o :: rest => (∀ (l : Array Bool) (a : Act) (w : World), l.size = ops.size -> l.getD i false = false -> (∀ e ∈ o.after, Region.binds md e = true -> l.getD e.on false = true) -> Inv l a w ->
   ∀ K : Act -> World -> Prop, (∀ a' w', Inv (l.setIfInBounds i true) a' w' -> K a' w') -> if Region.wanted o (yielded ops a.tmps) then o.wp P a w K Q else K (a.put o.dst undef) w) /\ Steps P md ops Q Inv (i + 1) rest
theorem Steps.at_ {Inv : Array Bool -> Act -> World -> Prop} : ∀ {rest : List Oper} {i : Nat}, Steps P md ops Q Inv i rest -> ∀ j o, rest[j]? = some o ->
  (∀ (l : Array Bool) (a : Act) (w : World), l.size = ops.size -> l.getD (i + j) false = false -> (∀ e ∈ o.after, Region.binds md e = true -> l.getD e.on false = true) -> Inv l a w ->
   ∀ K : Act -> World -> Prop, (∀ a' w', Inv (l.setIfInBounds (i + j) true) a' w' -> K a' w') -> if Region.wanted o (yielded ops a.tmps) then o.wp P a w K Q else K (a.put o.dst undef) w)
 | [], _, _, j, o, ho => by simp at ho
 | x :: rest, i, h, 0, o, ho => by simp at ho; subst ho; exact h.1
 | x :: rest, i, h, j + 1, o, ho => by
  have := Steps.at_ h.2 j o (by simpa using ho)
  rw [show i + 1 + j = i + (j + 1) by omega] at this
  exact this
theorem wp_region_inv {id : Nat} {a : Act} {w : World} {l : List Oper} (hm : P.follows .mixedOrders = true) (Inv : Array Bool -> Act -> World -> Prop)
  (h0 : Inv (Array.replicate l.length false) a w.drew) (hs : Steps P .any l.toArray Q Inv 0 l)
  (hend : ∀ b a w, b.size = l.length -> Region.ready .any l.toArray b = [] -> Inv b a w -> Q .normal a w) : (Code.region id l.toArray true).wp P Q a w := by
 refine wp_region_any hm ?_
 refine wpAny_inv Inv (fun b a w i hb hi hI => ?_) (fun b a w hb hr hI => hend b a w (by simpa using hb) hr hI) _ _ _ _ ?_ (by simp) ?_
 ·obtain ⟨hj, o, ho, hall⟩ := mem_ready.1 hi
  have ho' : l[i]? = some o := by simpa using ho
  have hd : b.getD i false = false := by
   rcases Nat.lt_or_ge i b.size with h' | h'
   ·simp [h'] at hj ⊢; exact hj
   ·simp [Array.getElem?_eq_none h'] at hj
  have hst := hs.at_ i o ho' b a w hb (by simpa using hd) hall hI (Inv (b.setIfInBounds i true)) (by rw [Nat.zero_add]; exact fun _ _ h => h)
  unfold wpOp
  simp only [ho]
  split
  ·rename_i hw; rw [if_pos hw] at hst; exact .inl hst
  ·rename_i hw; rw [if_neg hw] at hst; exact hst
 ·simp
 ·simpa using h0
theorem Steps.nil {Inv : Array Bool -> Act -> World -> Prop} {i : Nat} : Steps P md ops Q Inv i [] := trivial
theorem Steps.cons {Inv : Array Bool -> Act -> World -> Prop} {i : Nat} {o : Oper} {rest : List Oper} (hg : o.guard = none)
  (h : ∀ (l : Array Bool) (a : Act) (w : World), l.size = ops.size -> l.getD i false = false -> (∀ e ∈ o.after, Region.binds md e = true -> l.getD e.on false = true) -> Inv l a w ->
   ∀ K : Act -> World -> Prop, (∀ a' w', Inv (l.setIfInBounds i true) a' w' -> K a' w') -> o.wp P a w K Q) (hr : Steps P md ops Q Inv (i + 1) rest) : Steps P md ops Q Inv i (o :: rest) := by
 refine ⟨fun l a w h1 h2 h3 h4 K hK => ?_, hr⟩
 have : Region.wanted o (yielded ops a.tmps) = true := by unfold Region.wanted; rw [hg]
 rw [if_pos this]
 exact h l a w h1 h2 h3 h4 K hK
theorem set_other {l : Array Bool} {i j : Nat} (h : i ≠ j) : (l.setIfInBounds i true).getD j false = l.getD j false := by
 simp [Array.getElem?_setIfInBounds_ne h]
theorem set_same {l : Array Bool} {i : Nat} (h : i < l.size) : (l.setIfInBounds i true).getD i false = true := by
 simp [h]
end
end Go.Proofs.YtahkohfppakaiaaGreatDoor
