/- A region that draws its order, within a round of a range over a function: what serves outside serves there, if it defers nothing. -/
import Derived.Test.YtbeapojjbgkalaaGreatDoorIh
import Derived.OrdersIn
import Derived.RangeFuncCalls
import Derived.RangeFuncNested
namespace Go.Proofs.YtbeapojjbgkalaaGreatDoor
open Go Go.RowKit

section
variable {n : Nat} {P : Program} {ops : Array Oper} {Q : Exit → Act → World → Prop}
theorem semAt_plain {r : Option Nat} {ρ : Operand → Value} {o : Oper} (h : ∀ c, o.op ≠ .defer c) : Oper.semAt r ρ o = execOp ρ o := by
  cases r with
  | none => exact Oper.semAt_none ρ o
  | some l => exact Oper.semAt_some l ρ o h
/-- None of the operations is a 'defer'. -/
def noDefer (ops : Array Oper) : Bool := ops.all fun o => match o.op with
  | .defer _ => false
  | _ => true
theorem noDefer_at {i : Nat} {o : Oper} (h : noDefer ops = true) (hi : ops[i]? = some o) : ∀ c, o.op ≠ .defer c := by
  intro c hc
  obtain ⟨hl, he⟩ := Array.getElem?_eq_some_iff.1 hi
  have := Array.all_eq_true.1 h i hl
  rw [he, hc] at this
  cases this
theorem rows_in {row : String} {args : Array Value} {w : World} {R : Value → World → Prop} (l : Nat) (h : Rows P row args w R) : RowsIn (Fence.wide.inRound l) n P row args w R := by
  intro c cs hr
  obtain ⟨v, w', hR, hs⟩ := h c cs
  exact ⟨v, w', hR, stepsIn_wide.2 hs⟩
theorem op_in {o : Oper} {a : Act} {w : World} {K : Act → World → Prop} (l : Nat) (hnd : ∀ c, o.op ≠ .defer c) (h : o.wp P a w K Q) : o.wpIn (Fence.wide.inRound l) n P a w K Q := by
  unfold Oper.wp at h
  unfold Oper.wpIn
  refine ⟨fun _ _ => trivial, ?_⟩
  rw [semAt_plain hnd]
  revert h
  generalize (execOp a.eval o).run P w = r
  intro h
  cases r with
  | ok x w' =>
    cases x <;> simp only [Oper.upon, Oper.uponIn] at h ⊢ <;>
      first
      | exact h
      | exact ⟨(fun h0 => by cases h0), (callsIn_wide.2 h).inRound l⟩
      | exact ⟨(fun h0 => by cases h0), rows_in l h⟩
      | exact h.elim
  | halt x w' => cases x <;> first | exact h | exact h.elim
theorem wpAnyIn_inv (l : Nat) (hnd : noDefer ops = true) (Inv : Array Bool → Act → World → Prop)
    (hstep : ∀ (b : Array Bool) (a : Act) (w : World) (i : Nat) (o : Oper), ops[i]? = some o → b.size = ops.size → i ∈ Region.ready .any ops b → Inv b a w → if Region.wanted o (yielded ops a.tmps) then o.wp P a w (Inv (b.setIfInBounds i true)) Q else Inv (b.setIfInBounds i true) (a.put o.dst undef) w)
    (hend : ∀ b a w, b.size = ops.size → Region.ready .any ops b = [] → Inv b a w → Q .normal a w) :
    ∀ (fuel : Nat) (b : Array Bool) (a : Act) (w : World), b.toList.count false ≤ fuel → b.size = ops.size → Inv b a w → wpAnyIn (Fence.wide.inRound l) n P .any ops Q fuel b a w
  | 0, b, a, w, hc, hs, hI => by
    have hr : Region.ready .any ops b = [] := by
      refine List.eq_nil_iff_forall_not_mem.2 (fun i hi => ?_)
      have := List.count_pos_iff.2 (List.mem_of_getElem? (ready_unlisted hi))
      omega
    exact ⟨hr, hend b a w hs hr hI⟩
  | fuel + 1, b, a, w, hc, hs, hI => by
    refine ⟨fun hr => hend b a w hs hr hI, fun i hi => ?_⟩
    have hnext : ∀ a' w', Inv (b.setIfInBounds i true) a' w' → wpAnyIn (Fence.wide.inRound l) n P .any ops Q fuel (b.setIfInBounds i true) a' w' := fun a' w' h' => by
      refine wpAnyIn_inv l hnd Inv hstep hend fuel _ a' w' ?_ (by simpa using hs) h'
      have := count_set b.toList i (ready_unlisted hi)
      simp only [Array.toList_setIfInBounds]
      omega
    obtain ⟨-, o, ho, -⟩ := mem_ready.1 hi
    have h1 := hstep b a w i o ho hs hi hI
    unfold wpOpIn
    simp only [ho]
    by_cases hw : Region.wanted o (yielded ops a.tmps) = true
    · rw [if_pos hw] at h1 ⊢
      exact Oper.wpIn_mono hnext (op_in l (noDefer_at hnd ho) h1)
    · rw [if_neg hw] at h1 ⊢
      exact ⟨fun _ _ => trivial, hnext _ _ h1⟩
theorem wpIn_region_inv {id r : Nat} {a : Act} {w : World} {l : List Oper} (hm : P.follows .mixedOrders = true) (hnd : noDefer l.toArray = true) (Inv : Array Bool → Act → World → Prop)
    (h0 : Inv (Array.replicate l.length false) a w.drew) (hs : Steps P .any l.toArray Q Inv 0 l)
    (hend : ∀ b a w, b.size = l.length → Region.ready .any l.toArray b = [] → Inv b a w → Q .normal a w) : (Code.region id l.toArray true).wpIn (Fence.wide.inRound r) n P Q a w := by
  refine wpIn_region_any hm ?_
  refine wpAnyIn_inv r hnd Inv (fun b a w i o ho hb hi hI => ?_) (fun b a w hb hr hI => hend b a w (by simpa using hb) hr hI) _ _ _ _ ?_ (by simp) ?_
  · obtain ⟨hj, o', ho', hall⟩ := mem_ready.1 hi
    rw [ho] at ho'
    cases ho'
    have ho' : l[i]? = some o := by simpa using ho
    have hd : b.getD i false = false := by
      rcases Nat.lt_or_ge i b.size with h' | h'
      · simp [h'] at hj ⊢; exact hj
      · simp [Array.getElem?_eq_none h'] at hj
    exact hs.at_ i o ho' b a w hb (by simpa using hd) hall hI (Inv (b.setIfInBounds i true)) (by rw [Nat.zero_add]; exact fun _ _ h => h)
  · simp
  · simpa using h0
theorem wpIn_region_chain {id r : Nat} {a : Act} {w : World} {l : List Oper} (ks : List (Option (Value → Prop))) (Ph : (Nat → Bool) → (Nat → Value) → World → Prop) (ss : List (Option Nat)) (us0 : List Value) (hm : P.follows .mixedOrders = true) (hnd : noDefer l.toArray = true) (hl : l.length = ks.length) (hl0 : us0.length = ks.length)
    (hu : a = puts a ss us0) (hph : Ph (fun _ => false) (uget us0) w.drew) (hs : Steps P .any l.toArray Q (CInv l ks Ph a ss) 0 l) (hfull : earlierB l = true)
    (hend : ∀ (us : List Value) (w' : World), us.length = ks.length → ∀ d : Nat → Bool, (∀ i, i < ks.length → d i = true) → CJ l ks Ph d (uget us) w' → Q .normal (puts a ss us) w') : (Code.region id l.toArray true).wpIn (Fence.wide.inRound r) n P Q a w := by
  refine wpIn_region_inv hm hnd (CInv l ks Ph a ss) ?_ hs ?_
  · refine ⟨us0, hl0, hu, ?_⟩
    have e : bget (Array.replicate l.length false) = fun _ => false := by
      funext i
      unfold bget
      by_cases h : i < l.length
      · simp [h]
      · simp [h]
    rw [e]
    exact ⟨fun _ _ _ h => Bool.noConfusion h, fun _ _ _ h => Bool.noConfusion h, hph⟩
  · intro b a' w' hb hr hI
    have hf := all_done hfull hb hr
    unfold CInv at hI
    obtain ⟨us, hus, ha, hJ⟩ := hI
    rw [ha]
    exact hend us w' hus (bget b) (fun i hi => hf i (by omega)) hJ
end
end Go.Proofs.YtbeapojjbgkalaaGreatDoor
