/- A region that draws its order and holds a chain of operations that turn the world: what each leaves, and where the chain stands. -/
import Derived.Test.YtgdkjkfbknbgkaaGreatDoorIg
namespace Go.Proofs.YtgdkjkfbknbgkaaGreatDoor
open Go Go.RowKit

/-- Every operation that is done is done behind those it hangs on; what each has left is as it should be; Ph says where the world stands. -/
structure CJ (l : List Oper) (ks : List (Option (Value → Prop))) (Ph : (Nat → Bool) → (Nat → Value) → World → Prop) (d : Nat → Bool) (us : Nat → Value) (w : World) : Prop where
  val : ∀ (i : Nat) P, ks[i]? = some (some P) → d i = true → P (us i)
  done : ∀ (i : Nat) o, l[i]? = some o → d i = true → ∀ e ∈ o.after, Region.binds .any e = true → d e.on = true
  ph : Ph d us w
def CInv (l : List Oper) (ks : List (Option (Value → Prop))) (Ph : (Nat → Bool) → (Nat → Value) → World → Prop) (a0 : Act) (ss : List (Option Nat)) (b : Array Bool) (a : Act) (w : World) : Prop :=
  ∃ us : List Value, us.length = ks.length ∧ a = puts a0 ss us ∧ CJ l ks Ph (bget b) (uget us) w
theorem CJ.before {l : List Oper} {ks : List (Option (Value → Prop))} {Ph : (Nat → Bool) → (Nat → Value) → World → Prop} {d : Nat → Bool} {us : Nat → Value} {w : World} (h : CJ l ks Ph d us w) (i j : Nat) {o : Oper} (ho : l[i]? = some o) (ha : (o.after.any fun e => Region.binds .any e && e.on == j) = true) (hj : d j = false) : d i = false := by
  cases hi : d i with
  | false => rfl
  | true =>
    obtain ⟨e, he, h2⟩ := Array.any_eq_true'.1 ha
    simp only [Bool.and_eq_true, beq_iff_eq] at h2
    have := h.done i o ho hi e he h2.1
    rw [h2.2, hj] at this
    cases this
theorem chain_step {l : List Oper} {ks : List (Option (Value → Prop))} {Ph : (Nat → Bool) → (Nat → Value) → World → Prop} {b : Array Bool} {us : List Value} {a a0 : Act} {ss : List (Option Nat)} {w w' : World} (h : CJ l ks Ph (bget b) (uget us) w) (hu : us.length = ks.length) (hbs : b.size = ks.length) (i : Nat) (v : Value) (hi : i < ks.length) {o : Oper} (ho : l[i]? = some o)
    (hbp : ∀ e ∈ o.after, Region.binds .any e = true → b.getD e.on false = true) (hP : ∀ P, ks[i]? = some (some P) → P v) (hph : Ph (upd (bget b) i true) (upd (uget us) i v) w') (ha : a = puts a0 ss (us.set i v)) : CInv l ks Ph a0 ss (b.setIfInBounds i true) a w' := by
  refine ⟨us.set i v, by rw [List.length_set]; exact hu, ha, ?_⟩
  rw [bget_set (by omega), uget_set v (by omega)]
  refine ⟨fun j P hj hd => ?_, fun j o' hj hd e he hb => ?_, hph⟩
  · by_cases e : j = i
    · subst e
      rw [upd_same]
      exact hP P hj
    · rw [upd_ne _ _ e] at hd ⊢
      exact h.val j P hj hd
  · have key : bget b e.on = true → upd (bget b) i true e.on = true := fun h => by
      by_cases e2 : e.on = i
      · rw [e2, upd_same]
      · rw [upd_ne _ _ e2]; exact h
    by_cases e2 : j = i
    · subst e2
      rw [ho] at hj
      cases hj
      exact key (hbp e he hb)
    · rw [upd_ne _ _ e2] at hd
      exact key (h.done j o' hj hd e he hb)
theorem val_of {ks : List (Option (Value → Prop))} {i : Nat} {P0 : Value → Prop} {v : Value} (hk : ks[i]? = some (some P0)) (hv : P0 v) : ∀ P, ks[i]? = some (some P) → P v := fun P h => by
  rw [hk] at h
  cases h
  exact hv
theorem none_of {ks : List (Option (Value → Prop))} {i : Nat} {v : Value} (hk : ks[i]? = some none) : ∀ P, ks[i]? = some (some P) → P v := fun P h => by
  rw [hk] at h
  cases h
theorem wp_region_chain {P : Program} {Q : Exit → Act → World → Prop} {id : Nat} {a : Act} {w : World} {l : List Oper} (ks : List (Option (Value → Prop))) (Ph : (Nat → Bool) → (Nat → Value) → World → Prop) (ss : List (Option Nat)) (us0 : List Value) (hm : P.follows .mixedOrders = true) (hl : l.length = ks.length) (hl0 : us0.length = ks.length)
    (hu : a = puts a ss us0) (hph : Ph (fun _ => false) (uget us0) w.drew) (hs : Steps P .any l.toArray Q (CInv l ks Ph a ss) 0 l) (hfull : earlierB l = true)
    (hend : ∀ (us : List Value) (w' : World), us.length = ks.length → ∀ d : Nat → Bool, (∀ i, i < ks.length → d i = true) → CJ l ks Ph d (uget us) w' → Q .normal (puts a ss us) w') : (Code.region id l.toArray true).wp P Q a w := by
  refine wp_region_inv hm (CInv l ks Ph a ss) ?_ hs ?_
  · refine ⟨us0, hl0, hu, ?_⟩
    have e : bget (Array.replicate l.length false) = fun _ => false := by
      funext i
      unfold bget
      by_cases h : i < l.length
      · simp [h]
      · simp [h]
    rw [e]
    exact ⟨fun _ _ _ h => Bool.noConfusion h, fun _ _ _ h => Bool.noConfusion h, hph⟩
  · intro b a' w' hb hr hI
    have hf := all_done hfull hb hr
    unfold CInv at hI
    obtain ⟨us, hus, ha, hJ⟩ := hI
    rw [ha]
    exact hend us w' hus (bget b) (fun i hi => hf i (by omega)) hJ
/-- x = append(x, e), x a slice in cell f of block g: where it stands. bs, ap, st: the numbers of the operations that make the new element's row, append, store. -/
def AppPh (W1 : World) (B : Nat) (T : TypeId) (sz n : Nat) (xs cs : List Value) (vl : Value) (g f bs ap st : Nat) (d : Nat → Bool) (us : Nat → Value) (w : World) : Prop :=
  if d st = true then ∃ w3 r cap, (∃ w2, Below W1.heap.size W1 w2 ∧ w3.ownsRow B T sz (.slice (some ⟨r, 0, none⟩) (n + 1) cap) (n + 1) (xs ++ cs) ∧ (w2.alloc (.cells cs.toArray T)).grownBy w3 vl.ownBlock ∧ (vl.ownBlock = some r ∨ r = (w2.alloc (.cells cs.toArray T)).heap.size)) ∧ w = w3.setCell ⟨g, f, none⟩ (.slice (some ⟨r, 0, none⟩) (n + 1) cap)
  else if d ap = true then ∃ r cap, us ap = .slice (some ⟨r, 0, none⟩) (n + 1) cap ∧ ∃ w2, Below W1.heap.size W1 w2 ∧ w.ownsRow B T sz (.slice (some ⟨r, 0, none⟩) (n + 1) cap) (n + 1) (xs ++ cs) ∧ (w2.alloc (.cells cs.toArray T)).grownBy w vl.ownBlock ∧ (vl.ownBlock = some r ∨ r = (w2.alloc (.cells cs.toArray T)).heap.size)
  else if d bs = true then ∃ w2, Below W1.heap.size W1 w2 ∧ us bs = .slice (some ⟨w2.heap.size, 0, none⟩) 1 1 ∧ w = w2.alloc (.cells cs.toArray T)
  else Below W1.heap.size W1 w
section
variable {W1 : World} {B : Nat} {T : TypeId} {sz n : Nat} {xs cs : List Value} {vl : Value} {g f bs ap st : Nat} {d : Nat → Bool} {us : Nat → Value} {w : World}
theorem AppPh.below (h : AppPh W1 B T sz n xs cs vl g f bs ap st d us w) (h1 : d st = false) (h2 : d ap = false) : Below W1.heap.size W1 w := by
  unfold AppPh at h
  rw [h1, h2] at h
  simp only [Bool.false_eq_true, if_false] at h
  split at h
  · obtain ⟨w2, hb, _, rfl⟩ := h
    exact hb.alloc hb.size _
  · exact h
theorem AppPh.at_bs (h : AppPh W1 B T sz n xs cs vl g f bs ap st d us w) (h1 : d st = false) (h2 : d ap = false) (h3 : d bs = true) : ∃ w2, Below W1.heap.size W1 w2 ∧ us bs = .slice (some ⟨w2.heap.size, 0, none⟩) 1 1 ∧ w = w2.alloc (.cells cs.toArray T) := by
  unfold AppPh at h
  rw [h1, h2, h3] at h
  simpa using h
theorem AppPh.at_ap (h : AppPh W1 B T sz n xs cs vl g f bs ap st d us w) (h1 : d st = false) (h2 : d ap = true) : ∃ r cap, us ap = .slice (some ⟨r, 0, none⟩) (n + 1) cap ∧ ∃ w2, Below W1.heap.size W1 w2 ∧ w.ownsRow B T sz (.slice (some ⟨r, 0, none⟩) (n + 1) cap) (n + 1) (xs ++ cs) ∧ (w2.alloc (.cells cs.toArray T)).grownBy w vl.ownBlock ∧ (vl.ownBlock = some r ∨ r = (w2.alloc (.cells cs.toArray T)).heap.size) := by
  unfold AppPh at h
  rw [h1, h2] at h
  simpa using h
theorem AppPh.at_st (h : AppPh W1 B T sz n xs cs vl g f bs ap st d us w) (h1 : d st = true) : ∃ w3 r cap, (∃ w2, Below W1.heap.size W1 w2 ∧ w3.ownsRow B T sz (.slice (some ⟨r, 0, none⟩) (n + 1) cap) (n + 1) (xs ++ cs) ∧ (w2.alloc (.cells cs.toArray T)).grownBy w3 vl.ownBlock ∧ (vl.ownBlock = some r ∨ r = (w2.alloc (.cells cs.toArray T)).heap.size)) ∧ w = w3.setCell ⟨g, f, none⟩ (.slice (some ⟨r, 0, none⟩) (n + 1) cap) := by
  unfold AppPh at h
  rw [h1] at h
  simpa using h
/-- Another operation is done, the world as it was. -/
theorem AppPh.step (h : AppPh W1 B T sz n xs cs vl g f bs ap st d us w) (i : Nat) (v : Value) (h1 : i ≠ st) (h2 : i ≠ ap) (h3 : i ≠ bs) : AppPh W1 B T sz n xs cs vl g f bs ap st (upd d i true) (upd us i v) w := by
  unfold AppPh at h ⊢
  rw [upd_ne _ _ (fun e => h1 e.symm), upd_ne _ _ (fun e => h2 e.symm), upd_ne _ _ (fun e => h3 e.symm), upd_ne _ _ (fun e => h2 e.symm), upd_ne _ _ (fun e => h3 e.symm)]
  exact h
/-- .. by a call that only adds memory, ahead of the chain. -/
theorem AppPh.call {w' : World} (h : AppPh W1 B T sz n xs cs vl g f bs ap st d us w) (i : Nat) (v : Value) (h1 : i ≠ st) (h2 : i ≠ ap) (h3 : i ≠ bs) (g1 : d st = false) (g2 : d ap = false) (hb : Below w.heap.size w w') (g3 : d bs = false) : AppPh W1 B T sz n xs cs vl g f bs ap st (upd d i true) (upd us i v) w' := by
  have h0 := h.below g1 g2
  unfold AppPh
  rw [upd_ne _ _ (fun e => h1 e.symm), upd_ne _ _ (fun e => h2 e.symm), upd_ne _ _ (fun e => h3 e.symm), g1, g2, g3]
  simp only [Bool.false_eq_true, if_false]
  exact h0.trans (hb.mono h0.size)
theorem AppPh.row (h : AppPh W1 B T sz n xs cs vl g f bs ap st d us w) (h1 : bs ≠ st) (h2 : bs ≠ ap) (g1 : d st = false) (g2 : d ap = false) : AppPh W1 B T sz n xs cs vl g f bs ap st (upd d bs true) (upd us bs (.slice (some ⟨w.heap.size, 0, none⟩) 1 1)) (w.alloc (.cells cs.toArray T)) := by
  have h0 := h.below g1 g2
  unfold AppPh
  rw [upd_ne _ _ (fun e => h1 e.symm), upd_ne _ _ (fun e => h2 e.symm), upd_same, upd_same, g1, g2]
  simp only [Bool.false_eq_true, if_false, if_true]
  exact ⟨w, h0, rfl, rfl⟩
theorem AppPh.app {w2 w3 : World} {r cap : Nat} (h1 : ap ≠ st) (g1 : d st = false) (hb : Below W1.heap.size W1 w2) (ho : w3.ownsRow B T sz (.slice (some ⟨r, 0, none⟩) (n + 1) cap) (n + 1) (xs ++ cs)) (hg : (w2.alloc (.cells cs.toArray T)).grownBy w3 vl.ownBlock) (hr : vl.ownBlock = some r ∨ r = (w2.alloc (.cells cs.toArray T)).heap.size) :
    AppPh W1 B T sz n xs cs vl g f bs ap st (upd d ap true) (upd us ap (.slice (some ⟨r, 0, none⟩) (n + 1) cap)) w3 := by
  unfold AppPh
  rw [upd_ne _ _ (fun e => h1 e.symm), upd_same, upd_same, g1]
  simp only [Bool.false_eq_true, if_false, if_true]
  exact ⟨r, cap, rfl, w2, hb, ho, hg, hr⟩
theorem AppPh.sto {w2 w3 : World} {r cap : Nat} {v : Value} (hb : Below W1.heap.size W1 w2) (ho : w3.ownsRow B T sz (.slice (some ⟨r, 0, none⟩) (n + 1) cap) (n + 1) (xs ++ cs)) (hg : (w2.alloc (.cells cs.toArray T)).grownBy w3 vl.ownBlock) (hr : vl.ownBlock = some r ∨ r = (w2.alloc (.cells cs.toArray T)).heap.size) :
    AppPh W1 B T sz n xs cs vl g f bs ap st (upd d st true) (upd us st v) (w3.setCell ⟨g, f, none⟩ (.slice (some ⟨r, 0, none⟩) (n + 1) cap)) := by
  unfold AppPh
  rw [upd_same]
  simp only [if_true]
  exact ⟨w3, r, cap, ⟨w2, hb, ho, hg, hr⟩, rfl⟩
end
end Go.Proofs.YtgdkjkfbknbgkaaGreatDoor
