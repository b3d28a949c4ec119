/- A region that draws its order and only makes memory: of each operation a fact that new memory keeps; guards by their facts. -/
import Derived.Test.YtgdkjkfbknbgkaaGreatDoorIg
namespace Go.Proofs.YtgdkjkfbknbgkaaGreatDoor
open Go Go.RowKit

/-- What the slots hold. -/
def curV' (tmps : Array Value) (ss : List (Option Nat)) : List Value := ss.map fun o => match o with
  | some s => tmps.getD s undef
  | none => undef
theorem setAll_cur : ∀ (ss : List (Option Nat)) (tmps : Array Value), setAll tmps ss (curV' tmps ss) = tmps
  | [], tmps => rfl
  | none :: ss, tmps => by
    show setAll tmps ss (curV' tmps ss) = tmps
    exact setAll_cur ss tmps
  | some s :: ss, tmps => by
    show setAll (tmps.setIfInBounds s (tmps.getD s undef)) ss (curV' tmps ss) = tmps
    have e : tmps.setIfInBounds s (tmps.getD s undef) = tmps := by
      apply Array.ext_getElem?
      intro i
      rw [Array.getElem?_setIfInBounds]
      split
      · rename_i h
        subst h
        split
        · rename_i h2
          simp [h2]
        · simp
          omega
      · rfl
    rw [e]
    exact setAll_cur ss tmps
theorem puts_cur (a : Act) (ss : List (Option Nat)) : a = puts a ss (curV' a.tmps ss) := by
  unfold puts
  rw [setAll_cur]
/-- New memory keeps what a value is. -/
def Keeps (F : Value → World → Prop) : Prop := ∀ v w w', F v w → Below w.heap.size w w' → F v w'
def Is (c : Value) : Value → World → Prop := fun v _ => v = c
theorem keeps_is (c : Value) : Keeps (Is c) := fun _ _ _ h _ => h
/-- A slice over a new block. -/
def IsRow (T : TypeId) (n : Nat) (cs : Array Value) : Value → World → Prop := fun v w => ∃ g, v = .slice (some ⟨g, 0, none⟩) n n ∧ Box w g T cs
theorem keeps_row (T : TypeId) (n : Nat) (cs : Array Value) : Keeps (IsRow T n cs) := fun _ _ _ ⟨g, h, hb⟩ hB => ⟨g, h, hb.on hB hb.lt⟩
/-- A pointer to a new block. -/
def IsBox (T : TypeId) (cs : Array Value) : Value → World → Prop := fun v w => ∃ g, v = .pointer (some ⟨g, 0, none⟩) ∧ Box w g T cs
theorem keeps_box (T : TypeId) (cs : Array Value) : Keeps (IsBox T cs) := fun _ _ _ ⟨g, h, hb⟩ hB => ⟨g, h, hb.on hB hb.lt⟩
def KeepsAll : List (Value → World → Prop) → Prop
  | [] => True
  | F :: fs => Keeps F ∧ KeepsAll fs
theorem keeps_at : ∀ {fs : List (Value → World → Prop)}, KeepsAll fs → ∀ (i : Nat) F, fs[i]? = some F → Keeps F
  | _ :: _, h, 0, _, e => by cases e; exact h.1
  | _ :: fs, h, i + 1, F, e => keeps_at h.2 i F (by simpa using e)
structure RI (l : List Oper) (fs : List (Value → World → Prop)) (us0 : Nat → Value) (W1 : World) (d : Nat → Bool) (us : Nat → Value) (w : World) : Prop where
  below : Below W1.heap.size W1 w
  fact : ∀ (i : Nat) F, fs[i]? = some F → d i = true → F (us i) w
  clos : ∀ (i : Nat) o, l[i]? = some o → d i = true → ∀ e ∈ o.after, Region.binds .any e = true → d e.on = true
  init : ∀ i, d i = false → us i = us0 i
/-- What hangs on an operation not done isn't done. -/
theorem RI.before {l : List Oper} {fs : List (Value → World → Prop)} {us0 : Nat → Value} {W1 w : World} {d : Nat → Bool} {us : Nat → Value} (h : RI l fs us0 W1 d us w) (i j : Nat) (o : Oper) (ho : l[i]? = some o)
    (he : (o.after.any fun e => Region.binds .any e && e.on == j) = true) (hj : d j = false) : d i = false := by
  cases hi : d i with
  | false => rfl
  | true =>
    obtain ⟨e, hm, he⟩ := Array.any_eq_true'.1 he
    simp only [Bool.and_eq_true, beq_iff_eq] at he
    have := h.clos i o ho hi e hm he.1
    rw [he.2, hj] at this
    cases this
def RInv (l : List Oper) (fs : List (Value → World → Prop)) (us0 : Nat → Value) (W1 : World) (a0 : Act) (ss : List (Option Nat)) (b : Array Bool) (a : Act) (w : World) : Prop :=
  ∃ us : List Value, us.length = fs.length ∧ a = puts a0 ss us ∧ RI l fs us0 W1 (bget b) (uget us) w
theorem rf_step {l : List Oper} {fs : List (Value → World → Prop)} {us0 : Nat → Value} {W1 w w' : World} {b : Array Bool} {us : List Value} {a a0 : Act} {ss : List (Option Nat)} (hI : RI l fs us0 W1 (bget b) (uget us) w) (hu : us.length = fs.length) (hbs : b.size = fs.length) (hks : KeepsAll fs) (i : Nat) {o : Oper} (F : Value → World → Prop) (v : Value) (hi : i < fs.length) (hk : fs[i]? = some F)
    (ho : l[i]? = some o) (hbp : ∀ e ∈ o.after, Region.binds .any e = true → b.getD e.on false = true) (hF : F v w') (hb : Below w.heap.size w w') (ha : a = puts a0 ss (us.set i v)) :
    RInv l fs us0 W1 a0 ss (b.setIfInBounds i true) a w' := by
  refine ⟨us.set i v, by rw [List.length_set]; exact hu, ha, ?_⟩
  rw [bget_set (by omega), uget_set v (by omega)]
  have keep : ∀ k, bget b k = true → upd (bget b) i true k = true := fun k hk => by
    by_cases e : k = i
    · rw [e, upd_same]
    · rw [upd_ne _ _ e]; exact hk
  refine ⟨hI.below.trans (hb.mono hI.below.size), fun j G hj hd => ?_, fun j p hp hd e he hbd => ?_, fun j hd => ?_⟩
  · by_cases e : j = i
    · subst e
      rw [hk] at hj
      cases hj
      rw [upd_same]
      exact hF
    · rw [upd_ne _ _ e] at hd ⊢
      exact keeps_at hks j G hj _ _ _ (hI.fact j G hj hd) hb
  · by_cases ej : j = i
    · subst ej
      rw [ho] at hp
      cases hp
      exact keep _ (hbp e he hbd)
    · rw [upd_ne _ _ ej] at hd
      exact keep _ (hI.clos j p hp hd e he hbd)
  · have e : j ≠ i := fun e => by rw [e, upd_same] at hd; cases hd
    rw [upd_ne _ _ e] at hd ⊢
    exact hI.init j hd
/-- A step of an operation, guarded or not. -/
theorem Steps.consG {P : Program} {md : Region.Mode} {ops : Array Oper} {Q : Exit → Act → World → Prop} {Inv : Array Bool → Act → World → Prop} {i : Nat} {o : Oper} {rest : List Oper}
    (h : ∀ (l : Array Bool) (a : Act) (w : World), l.size = ops.size → l.getD i false = false → (∀ e ∈ o.after, Region.binds md e = true → l.getD e.on false = true) → Inv l a w →
      ∀ K : Act → World → Prop, (∀ a' w', Inv (l.setIfInBounds i true) a' w' → K a' w') → if Region.wanted o (yielded ops a.tmps) then o.wp P a w K Q else K (a.put o.dst undef) w) (hr : Steps P md ops Q Inv (i + 1) rest) : Steps P md ops Q Inv i (o :: rest) := ⟨h, hr⟩
theorem wp_region_rf {P : Program} {Q : Exit → Act → World → Prop} {id : Nat} {a : Act} {w : World} {l : List Oper} (fs : List (Value → World → Prop)) (ss : List (Option Nat)) (hm : P.follows .mixedOrders = true) (hl : l.length = fs.length) (hl0 : ss.length = fs.length)
    (hs : Steps P .any l.toArray Q (RInv l fs (uget (curV' a.tmps ss)) w a ss) 0 l) (hfull : earlierB l = true)
    (hend : ∀ (us : List Value) (w' : World), us.length = fs.length → (Below w.heap.size w w' ∧ ∀ (i : Nat) F, fs[i]? = some F → F (uget us i) w') → Q .normal (puts a ss us) w') : (Code.region id l.toArray true).wp P Q a w := by
  refine wp_region_inv hm (RInv l fs (uget (curV' a.tmps ss)) w a ss) ?_ hs ?_
  · have e0 : ∀ i, bget (Array.replicate l.length false) i = false := fun i => by
      unfold bget
      by_cases h2 : i < l.length
      · simp [h2]
      · simp [h2]
    refine ⟨curV' a.tmps ss, by unfold curV'; rw [List.length_map]; exact hl0, puts_cur a ss, (Below.refl _ _).drew, fun i F _ h => ?_, fun i o _ h => ?_, fun i _ => rfl⟩
    · rw [e0] at h; cases h
    · rw [e0] at h; cases h
  · rintro b a' w' hb hr ⟨us, hus, rfl, hI⟩
    have hf := all_done hfull hb hr
    exact hend us w' hus ⟨hI.below, fun i F hi => hI.fact i F hi (hf i (by rw [hl]; exact (List.getElem?_eq_some_iff.1 hi).1))⟩
end Go.Proofs.YtgdkjkfbknbgkaaGreatDoor
