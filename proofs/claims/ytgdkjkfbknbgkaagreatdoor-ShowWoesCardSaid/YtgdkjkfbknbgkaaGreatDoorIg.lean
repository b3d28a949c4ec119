/- A region that draws its order: loads, calls, boxes made and filled; what each operation leaves serves every order. -/
import Derived.Test.YtgdkjkfbknbgkaaGreatDoorIa
import Derived.Test.YtgdkjkfbknbgkaaGreatDoorFa
namespace Go.Proofs.YtgdkjkfbknbgkaaGreatDoor
open Go Go.RowKit

/-- What an operation leaves: a value; a new box, to be filled by operation st with what src left; nothing, but box bx filled with what src left. -/
inductive Kd where
  | val (P : Value → Prop)
  | box (T : TypeId) (z : Array Value) (st src : Nat)
  | sto (bx src : Nat)
def flat : Value → Array Value
  | .agg xs => xs
  | v => #[v]
def upd {α : Type} (f : Nat → α) (i : Nat) (v : α) : Nat → α := fun j => if j = i then v else f j
theorem upd_same {α : Type} (f : Nat → α) (i : Nat) (v : α) : upd f i v i = v := by simp [upd]
theorem upd_ne {α : Type} (f : Nat → α) {i j : Nat} (v : α) (h : j ≠ i) : upd f i v j = f j := by simp [upd, h]
/-- The kinds fit together. -/
structure Fit (ks : List Kd) : Prop where
  st : ∀ (i : Nat) T z st src, ks[i]? = some (.box T z st src) → ks[st]? = some (.sto i src)
  src : ∀ (i : Nat) b s, ks[i]? = some (.sto b s) → (∃ P, ks[s]? = some (.val P)) ∧ ∃ T z, ks[b]? = some (.box T z i s)
/-- Whether they do, reckoned. -/
def fitB (ks : List Kd) : Bool := (List.range ks.length).all fun i => match ks[i]? with
  | some (.box _ _ st src) => (match ks[st]? with | some (.sto b s) => b == i && s == src | _ => false)
  | some (.sto b s) => (match ks[s]? with | some (.val _) => true | _ => false) && (match ks[b]? with | some (.box _ _ st src) => st == i && src == s | _ => false)
  | _ => true
theorem fit_of {ks : List Kd} (h : fitB ks = true) : Fit ks := by
  unfold fitB at h
  rw [List.all_eq_true] at h
  refine ⟨fun i T z st src hi => ?_, fun i b s hi => ?_⟩
  · have := h i (List.mem_range.2 (List.getElem?_eq_some_iff.1 hi).1)
    rw [hi] at this
    simp only at this
    split at this
    · rename_i b s hs
      simp only [Bool.and_eq_true, beq_iff_eq] at this
      rw [hs, this.1, this.2]
    · cases this
  · have := h i (List.mem_range.2 (List.getElem?_eq_some_iff.1 hi).1)
    rw [hi] at this
    simp only [Bool.and_eq_true] at this
    obtain ⟨h1, h2⟩ := this
    split at h1
    · rename_i P hP
      split at h2
      · rename_i T z st src hb
        simp only [Bool.and_eq_true, beq_iff_eq] at h2
        exact ⟨⟨P, hP⟩, T, z, by rw [hb, h2.1, h2.2]⟩
      · cases h2
    · cases h1
structure JI (ks : List Kd) (W1 : World) (d : Nat → Bool) (us : Nat → Value) (w : World) : Prop where
  below : Below W1.heap.size W1 w
  val : ∀ (i : Nat) P, ks[i]? = some (.val P) → d i = true → P (us i)
  box : ∀ (i : Nat) T z st src, ks[i]? = some (.box T z st src) → d i = true → ∃ g, us i = .pointer (some ⟨g, 0, none⟩) ∧ W1.heap.size ≤ g ∧ Box w g T (if d st then flat (us src) else z)
  apart : ∀ (i j : Nat) T z st src T' z' st' src', ks[i]? = some (.box T z st src) → ks[j]? = some (.box T' z' st' src') → i ≠ j → d i = true → d j = true → us i ≠ us j
  sto : ∀ (i : Nat) b s, ks[i]? = some (.sto b s) → d i = true → d b = true ∧ d s = true
section
variable {ks : List Kd} {W1 w w' : World} {d : Nat → Bool} {us : Nat → Value}
theorem JI.start (ks : List Kd) (W1 : World) (us : Nat → Value) : JI ks W1 (fun _ => false) us W1.drew :=
  ⟨(Below.refl _ _).drew, nofun, nofun, nofun, nofun⟩
theorem JI.stepVal (h : JI ks W1 d us w) (i : Nat) (P : Value → Prop) (v : Value) (hf : Fit ks) (hk : ks[i]? = some (.val P)) (hd : d i = false) (hP : P v) (hb : Below w.heap.size w w') : JI ks W1 (upd d i true) (upd us i v) w' := by
  refine ⟨h.below.trans (hb.mono h.below.size), fun j Q hj hdj => ?_, fun j T z st src hj hdj => ?_, fun j k T z st src T' z' st' src' hj hk' hne hdj hdk => ?_, fun j b s hj hdj => ?_⟩
  · by_cases e : j = i
    · subst e
      rw [hk] at hj
      cases hj
      rw [upd_same]
      exact hP
    · rw [upd_ne _ _ e] at hdj ⊢
      exact h.val j Q hj hdj
  · have e : j ≠ i := fun e => by subst e; rw [hk] at hj; cases hj
    rw [upd_ne _ _ e] at hdj ⊢
    obtain ⟨g, h1, h2, h3⟩ := h.box j T z st src hj hdj
    have hst := hf.st j T z st src hj
    have e2 : st ≠ i := fun e => by subst e; rw [hk] at hst; cases hst
    refine ⟨g, h1, h2, ?_⟩
    rw [upd_ne _ _ e2]
    cases hds : d st with
    | false => rw [hds] at h3; exact h3.on hb h3.lt
    | true =>
      have e3 : src ≠ i := fun e => by subst e; rw [(h.sto st j src hst hds).2] at hd; cases hd
      rw [upd_ne _ _ e3]
      rw [hds] at h3
      exact h3.on hb h3.lt
  · have e : j ≠ i := fun e => by subst e; rw [hk] at hj; cases hj
    have e' : k ≠ i := fun e => by subst e; rw [hk] at hk'; cases hk'
    rw [upd_ne _ _ e] at hdj ⊢
    rw [upd_ne _ _ e'] at hdk ⊢
    exact h.apart j k T z st src T' z' st' src' hj hk' hne hdj hdk
  · have e : j ≠ i := fun e => by subst e; rw [hk] at hj; cases hj
    rw [upd_ne _ _ e] at hdj
    obtain ⟨h1, h2⟩ := h.sto j b s hj hdj
    have e1 : b ≠ i := fun e => by subst e; rw [h1] at hd; cases hd
    have e2 : s ≠ i := fun e => by subst e; rw [h2] at hd; cases hd
    rw [upd_ne _ _ e1, upd_ne _ _ e2]
    exact ⟨h1, h2⟩
theorem JI.stepBox (h : JI ks W1 d us w) (i : Nat) (T : TypeId) (z : Array Value) (st src : Nat) (hf : Fit ks) (hk : ks[i]? = some (.box T z st src)) (hd : d i = false) : JI ks W1 (upd d i true) (upd us i (.pointer (some ⟨w.heap.size, 0, none⟩))) (w.alloc (.cells z T)) := by
  have hb : Below w.heap.size w (w.alloc (.cells z T)) := (Below.refl _ _).alloc (Nat.le_refl _) _
  refine ⟨h.below.trans (hb.mono h.below.size), fun j Q hj hdj => ?_, fun j T' z' st' src' hj hdj => ?_, fun j k T z st src T' z' st' src' hj hk' hne hdj hdk => ?_, fun j b s hj hdj => ?_⟩
  · have e : j ≠ i := fun e => by subst e; rw [hk] at hj; cases hj
    rw [upd_ne _ _ e] at hdj ⊢
    exact h.val j Q hj hdj
  · have hst := hf.st j T' z' st' src' hj
    have e2 : st' ≠ i := fun e => by subst e; rw [hk] at hst; cases hst
    obtain ⟨⟨P, hp⟩, -⟩ := hf.src st' j src' hst
    have e3 : src' ≠ i := fun e => by subst e; rw [hk] at hp; cases hp
    rw [upd_ne _ _ e2, upd_ne _ _ e3]
    by_cases e : j = i
    · subst e
      rw [hk] at hj
      cases hj
      have hds : d st = false := by
        cases hds : d st with
        | false => rfl
        | true => rw [(h.sto st j src hst hds).1] at hd; cases hd
      rw [hds]
      exact ⟨w.heap.size, upd_same _ _ _, h.below.size, Box.new w T z⟩
    · rw [upd_ne _ _ e] at hdj ⊢
      obtain ⟨g, h1, h2, h3⟩ := h.box j T' z' st' src' hj hdj
      exact ⟨g, h1, h2, h3.on hb h3.lt⟩
  · have away : ∀ m T z st src, ks[m]? = some (.box T z st src) → m ≠ i → upd d i true m = true → us m ≠ .pointer (some ⟨w.heap.size, 0, none⟩) := fun m T z st src hm e hdm => by
      rw [upd_ne _ _ e] at hdm
      obtain ⟨g, h1, h2, h3⟩ := h.box m T z st src hm hdm
      rw [h1]
      intro e2
      injection e2 with e2
      injection e2 with e2
      injection e2 with e2
      have := h3.lt
      omega
    by_cases e : j = i
    · subst e
      have e' : k ≠ j := fun e => hne e.symm
      rw [upd_same, upd_ne _ _ e']
      exact fun e2 => away k T' z' st' src' hk' e' hdk e2.symm
    · rw [upd_ne _ _ e]
      by_cases e' : k = i
      · subst e'
        rw [upd_same]
        exact away j T z st src hj e hdj
      · rw [upd_ne _ _ e']
        rw [upd_ne _ _ e] at hdj
        rw [upd_ne _ _ e'] at hdk
        exact h.apart j k T z st src T' z' st' src' hj hk' hne hdj hdk
  · have e : j ≠ i := fun e => by subst e; rw [hk] at hj; cases hj
    rw [upd_ne _ _ e] at hdj
    obtain ⟨h1, h2⟩ := h.sto j b s hj hdj
    have e1 : b ≠ i := fun e => by subst e; rw [h1] at hd; cases hd
    have e2 : s ≠ i := fun e => by subst e; rw [h2] at hd; cases hd
    rw [upd_ne _ _ e1, upd_ne _ _ e2]
    exact ⟨h1, h2⟩
theorem JI.stepSto (h : JI ks W1 d us w) (i b s : Nat) (hf : Fit ks) (hk : ks[i]? = some (.sto b s)) (hd : d i = false) (hdb : d b = true) (hds : d s = true) :
    ∃ g T z, ks[b]? = some (.box T z i s) ∧ us b = .pointer (some ⟨g, 0, none⟩) ∧ Box w g T z ∧ ∀ (u : Value) w', Box w' g T (flat (us s)) → Touch (fun k => k = g) w w' → JI ks W1 (upd d i true) (upd us i u) w' := by
  obtain ⟨⟨P, hp⟩, T, z, hbx⟩ := hf.src i b s hk
  obtain ⟨g, h1, h2, h3⟩ := h.box b T z i s hbx hdb
  rw [hd] at h3
  refine ⟨g, T, z, hbx, h1, h3, fun u w' hb ht => ?_⟩
  refine ⟨h.below.trans (ht.below h.below.size (fun k hk => by rw [hk]; exact h2)), fun j Q hj hdj => ?_, fun j T' z' st' src' hj hdj => ?_, fun j k T z st src T' z' st' src' hj hk' hne hdj hdk => ?_, fun j b' s' hj hdj => ?_⟩
  · have e : j ≠ i := fun e => by subst e; rw [hk] at hj; cases hj
    rw [upd_ne _ _ e] at hdj ⊢
    exact h.val j Q hj hdj
  · have e : j ≠ i := fun e => by subst e; rw [hk] at hj; cases hj
    rw [upd_ne _ _ e] at hdj ⊢
    have hst := hf.st j T' z' st' src' hj
    obtain ⟨⟨P', hp'⟩, -⟩ := hf.src st' j src' hst
    have e3 : src' ≠ i := fun e => by subst e; rw [hk] at hp'; cases hp'
    rw [upd_ne _ _ e3]
    by_cases ej : j = b
    · subst ej
      rw [hbx] at hj
      cases hj
      rw [upd_same]
      exact ⟨g, h1, h2, hb⟩
    · obtain ⟨g', k1, k2, k3⟩ := h.box j T' z' st' src' hj hdj
      have e2 : st' ≠ i := fun e => by subst e; rw [hk] at hst; cases hst; exact ej rfl
      rw [upd_ne _ _ e2]
      refine ⟨g', k1, k2, k3.touch ht (fun e => ?_)⟩
      have := h.apart j b T' z' st' src' T z i s hj hbx ej hdj hdb
      rw [k1, h1, e] at this
      exact this rfl
  · have e : j ≠ i := fun e => by subst e; rw [hk] at hj; cases hj
    have e' : k ≠ i := fun e => by subst e; rw [hk] at hk'; cases hk'
    rw [upd_ne _ _ e] at hdj ⊢
    rw [upd_ne _ _ e'] at hdk ⊢
    exact h.apart j k T z st src T' z' st' src' hj hk' hne hdj hdk
  · have key : ∀ b' s', d b' = true ∧ d s' = true → upd d i true b' = true ∧ upd d i true s' = true := fun b' s' ⟨q1, q2⟩ => by
      refine ⟨?_, ?_⟩
      · by_cases e : b' = i
        · rw [e, upd_same]
        · rw [upd_ne _ _ e]; exact q1
      · by_cases e : s' = i
        · rw [e, upd_same]
        · rw [upd_ne _ _ e]; exact q2
    by_cases e : j = i
    · subst e
      rw [hk] at hj
      cases hj
      exact key _ _ ⟨hdb, hds⟩
    · rw [upd_ne _ _ e] at hdj
      exact key _ _ (h.sto j b' s' hj hdj)
end
/-- The slots of the operations, set to what they left. -/
def setAll (tmps : Array Value) : List (Option Nat) → List Value → Array Value
  | some s :: ss, u :: us => setAll (tmps.setIfInBounds s u) ss us
  | none :: ss, _ :: us => setAll tmps ss us
  | _, _ => tmps
def puts (a : Act) (ss : List (Option Nat)) (us : List Value) : Act := { a with tmps := setAll a.tmps ss us }
def bget (b : Array Bool) : Nat → Bool := fun i => b.getD i false
def uget (us : List Value) : Nat → Value := fun i => us.getD i undef
theorem bget_set {b : Array Bool} {i : Nat} (h : i < b.size) : bget (b.setIfInBounds i true) = upd (bget b) i true := by
  funext j
  unfold bget upd
  by_cases e : j = i
  · subst e; rw [if_pos rfl]; exact set_same h
  · rw [if_neg e]; exact set_other (fun e2 => e e2.symm)
theorem uget_set {us : List Value} {i : Nat} (v : Value) (h : i < us.length) : uget (us.set i v) = upd (uget us) i v := by
  funext j
  unfold uget upd
  by_cases e : j = i
  · subst e; simp [List.getD, h]
  · rw [if_neg e]; simp [List.getD, List.getElem?_set_ne (fun e2 => e e2.symm)]
def GInv (ks : List Kd) (W1 : World) (a0 : Act) (ss : List (Option Nat)) (b : Array Bool) (a : Act) (w : World) : Prop :=
  ∃ us : List Value, us.length = ks.length ∧ a = puts a0 ss us ∧ JI ks W1 (bget b) (uget us) w
/-- Each operation hangs only on earlier ones. -/
def earlierB (l : List Oper) : Bool := (List.range l.length).all fun i => match l[i]? with | some o => o.after.all (fun e => !Region.binds .any e || decide (e.on < i)) | none => false
theorem all_done {l : List Oper} (h : earlierB l = true) {b : Array Bool} (hs : b.size = l.length) (hr : Region.ready .any l.toArray b = []) : ∀ i, i < l.length → b.getD i false = true := by
  intro i
  induction i using Nat.strongRecOn with
  | _ i ih =>
    intro hi
    cases hb : b.getD i false with
    | true => rfl
    | false =>
      exfalso
      have hm : i ∈ Region.ready .any l.toArray b := by
        refine mem_ready.2 ⟨?_, l[i], by simp [hi], fun e he hbd => ?_⟩
        · have h1 : i < b.size := by omega
          simp [h1] at hb ⊢
          exact hb
        · have h1 := List.all_eq_true.1 h i (List.mem_range.2 hi)
          rw [List.getElem?_eq_getElem hi] at h1
          have h2 := Array.all_eq_true_iff_forall_mem.1 h1 e he
          have h3 : e.on < i := by rw [hbd] at h2; simpa using h2
          exact ih e.on h3 (by omega)
      rw [hr] at hm
      cases hm
theorem wp_region_gen {P : Program} {Q : Exit → Act → World → Prop} {id : Nat} {a : Act} {w : World} {l : List Oper} (ks : List Kd) (ss : List (Option Nat)) (us0 : List Value) (hm : P.follows .mixedOrders = true) (hl : l.length = ks.length) (hl0 : us0.length = ks.length)
    (hu : a = puts a ss us0) (hs : Steps P .any l.toArray Q (GInv ks w a ss) 0 l) (hfull : earlierB l = true)
    (hend : ∀ (us : List Value) (w' : World), us.length = ks.length → (∀ d : Nat → Bool, (∀ i, i < ks.length → d i = true) → JI ks w d (uget us) w' → Q .normal (puts a ss us) w')) : (Code.region id l.toArray true).wp P Q a w := by
  refine wp_region_inv hm (GInv ks w a ss) ?_ hs ?_
  · refine ⟨us0, hl0, hu, ?_⟩
    have e : bget (Array.replicate l.length false) = fun _ => false := by
      funext i
      unfold bget
      by_cases h : i < l.length
      · simp [h]
      · simp [h]
    rw [e]
    exact JI.start ks w (uget us0)
  · rintro b a' w' hb hr ⟨us, hus, rfl, hI⟩
    have hf := all_done hfull hb hr
    exact hend us w' hus (bget b) (fun i hi => hf i (by omega)) hI
theorem gen_val {ks : List Kd} {W1 w w' : World} {b : Array Bool} {us : List Value} {a a0 : Act} {ss : List (Option Nat)} (hI : JI ks W1 (bget b) (uget us) w) (hu : us.length = ks.length) (hbs : b.size = ks.length) (i : Nat) (P : Value → Prop) (v : Value) (hi : i < ks.length) (hf : Fit ks) (hk : ks[i]? = some (.val P)) (hd : b.getD i false = false) (hP : P v) (hb : Below w.heap.size w w') (ha : a = puts a0 ss (us.set i v)) :
    GInv ks W1 a0 ss (b.setIfInBounds i true) a w' := by
  refine ⟨us.set i v, by rw [List.length_set]; exact hu, ha, ?_⟩
  rw [bget_set (by omega), uget_set v (by omega)]
  exact hI.stepVal i P v hf hk hd hP hb
theorem gen_box {ks : List Kd} {W1 w : World} {b : Array Bool} {us : List Value} {a a0 : Act} {ss : List (Option Nat)} (hI : JI ks W1 (bget b) (uget us) w) (hu : us.length = ks.length) (hbs : b.size = ks.length) (i : Nat) (T : TypeId) (z : Array Value) (st src : Nat) (hi : i < ks.length) (hf : Fit ks) (hk : ks[i]? = some (.box T z st src)) (hd : b.getD i false = false) (ha : a = puts a0 ss (us.set i (.pointer (some ⟨w.heap.size, 0, none⟩)))) :
    GInv ks W1 a0 ss (b.setIfInBounds i true) a (w.alloc (.cells z T)) := by
  refine ⟨us.set i _, by rw [List.length_set]; exact hu, ha, ?_⟩
  rw [bget_set (by omega), uget_set _ (by omega)]
  exact hI.stepBox i T z st src hf hk hd
theorem gen_sto {ks : List Kd} {W1 w : World} {b : Array Bool} {us : List Value} (hI : JI ks W1 (bget b) (uget us) w) (hu : us.length = ks.length) (hbs : b.size = ks.length) (i bx s : Nat) (T : TypeId) (z : Array Value) (hi : i < ks.length) (hf : Fit ks) (hk : ks[i]? = some (.sto bx s)) (hkb : ks[bx]? = some (.box T z i s)) (hd : b.getD i false = false) (hdb : b.getD bx false = true) (hds : b.getD s false = true) :
    ∃ g, uget us bx = .pointer (some ⟨g, 0, none⟩) ∧ Box w g T z ∧ ∀ (a a0 : Act) (ss : List (Option Nat)) w', Box w' g T (flat (uget us s)) → Touch (fun k => k = g) w w' → a = puts a0 ss us → GInv ks W1 a0 ss (b.setIfInBounds i true) a w' := by
  obtain ⟨g, T', z', h1, h2, h3, h4⟩ := hI.stepSto i bx s hf hk hd hdb hds
  rw [hkb] at h1
  cases h1
  refine ⟨g, h2, h3, fun a a0 ss w' hb ht ha => ⟨us, hu, ha, ?_⟩⟩
  rw [bget_set (by omega)]
  have := h4 (uget us i) w' hb ht
  have e : upd (uget us) i (uget us i) = uget us := by funext j; unfold upd; split <;> simp_all
  rwa [e] at this
theorem gen_after {o : Oper} {b : Array Bool} (j : Nat) (h : (o.after.any fun e => Region.binds .any e && e.on == j) = true) (hb : ∀ e ∈ o.after, Region.binds .any e = true → b.getD e.on false = true) : b.getD j false = true := by
  obtain ⟨e, he, h⟩ := Array.any_eq_true'.1 h
  simp only [Bool.and_eq_true, beq_iff_eq] at h
  have := hb e he h.1
  rwa [h.2] at this
theorem touch3 (w : World) (g : Nat) (a b c : Value) : Touch (fun k => k = g) w (((w.setCell ⟨g, 0, none⟩ a).setCell ⟨g, 1, none⟩ b).setCell ⟨g, 2, none⟩ c) :=
  ((Touch.put (S := fun k => k = g) rfl _ _).trans (Touch.put (S := fun k => k = g) rfl _ _)).trans (Touch.put (S := fun k => k = g) rfl _ _)
end Go.Proofs.YtgdkjkfbknbgkaaGreatDoor
