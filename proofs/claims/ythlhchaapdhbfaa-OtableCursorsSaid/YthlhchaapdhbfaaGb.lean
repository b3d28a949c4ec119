/- OtableCursors: what the law keeps: the set of deleted keys, the rows of cursors and places. -/
import Derived.Test.YthlhchaapdhbfaaFv
import Derived.Maps.OwnOps
import Derived.Maps.OwnSet
import Derived.Maps.Views
namespace Go.Proofs.Ythlhchaapdhbfaa
open Go Go.RowKit

/-- A slice value reads as these numbers. -/
def Ints (w : World) (a : Option Addr) (n : Nat) (l : List Int) : Prop := l.length = n ∧ (0 < n → ∃ b o, a = some ⟨b, o, none⟩ ∧ b < w.heap.size ∧ ∀ i, i < n → w.cell? ⟨b, o + i, none⟩ = some (.int .i64 (l[i]?.getD 0)))
theorem Ints.on {w w1 : World} {a : Option Addr} {n : Nat} {l : List Int} (h : Ints w a n l) (hb : Below w.heap.size w w1) : Ints w1 a n l :=
  ⟨h.1, fun hn => by
    obtain ⟨b, o, e, hlt, hc⟩ := h.2 hn
    exact ⟨b, o, e, by have := hb.size; omega, fun i hi => by rw [hb.cell (p := ⟨b, o + i, none⟩) hlt]; exact hc i hi⟩⟩
/-! entries -/
def eC (i : Nat) : En := (kN (i : Int), kN (-(i : Int)), 0)
def eG (G : Nat → Bool) (lo m : Nat) : List En := ((List.range' lo m).filter fun i => !G i).map eC
def noG : Nat → Bool := fun _ => false
def setG (G : Nat → Bool) (k : Nat) : Nat → Bool := fun i => if i = k then true else G i
theorem eG_no (lo m : Nat) : eG noG lo m = (List.range' lo m).map eC := by
  unfold eG noG
  rw [List.filter_eq_self.2 (by simp)]
theorem eG_skip (G : Nat → Bool) (lo m : Nat) (h : G lo = true) : eG G lo (m + 1) = eG G (lo + 1) m := by
  unfold eG
  rw [List.range'_succ, List.filter_cons_of_neg (by simp [h])]
theorem eG_take (G : Nat → Bool) (lo m : Nat) (h : G lo = false) : eG G lo (m + 1) = eC lo :: eG G (lo + 1) m := by
  unfold eG
  rw [List.range'_succ, List.filter_cons_of_pos (by simp [h])]
  rfl
theorem eG_zero (G : Nat → Bool) (lo : Nat) : eG G lo 0 = [] := rfl
theorem eG_le (G : Nat → Bool) (lo m : Nat) : (eG G lo m).length ≤ m := by
  unfold eG
  rw [List.length_map]
  exact Nat.le_trans (List.length_filter_le _ _) (by simp)
theorem eG_drop (G : Nat → Bool) (lo m k : Nat) : dropK (kN (k : Int)) (eG G lo m) = eG (setG G k) lo m := by
  unfold dropK eG
  rw [List.filter_map, List.filter_filter]
  congr 1
  apply List.filter_congr
  intro i _
  simp only [Function.comp, eC, setG, kN]
  by_cases e : i = k
  · subst e; simp
  · rw [if_neg e]
    have : ¬ ((i : Int) = (k : Int)) := by omega
    simp [this]
theorem eG_put (m : Nat) : putO (eG noG 0 m, []) (keyT (kN (m : Int))) (kN (-(m : Int))) 0 = (eG noG 0 (m + 1), []) := by
  have hno : ¬ hasK (eG noG 0 m) (kN (m : Int)) := by
    rintro ⟨e, he, hk⟩
    rw [eG_no] at he
    obtain ⟨j, hj, rfl⟩ := List.mem_map.1 he
    have := List.mem_range'_1.1 hj
    simp [eC, kN] at hk
    omega
  unfold putO
  rw [show keyT (kN (m : Int)) = kN (m : Int) by simp [keyT], if_neg hno, eG_no, eG_no, List.range'_concat]
  simp [eC]
/-- How many are deleted. -/
def cntG (G : Nat → Bool) (n : Nat) : Nat := ((List.range n).filter G).length
theorem cntG_no (n : Nat) : cntG noG n = 0 := by simp [cntG, noG]
theorem cntG_succ (G : Nat → Bool) (n : Nat) : cntG G (n + 1) = cntG G n + if G n then 1 else 0 := by
  unfold cntG
  rw [List.range_succ, List.filter_append, List.length_append]
  cases h : G n <;> simp [h]
theorem cntG_out (G : Nat → Bool) (k : Nat) : ∀ n, n ≤ k → cntG (setG G k) n = cntG G n
  | 0, _ => rfl
  | n + 1, h => by
    rw [cntG_succ, cntG_succ, cntG_out G k n (by omega)]
    have : setG G k n = G n := by unfold setG; rw [if_neg (by omega)]
    rw [this]
theorem cntG_set (G : Nat → Bool) (k : Nat) : ∀ n, k < n → cntG (setG G k) n = if G k then cntG G n else cntG G n + 1
  | 0, h => by omega
  | n + 1, h => by
    rw [cntG_succ, cntG_succ]
    by_cases e : k = n
    · subst e
      rw [cntG_out G k k (Nat.le_refl _)]
      have : setG G k k = true := by simp [setG]
      rw [this]
      cases G k <;> simp
    · rw [cntG_set G k n (by omega)]
      have : setG G k n = G n := by unfold setG; rw [if_neg (by omega)]
      rw [this]
      cases G k <;> simp <;> omega
theorem eG_count (G : Nat → Bool) : ∀ n, (eG G 0 n).length + cntG G n = n
  | 0 => rfl
  | n + 1 => by
    have ih := eG_count G n
    have e : (eG G 0 (n + 1)).length = (eG G 0 n).length + if G n then 0 else 1 := by
      unfold eG
      rw [List.range'_concat, List.filter_append, List.map_append, List.length_append]
      simp only [Nat.zero_add, Nat.one_mul]
      cases h : G n <;> simp [h]
    rw [cntG_succ, e]
    cases G n <;> simp <;> omega
/-! the set of deleted keys, a map -/
theorem Try.lawI : Maps.Keyed Try.prog 3 := Maps.int_keyed Try.underlying3
theorem Try.zeroB (w : World) : (zeroValue 4).run Try.prog w = .ok (.bool false) w := by kernel_rfl
/-- Block b is a map that has the keys of G among those below n, each with true. -/
def GS (w : World) (b m : Nat) (G : Nat → Bool) (n : Nat) : Prop :=
  ∃ D : DataW Unit, w.ownsMap Try.prog 3 (plainElem Try.prog 4) b m D ∧ (∀ i : Nat, ∀ z, D.atKey (.int .i64 (i : Int)) z = if G i then .lit (.bool true) else z) ∧ Maps.size D = cntG G n
section
variable {w w' : World} {b m n : Nat} {G : Nat → Bool}
theorem GS.lt (h : GS w b m G n) : b < w.heap.size := by
  obtain ⟨D, h1, _⟩ := h
  exact h1.lt
theorem GS.made (w : World) (n : Nat) : GS (w.alloc (.map #[] 0)) w.heap.size 0 noG n :=
  ⟨.map [], World.ownsMap_made _ _ _ _, fun i z => by simp [noG, DataW.atKey], by rw [cntG_no]; rfl⟩
theorem GS.touch {S : Nat → Prop} (h : GS w b m G n) (ht : Touch S w w') (hn : ¬ S b) : GS w' b m G n := by
  obtain ⟨D, ⟨es, clock, hb, F, hs, hD⟩, h2, h3⟩ := h
  exact ⟨D, ⟨es, clock, (ht.block b (Array.getElem?_eq_some_iff.1 hb).1 hn).trans hb, F, hs, hD⟩, h2, h3⟩
theorem GS.on (h : GS w b m G n) (hb : Below w.heap.size w w') : GS w' b m G n := h.touch (S := fun _ => False) (Touch.of_below hb) (fun h => h)
theorem GS.no_lab (h : GS w b m G n) {e : TypeId} (hl : Lab w b e) : False := by
  obtain ⟨D, ⟨es, clock, hb, _⟩, _⟩ := h
  obtain ⟨cs, fr, h2⟩ := hl
  rw [hb] at h2
  cases h2
theorem GS.not_own (h : GS w b m G n) {B t : Nat} {F : Nat → Prop} {O : Ob} (hT : Tf B t F O w) : ¬ F b := fun hk => by
  rcases hT.lab b hk with h1 | h1 | h1 | h1 | ⟨a, c, h1⟩
  · exact h.no_lab h1
  · exact h.no_lab h1
  · exact h.no_lab h1
  · exact h.no_lab h1
  · exact h.no_lab h1.lab
end
/-- 'm[k]' at elements that are bools. -/
theorem wpList_lookup_own_bool {H : Type} {P : Program} (w : World) {ops : Array Oper} {rest : List Oper} {o : Oper} {a : Act} {Q : Exit → Act → World → Prop}
    (hg : o.guard = none) (m x : Operand) (t : TypeId) (hop : o.op = Op.lookup t m x false)
    (k e : TypeId) (K : Maps.Keyed P k) (ht : P.underlying t = some (.map k e)) (he : P.underlying e = some .bool) (hz : (zeroValue e).run P w = .ok (.bool false) w) (b n : Nat) (D : DataW H)
    (hm : a.eval m = .map (some b)) (hown : w.ownsMap P k (plainElem P e) b n D) (key : Value) (kl : Lit) (hx : a.eval x = key) (hkey : keyOf P k key = some kl)
    (hK : ∀ c : Bool, D.atKey kl (.lit (.bool false)) = .lit (.bool c) → wpList P ops Q rest (a.put o.dst (.bool c)) w) :
    wpList P ops Q (o :: rest) a w := by
  refine wpList_plain hg fun K' hK' => ?_
  obtain ⟨v, ps, hrun, hv⟩ := hown.lookup K ht hz (plainElem_bool he false) hkey
  obtain ⟨c, rfl, hc⟩ : ∃ c, v = .bool c ∧ D.atKey kl (.lit (.bool false)) = .lit (.bool c) := by
    unfold plainElem at hv
    rw [he] at hv
    cases v <;> simp at hv
    rename_i c
    exact ⟨c, rfl, hv.1.symm⟩
  unfold Oper.wp
  simp [execOp, hop, hm, hx, hrun, Result.andThen]
  exact hK' _ _ (hK c hc)
theorem perm_set {α : Type} {L M : List α} {x y : α} {i : Nat} (h : L.Perm (x :: M)) (hi : L[i]? = some x) : (L.set i y).Perm (y :: M) := by
  obtain ⟨h2, rfl⟩ := List.getElem?_eq_some_iff.1 hi
  have e1 : L = L.take i ++ L[i] :: L.drop (i + 1) := by rw [← List.drop_eq_getElem_cons h2, List.take_append_drop]
  have e2 : L.set i y = L.take i ++ y :: L.drop (i + 1) := by rw [List.set_eq_take_append_cons_drop, if_pos h2]
  rw [e2]
  refine List.perm_middle.trans (List.Perm.cons _ ?_)
  have h3 : (L[i] :: (L.take i ++ L.drop (i + 1))).Perm (L[i] :: M) := List.perm_middle.symm.trans (by rw [← e1]; exact h)
  exact h3.cons_inv
/-! the rows of cursors and places -/
def curV (cs : List (Nat × Nat)) : List Value := cs.map fun x => .pointer (some ⟨x.1, 0, none⟩)
def atV (cs : List (Nat × Nat)) : List Value := cs.map fun x => .int .i64 (x.2 : Int)
/-- The law's own two rows; none of their blocks is the table's. -/
structure RW (B : Nat) (F : Nat → Prop) (cs : List (Nat × Nat)) (vc va : Value) (w : World) : Prop where
  rc : w.ownsRow B 88 1 vc cs.length (curV cs)
  ra : w.ownsRow B 3 1 va cs.length (atV cs)
  ac : ∀ k, vc.ownBlock = some k → ¬ F k
  aa : ∀ k, va.ownBlock = some k → ¬ F k
section
variable {B : Nat} {F F' : Nat → Prop} {cs : List (Nat × Nat)} {vc va : Value} {w w' : World}
theorem RW.fs (h : RW B F cs vc va w) (hs : Fs F F' w w') : RW B F' cs vc va w' :=
  ⟨own_touch h.rc hs.touch h.ac, own_touch h.ra hs.touch h.aa, fun k hk hf => (hs.fresh k hf).elim (h.ac k hk) (fun h2 => by have := (own_lt h.rc k hk).2; omega), fun k hk hf => (hs.fresh k hf).elim (h.aa k hk) (fun h2 => by have := (own_lt h.ra k hk).2; omega)⟩
theorem RW.on (h : RW B F cs vc va w) (hb : Below w.heap.size w w') : RW B F cs vc va w' := h.fs (Fs.of_below hb)
theorem RW.touch (h : RW B F cs vc va w) (ht : Touch F w w') : RW B F cs vc va w' := h.fs ⟨ht, fun _ h => .inl h⟩
theorem RW.nil (B : Nat) (F : Nat → Prop) (w : World) : RW B F [] noRow noRow w := ⟨nil_own _ _ _ _, nil_own _ _ _ _, fun k hk => by simp [Value.ownBlock] at hk, fun k hk => by simp [Value.ownBlock] at hk⟩
end
end Go.Proofs.Ythlhchaapdhbfaa
