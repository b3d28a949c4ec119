/- HeapChains: one more object, one more property; which is the nearest. -/
import Derived.Test.YtbeapojjbgkalaaDoorHg
import Derived.Test.YtbeapojjbgkalaaDoorKe
namespace Go.Proofs.YtbeapojjbgkalaaDoor
open Go Go.RowKit

/-- A text of one letter. -/
abbrev keyV (c : Nat) : Vt := (7, 0, ⟨#[0, UInt8.ofNat (97 + c)]⟩)
theorem keyT_V (c : Nat) : keyT (keyV c) = keyV c := by
  unfold keyT
  rw [if_neg (show ¬ (7 : Int) = 6 by decide)]
theorem keyV_inj (c d : Nat) (hc : c < 4) (hd : d < 4) (h : keyV c = keyV d) : c = d := by
  have : ∀ c < 4, ∀ d < 4, keyV c = keyV d → c = d := by decide +kernel
  exact this c hc d hd h
theorem keyV_size (c : Nat) : (keyV c).2.2.size ≤ 1000 := by
  show (2 : Nat) ≤ 1000
  omega
section
variable {w : World} {B h A : Nat} {cv fv rv : Value} {nbs : List Nat} {pv : Nat → Value} {F : Nat → Nat → Prop} {O : Nat → List En}
theorem obj0_eq (k : Nat) : obj0 0 (k : Int) = objC 0 (k : Int) false (.pointer none) (.slice none 0 0) := rfl
/-- One more object, where none has a property. -/
theorem HK.make {w' : World} {cv' fv' rv' : Value} (H : HK w B h A cv fv rv nbs (fun _ => .pointer none)) (hb : Box w' w.heap.size 38 (obj0 0 (nbs.length : Int))) (ht : Touch (AFoot A cv fv rv) w w') (hp : HpAt w' B h A cv' fv' rv' ⟨nbs.map objB ++ [objB w.heap.size], [], nbs.length + 1, []⟩) : HK w' B h A cv' fv' rv' (nbs ++ [w.heap.size]) (fun _ => .pointer none) := by
  refine ⟨by rw [List.map_append, List.length_append]; exact hp, fun i b hi => ?_⟩
  by_cases h1 : i < nbs.length
  · rw [List.getElem?_append_left h1] at hi
    have hx := H.ob i b hi
    exact hx.touch ht (fun hk => AFoot.lab H.hp.ar hx.lab (by decide) (by decide) (by decide) hk)
  · obtain rfl : i = nbs.length := by
      have := (List.getElem?_eq_some_iff.1 hi).1
      rw [List.length_append] at this
      simp at this
      omega
    rw [List.getElem?_append_right (Nat.le_refl _), Nat.sub_self] at hi
    cases hi
    exact hb
theorem HS.start (H : HK w B h A cv fv rv nbs (fun _ => .pointer none)) (hn : nbs.Nodup) : HS w B h A cv fv rv nbs (fun _ => .pointer none) (fun _ _ => False) (fun _ => []) :=
  ⟨H, fun _ _ => .inl ⟨rfl, rfl, rfl⟩, fun _ _ x hx => (by cases hx), fun _ _ _ _ _ _ h => h.elim, fun _ _ _ h => h.elim, hn⟩
abbrev upN {α : Type} (f : Nat → α) (q : Nat) (v : α) : Nat → α := fun i => if i = q then v else f i
theorem nodup_ne {l : List Nat} (hn : l.Nodup) {i j a b : Nat} (hi : l[i]? = some a) (hj : l[j]? = some b) (hne : i ≠ j) : a ≠ b := fun e => by
  subst e
  have h1 := (List.getElem?_eq_some_iff.1 hi).1
  exact hne ((List.getElem?_inj h1 hn).1 (hi.trans hj.symm))
/-- Define at one of them. -/
theorem HS.define (H : HS w B h A cv fv rv nbs pv F O) (q nb : Nat) (hq : nbs[q]? = some nb) {w' : World} {pv' : Value} {F' : Nat → Prop} {Oq : List En} (hb : Box w' nb 38 (objC 0 (q : Int) false pv' (.slice none 0 0))) (hp : PrAt B w' pv' F' Oq) (ht : Touch (fun b => b = nb ∨ F q b) w w') (hF : ∀ b, F' b → F q b ∨ w.heap.size ≤ b) (hall : ∀ x ∈ Oq, x.2.2 = 7) :
    HS w' B h A cv fv rv nbs (upN pv q pv') (upN F q F') (upN O q Oq) := by
  have hql := (List.getElem?_eq_some_iff.1 hq).1
  have lnb := (H.hk.ob q nb hq).lab
  refine ⟨⟨⟨H.hk.hp.hb.touch ht ?_, H.hk.hp.ar.touch ht ?_, H.hk.hp.hB⟩, fun i b hi => ?_⟩, fun i hi => ?_, fun i hi => ?_, fun i j hi hj hne k => ?_, fun i hi k hk => ?_, H.nd⟩
  · rintro (e | e)
    · exact H.hk.hp.hb.lab.ne lnb (by decide) e
    · exact H.aa q hql h e (.inl rfl)
  · rintro k hk (e | e)
    · exact AFoot.lab H.hk.hp.ar (e ▸ lnb) (by decide) (by decide) (by decide) hk
    · exact H.aa q hql k e (.inr (.inl hk))
  · by_cases e : i = q
    · subst e
      obtain rfl : nb = b := Option.some.inj (hq.symm.trans hi)
      show Box w' nb _ (objC 0 (i : Int) false (if i = i then pv' else pv i) _)
      rw [if_pos rfl]
      exact hb
    · show Box w' b _ (objC 0 (i : Int) false (if i = q then pv' else pv i) _)
      rw [if_neg e]
      refine (H.hk.ob i b hi).touch ht ?_
      rintro (e2 | e2)
      · exact nodup_ne H.nd hi hq e e2
      · exact H.aa q hql b e2 (.inr (.inr (List.mem_of_getElem? hi)))
  · by_cases e : i = q
    · show PrAt B w' (if i = q then pv' else pv i) (if i = q then F' else F i) (if i = q then Oq else O i)
      rw [if_pos e, if_pos e, if_pos e]
      exact hp
    · show PrAt B w' (if i = q then pv' else pv i) (if i = q then F' else F i) (if i = q then Oq else O i)
      rw [if_neg e, if_neg e, if_neg e]
      refine (H.pr i hi).touch ht ?_
      rintro k hk (e2 | e2)
      · exact H.aa i hi k hk (.inr (.inr (e2 ▸ List.mem_of_getElem? hq)))
      · exact H.ap i q hi hql e k hk e2
  · show ∀ x ∈ (if i = q then Oq else O i), _
    by_cases e : i = q
    · rw [if_pos e]; exact hall
    · rw [if_neg e]; exact H.al i hi
  · show (if i = q then F' else F i) k → ¬ (if j = q then F' else F j) k
    by_cases e : i = q
    · rw [if_pos e, if_neg (by omega)]
      intro hk hk2
      rcases hF k hk with h1 | h1
      · exact H.ap q j hql hj (by omega) k h1 hk2
      · have := ((H.pr j hj).lt k hk2).2
        omega
    · by_cases e2 : j = q
      · rw [if_neg e, if_pos e2]
        intro hk2 hk
        rcases hF k hk with h1 | h1
        · exact H.ap q i hql hi (by omega) k h1 hk2
        · have := ((H.pr i hi).lt k hk2).2
          omega
      · rw [if_neg e, if_neg e2]
        exact H.ap i j hi hj hne k
  · replace hk : (if i = q then F' else F i) k := hk
    by_cases e : i = q
    · rw [if_pos e] at hk
      intro hf
      rcases hF k hk with h1 | h1
      · exact H.aa q hql k h1 hf
      · have := H.hk.lt hf
        omega
    · rw [if_neg e] at hk
      exact H.aa i hi k hk
end
/-- What the objects have, and which has a letter nearest. -/
structure NR (n k : Nat) (O : Nat → List En) (nr : Nat → Nat) : Prop where
  len : ∀ i, i < n → (O i).length ≤ k
  ent : ∀ i, i < n → ∀ x ∈ O i, ∃ c, c < 4 ∧ x = (keyV c, (3, (i : Int) + 1, ⟨#[]⟩), 7)
  top : ∀ c, c < 4 → (nr c = 0 ∧ ∀ i, i < n → ¬ hasK (O i) (keyV c)) ∨ ∃ i, i < n ∧ nr c = i + 1 ∧ hasK (O i) (keyV c) ∧ ∀ j, j < n → i < j → ¬ hasK (O j) (keyV c)
theorem NR.start (n : Nat) : NR n 0 (fun _ => []) (fun _ => 0) :=
  ⟨fun _ _ => Nat.le_refl _, fun _ _ x hx => (by cases hx), fun _ _ => .inl ⟨rfl, fun _ _ => (by rintro ⟨x, hx, _⟩; cases hx)⟩⟩
theorem putO_len (O : List En) (k v : Vt) (f : Int) : (putO (O, []) k v f).1.length ≤ O.length + 1 := by
  unfold putO
  split
  · show (updL k v f O).length ≤ _
    unfold updL
    rw [List.length_map]
    omega
  · show (O ++ [(k, v, f)]).length ≤ _
    rw [List.length_append]
    simp
theorem putO_mem {O : List En} {k v : Vt} {f : Int} {x : En} (hx : x ∈ (putO (O, []) k v f).1) : x ∈ O ∨ x = (k, v, f) := by
  unfold putO at hx
  split at hx
  · obtain ⟨y, hy, rfl⟩ := List.mem_map.1 (show x ∈ updL k v f O from hx)
    split
    · exact .inr rfl
    · exact .inl hy
  · rcases List.mem_append.1 (show x ∈ O ++ [(k, v, f)] from hx) with h | h
    · exact .inl h
    · exact .inr (List.mem_singleton.1 h)
theorem putO_has {O : List En} {k v : Vt} {f : Int} (k2 : Vt) : hasK (putO (O, []) k v f).1 k2 ↔ k2 = k ∨ hasK O k2 := by
  unfold putO
  split
  · rename_i hk
    constructor
    · rintro ⟨x, hx, rfl⟩
      obtain ⟨y, hy, rfl⟩ := List.mem_map.1 (show x ∈ updL k v f O from hx)
      split
      · exact .inl rfl
      · exact .inr ⟨y, hy, rfl⟩
    · rintro (rfl | ⟨x, hx, rfl⟩)
      · obtain ⟨x, hx, hk⟩ := hk
        exact ⟨(k2, v, f), List.mem_map.2 ⟨x, hx, by rw [if_pos hk]⟩, rfl⟩
      · by_cases e : x.1 = k
        · exact ⟨(k, v, f), List.mem_map.2 ⟨x, hx, by rw [if_pos e]⟩, e.symm⟩
        · exact ⟨x, List.mem_map.2 ⟨x, hx, by rw [if_neg e]⟩, rfl⟩
  · constructor
    · rintro ⟨x, hx, rfl⟩
      rcases List.mem_append.1 (show x ∈ O ++ [(k, v, f)] from hx) with h | h
      · exact .inr ⟨x, h, rfl⟩
      · exact .inl (by rw [List.mem_singleton.1 h])
    · rintro (rfl | ⟨x, hx, rfl⟩)
      · exact ⟨_, List.mem_append_right _ (List.mem_singleton.2 rfl), rfl⟩
      · exact ⟨x, List.mem_append_left _ hx, rfl⟩
theorem NR.define {n k : Nat} {O : Nat → List En} {nr : Nat → Nat} (h : NR n k O nr) (c q : Nat) (hc : c < 4) (hq : q < n) :
    NR n (k + 1) (upN O q (putO (O q, []) (keyV c) (3, (q : Int) + 1, ⟨#[]⟩) 7).1) (upN nr c (max (nr c) (q + 1))) := by
  have hhas : ∀ i d, d < 4 → (hasK (upN O q (putO (O q, []) (keyV c) (3, (q : Int) + 1, ⟨#[]⟩) 7).1 i) (keyV d) ↔ (i = q ∧ d = c) ∨ hasK (O i) (keyV d)) := fun i d hd => by
    show hasK (if i = q then _ else O i) _ ↔ _
    by_cases e : i = q
    · subst e
      rw [if_pos rfl, putO_has]
      constructor
      · rintro (h | h)
        · exact .inl ⟨rfl, keyV_inj d c hd hc h⟩
        · exact .inr h
      · rintro (⟨_, rfl⟩ | h)
        · exact .inl rfl
        · exact .inr h
    · rw [if_neg e]
      exact ⟨.inr, fun h => h.elim (fun h => absurd h.1 e) id⟩
  refine ⟨fun i hi => ?_, fun i hi => ?_, fun d hd => ?_⟩
  · show (if i = q then _ else O i).length ≤ _
    by_cases e : i = q
    · subst e
      rw [if_pos rfl]
      exact Nat.le_trans (putO_len _ _ _ _) (Nat.succ_le_succ (h.len i hi))
    · rw [if_neg e]
      exact Nat.le_succ_of_le (h.len i hi)
  · show ∀ x ∈ (if i = q then _ else O i), _
    by_cases e : i = q
    · subst e
      rw [if_pos rfl]
      intro x hx
      rcases putO_mem hx with h1 | h1
      · exact h.ent i hi x h1
      · exact ⟨c, hc, h1⟩
    · rw [if_neg e]
      exact h.ent i hi
  · show ((if d = c then _ else nr d) = 0 ∧ _) ∨ _
    by_cases e : d = c
    · subst e
      right
      rcases h.top d hd with ⟨h0, hno⟩ | ⟨i, hi, hv, hh, hno⟩
      · refine ⟨q, hq, by show (if d = d then _ else _) = _; rw [if_pos rfl, h0]; omega, (hhas q d hd).2 (.inl ⟨rfl, rfl⟩), fun j hj hlt hx => ?_⟩
        rcases (hhas j d hd).1 hx with h1 | h1
        · omega
        · exact hno j hj h1
      · by_cases hlt : i < q
        · refine ⟨q, hq, by show (if d = d then _ else _) = _; rw [if_pos rfl, hv]; omega, (hhas q d hd).2 (.inl ⟨rfl, rfl⟩), fun j hj hjq hx => ?_⟩
          rcases (hhas j d hd).1 hx with h1 | h1
          · omega
          · exact hno j hj (by omega) h1
        · refine ⟨i, hi, by show (if d = d then _ else _) = _; rw [if_pos rfl, hv]; omega, (hhas i d hd).2 (.inr hh), fun j hj hij hx => ?_⟩
          rcases (hhas j d hd).1 hx with h1 | h1
          · omega
          · exact hno j hj hij h1
    · rw [if_neg e]
      rcases h.top d hd with ⟨h0, hno⟩ | ⟨i, hi, hv, hh, hno⟩
      · exact .inl ⟨h0, fun j hj hx => ((hhas j d hd).1 hx).elim (fun h => e h.2) (hno j hj)⟩
      · exact .inr ⟨i, hi, by show (if d = c then _ else nr d) = _; rw [if_neg e]; exact hv, (hhas i d hd).2 (.inr hh), fun j hj hij hx => ((hhas j d hd).1 hx).elim (fun h => e h.2) (hno j hj hij)⟩
theorem look_no {O : List En} {k : Vt} (h : ¬ hasK O k) : lookO O k = ((0, 0, ⟨#[]⟩), 0, false) := by
  unfold lookO
  cases hf : O.find? (fun x => decide (x.1 = k)) with
  | none => rfl
  | some y => exact absurd ⟨y, List.mem_of_find?_eq_some hf, by simpa using List.find?_some hf⟩ h
theorem find_no (O : Nat → List En) (k : Vt) : ∀ r, (∀ i, i < r → ¬ hasK (O i) k) → findO O k r = ((0, 0, ⟨#[]⟩), 0, false)
  | 0, _ => rfl
  | r + 1, h => by
    unfold findO
    rw [look_no (h r (by omega)), if_neg (by decide)]
    exact find_no O k r (fun i hi => h i (by omega))
theorem find_at (O : Nat → List En) (k : Vt) (i : Nat) (v : Vt × Int × Bool) (hv : lookO (O i) k = v) (h3 : v.2.2 = true) : ∀ r, i < r → (∀ j, j < r → i < j → ¬ hasK (O j) k) → findO O k r = v
  | 0, h, _ => by omega
  | r + 1, h, hno => by
    unfold findO
    by_cases e : i = r
    · subst e
      rw [hv, if_pos h3]
    · rw [look_no (hno r (by omega) (by omega)), if_neg (by decide)]
      exact find_at O k i v hv h3 r (by omega) (fun j hj => hno j (by omega))
/-- What Find answers from the lowest on. -/
theorem NR.find {n k : Nat} {O : Nat → List En} {nr : Nat → Nat} (h : NR n k O nr) (c : Nat) (hc : c < 4) : (nr c = 0 ∧ findO O (keyV c) n = ((0, 0, ⟨#[]⟩), 0, false)) ∨ (0 < nr c ∧ findO O (keyV c) n = ((3, (nr c : Int), ⟨#[]⟩), 7, true)) := by
  rcases h.top c hc with ⟨h0, hno⟩ | ⟨i, hi, hv, ⟨x, hx, hk⟩, hno⟩
  · exact .inl ⟨h0, find_no O _ n hno⟩
  · refine .inr ⟨by omega, find_at O _ i _ ?_ rfl n hi hno⟩
    unfold lookO
    cases hf : (O i).find? (fun x => decide (x.1 = keyV c)) with
    | none =>
      have := List.find?_eq_none.1 hf x hx
      simp [hk] at this
    | some y =>
      obtain ⟨d, _, rfl⟩ := h.ent i hi y (List.mem_of_find?_eq_some hf)
      rw [hv]
      rfl
end Go.Proofs.YtbeapojjbgkalaaDoor
