/- The law's pair: one cursor moves or closes. -/
import Derived.Test.YthlhchaapdhbfaaGk
import Derived.Test.YthlhchaapdhbfaaGp
namespace Go.Proofs.Ythlhchaapdhbfaa
open Go Go.RowKit

/-- No two of the reference's cursors lie in one block. -/
def Dn (cs : List Cu) : Prop := (cs.map fun x => x.d).Nodup
theorem set_perm {α : Type} : ∀ (l : List α) (i : Nat) (x x' : α), l[i]? = some x → l.Perm (x :: l.eraseIdx i) ∧ (l.set i x').Perm (x' :: l.eraseIdx i)
  | [], i, x, x', h => by simp at h
  | y :: l, 0, x, x', h => by
    simp at h
    subst h
    exact ⟨List.Perm.refl _, List.Perm.refl _⟩
  | y :: l, i + 1, x, x', h => by
    have h' : l[i]? = some x := by simpa using h
    obtain ⟨h1, h2⟩ := set_perm l i x x' h'
    exact ⟨(h1.cons y).trans (List.Perm.swap x y _), (h2.cons y).trans (List.Perm.swap x' y _)⟩
theorem map_set_same {α β : Type} (f : α → β) (l : List α) (i : Nat) (x x' : α) (h : l[i]? = some x) (he : f x' = f x) : (l.set i x').map f = l.map f := by
  rw [List.map_set, he]
  apply List.ext_getElem?
  intro j
  by_cases e : i = j
  · subst e
    rw [List.getElem?_set_self (by rw [List.length_map]; exact (List.getElem?_eq_some_iff.1 h).1), List.getElem?_map, h]
    rfl
  · rw [List.getElem?_set_ne e]
theorem dn_set {cs : List Cu} (h : Dn cs) (i : Nat) (x x' : Cu) (hx : cs[i]? = some x) (he : x'.d = x.d) : Dn (cs.set i x') := by
  unfold Dn
  rw [map_set_same (fun y : Cu => y.d) cs i x x' hx he]
  exact h
theorem mem_set_of {cs : List Cu} (h : Dn cs) {i : Nat} {x x' y : Cu} (hx : cs[i]? = some x) (hy : y ∈ cs.set i x') : y = x' ∨ (y ∈ cs ∧ y.d ≠ x.d) := by
  obtain ⟨j, hj⟩ := List.mem_iff_getElem?.1 hy
  by_cases e : i = j
  · subst e
    rw [List.getElem?_set_self (List.getElem?_eq_some_iff.1 hx).1] at hj
    exact .inl (Option.some.inj hj).symm
  · rw [List.getElem?_set_ne e] at hj
    refine .inr ⟨List.mem_of_getElem? hj, fun hd => e ?_⟩
    have h1 : (cs.map fun x => x.d)[i]? = some x.d := by rw [List.getElem?_map, hx]; rfl
    have h2 : (cs.map fun x => x.d)[j]? = some x.d := by rw [List.getElem?_map, hj]; exact congrArg some hd
    exact (List.getElem?_inj (by rw [List.length_map]; exact (List.getElem?_eq_some_iff.1 hx).1) h).1 (h1.trans h2.symm)
theorem openC_perm {a b : List Cu} (h : a.Perm b) : (openC a).Perm (openC b) := h.filter _
theorem openC_cons (x : Cu) (l : List Cu) : openC (x :: l) = if x.shut then openC l else x :: openC l := by
  unfold openC
  rw [List.filter_cons]
  cases x.shut <;> rfl
theorem shut_perm {cs : List Cu} {i : Nat} {x x' : Cu} {l : List Re} {cl : Int} {L L2 : List (Nat × List En)} {r : List En} (hx : cs[i]? = some x) (ho : x.shut = false) (ho' : x'.shut = true) (hr : r = restR l cl x)
    (h1 : ((x.c, r) :: L).Perm L2) (h2 : L2.Perm ((openC cs).map fun x => (x.c, restR l cl x))) : L.Perm ((openC (cs.set i x')).map fun x => (x.c, restR l cl x)) := by
  subst hr
  obtain ⟨p1, p2⟩ := set_perm cs i x x' hx
  have q1 := (openC_perm p1).map (fun x => (x.c, restR l cl x))
  have q2 := (openC_perm p2).map (fun x => (x.c, restR l cl x))
  rw [openC_cons, if_neg (by rw [ho]; simp)] at q1
  rw [openC_cons, if_pos ho'] at q2
  exact ((h1.trans (h2.trans q1)).cons_inv).trans q2.symm
theorem move_perm {cs : List Cu} {i j : Nat} {x x' : Cu} {l : List Re} {cl : Int} {L2 : List (Nat × List En)} {r r' : List En} (hx : cs[i]? = some x) (ho : x.shut = false) (ho' : x'.shut = false) (hr : r = restR l cl x) (hr' : r' = restR l cl x') (hc : x'.c = x.c)
    (hj : L2[j]? = some (x.c, r)) (h2 : L2.Perm ((openC cs).map fun x => (x.c, restR l cl x))) : (L2.set j (x.c, r')).Perm ((openC (cs.set i x')).map fun x => (x.c, restR l cl x)) := by
  subst hr hr'
  obtain ⟨p1, p2⟩ := set_perm cs i x x' hx
  obtain ⟨s1, s2⟩ := set_perm L2 j _ (x.c, restR l cl x') hj
  have q1 := (openC_perm p1).map (fun x => (x.c, restR l cl x))
  have q2 := (openC_perm p2).map (fun x => (x.c, restR l cl x))
  rw [openC_cons, if_neg (by rw [ho]; simp)] at q1
  rw [openC_cons, if_neg (by rw [ho']; simp)] at q2
  have q3 := (s1.symm.trans (h2.trans q1)).cons_inv
  refine s2.trans (List.Perm.trans ?_ q2.symm)
  rw [List.map_cons, hc]
  exact q3.cons _
/-- One cursor of the reference's is written. -/
theorem CP.set {w w' : World} {B : Nat} {F : Nat → Prop} {vc vd : Value} {cs : List Cu} (h : CP w B F vc vd cs) (hd : Dn cs) {i : Nat} {x x' : Cu} (hx : cs[i]? = some x) (hc : x'.c = x.c) (hdd : x'.d = x.d) (ht : Touch (fun k => k = x.d) w w') (hb : Box w' x.d 125 (refC x')) (hs : x'.shut = true → ∃ a b, Box w x.c 130 #[.pointer none, a, b]) : CP w' B F vc vd (cs.set i x') := by
  have hxl := (h.bd x (List.mem_of_getElem? hx)).2.lab
  have no : ∀ {g : Nat} {e : TypeId}, Lab w g e → e ≠ 125 → ¬ g = x.d := fun hg he e => by
    subst e
    exact hg.ne hxl he rfl
  refine ⟨?_, ?_, ?_, ?_, h.nc⟩
  · rw [List.length_set, map_set_same (fun y : Cu => Value.pointer (some ⟨y.c, 0, none⟩)) cs i x x' hx (by show Value.pointer (some ⟨x'.c, 0, none⟩) = _; rw [hc])]
    exact own_touch h.rc ht (fun k hk => no (own_lab h.rc k hk) (by decide))
  · rw [List.length_set, map_set_same (fun y : Cu => Value.pointer (some ⟨y.d, 0, none⟩)) cs i x x' hx (by show Value.pointer (some ⟨x'.d, 0, none⟩) = _; rw [hdd])]
    exact own_touch h.rd ht (fun k hk => no (own_lab h.rd k hk) (by decide))
  · intro y hy
    rcases mem_set_of hd hx hy with rfl | ⟨hm, hne⟩
    · rw [hdd]
      exact ⟨(h.bd x (List.mem_of_getElem? hx)).1, hb⟩
    · exact ⟨(h.bd y hm).1, (h.bd y hm).2.touch ht hne⟩
  · intro y hy hsy
    rcases mem_set_of hd hx hy with rfl | ⟨hm, hne⟩
    · obtain ⟨a, b, hq⟩ := hs hsy
      rw [hc]
      exact ⟨a, b, hq.touch ht (no hq.lab (by decide))⟩
    · obtain ⟨a, b, hq⟩ := h.sh y hm hsy
      exact ⟨a, b, hq.touch ht (no hq.lab (by decide))⟩
/-- A step of one cursor on both sides. -/
theorem BS.step {w1 w2 w2' w3 : World} {B gb t gm : Nat} {F F2 : Nat → Prop} {O O2 : Ob} {l : List Re} {cl : Int} {vl vc vd : Value} {cs : List Cu} (h : BS w1 B gb t gm F O l cl vl vc vd cs) (hd : Dn cs) (hT2 : Tf B t F2 O2 w2) (hs : Fs F F2 w1 w2) (hb : Below w2.heap.size w2 w2') {i : Nat} {x x' : Cu} (hx : cs[i]? = some x) (hc : x'.c = x.c) (hdd : x'.d = x.d)
    (ht : Touch (fun k => k = x.d) w2' w3) (hbx : Box w3 x.d 125 (refC x')) (hsh : x'.shut = true → ∃ a b, Box w2 x.c 130 #[.pointer none, a, b]) (live' : O2.1 = liveR l) (curs' : O2.2.Perm ((openC (cs.set i x')).map fun x => (x.c, restR l cl x))) (hat : x'.clr = cl → x'.at_ ≤ l.length) (hclr : x'.clr ≤ cl) :
    BS w3 B gb t gm F2 O2 l cl vl vc vd (cs.set i x') ∧ Dn (cs.set i x') ∧ Below B w1 w3 := by
  obtain ⟨rt2, bx2⟩ := h.mid hs
  have rt3 := rt2.on hb
  have bx3 := bx2.on hb bx2.lt
  have hT3 := hT2.on hb
  have cp3 := (h.cp.fs h.tf hs).on hb
  have hxb := cp3.bd x (List.mem_of_getElem? hx)
  have no : ∀ {g : Nat} {e : TypeId}, Lab w2' g e → e ≠ 125 → ¬ g = x.d := fun hg he e => by
    subst e
    exact hg.ne hxb.2.lab he rfl
  refine ⟨⟨bx3.touch ht (no bx3.lab (by decide)), hT3.touch ht (fun k hk e => by subst e; exact hT3.not_lab hxb.2.lab (by decide) hk), rt3.touch ht (fun k hk e => by
      subst e
      rcases rf_lab rt3 _ _ hk hxb.2.lab with h1 | h1
      · exact absurd h1 (by decide)
      · exact absurd h1 (by decide)),
    cp3.set hd hx hc hdd ht hbx (fun hq => by obtain ⟨a, b, hq⟩ := hsh hq; exact ⟨a, b, hq.on hb hq.lt⟩), live', curs', h.bt, h.uq, ?_, ?_⟩, dn_set hd i x x' hx hdd, ((hs.below h.tf).trans (hb.mono hT2.le)).trans (ht.below hT3.le (fun k hk => by subst hk; exact hxb.1))⟩
  · intro y hy
    rcases mem_set_of hd hx hy with rfl | ⟨hm, _⟩
    · exact hat
    · exact h.ats y hm
  · intro y hy
    rcases mem_set_of hd hx hy with rfl | ⟨hm, _⟩
    · exact hclr
    · exact h.clrs y hm
end Go.Proofs.Ythlhchaapdhbfaa
