/- The law's pair: a table, the reference's, cursors of both; same. -/
import Derived.Test.YthlhchaapdhbfaaGf
import Derived.Test.YthlhchaapdhbfaaGh
import Derived.Test.YthlhchaapdhbfaaGi
namespace Go.Proofs.Ythlhchaapdhbfaa
open Go Go.RowKit

/-- A cursor of each side. -/
structure Cu where
  c : Nat
  d : Nat
  at_ : Nat
  clr : Int
  shut : Bool
abbrev refC (x : Cu) : Array Value := #[.int .i64 (x.at_ : Int), .int .i64 x.clr, .bool x.shut]
/-- The law's rows of cursors; none of their blocks is the table's. -/
structure CP (w : World) (B : Nat) (F : Nat → Prop) (vc vd : Value) (cs : List Cu) : Prop where
  rc : w.ownsRow B 88 1 vc cs.length (cs.map fun x => .pointer (some ⟨x.c, 0, none⟩))
  rd : w.ownsRow B 123 1 vd cs.length (cs.map fun x => .pointer (some ⟨x.d, 0, none⟩))
  bd : ∀ x ∈ cs, B ≤ x.d ∧ Box w x.d 125 (refC x)
  sh : ∀ x ∈ cs, x.shut = true → ∃ a b, Box w x.c 130 #[.pointer none, a, b]
  nc : ∀ k, vc.ownBlock = some k → ¬ F k
/-- What the rest of a cursor is. -/
def restR (l : List Re) (cl : Int) (x : Cu) : List En := if x.clr = cl then liveR (l.drop x.at_) else liveR l
def openC (cs : List Cu) : List Cu := cs.filter fun x => !x.shut
/-- No two that are there have the same key. -/
def UqR (l : List Re) : Prop := ∀ (i j : Nat) x y, l[i]? = some x → l[j]? = some y → x.gone = false → y.gone = false → x.key = y.key → i = j
theorem set_mapR {l : List Re} (h : UqR l) (j : Nat) (x : Re) (k : Vt) (hx : l[j]? = some x) (hi : ReIs x k) (g : Re → Re) : l.set j (g x) = l.map (fun y => if y.gone = false ∧ y.key = k then g y else y) := by
  apply List.ext_getElem?
  intro m
  rw [List.getElem?_map]
  by_cases e : j = m
  · subst e
    rw [List.getElem?_set_self (List.getElem?_eq_some_iff.1 hx).1, hx]
    simp [hi.1, hi.2]
  · rw [List.getElem?_set_ne e]
    cases hm : l[m]? with
    | none => rfl
    | some y =>
      simp only [Option.map_some]
      rw [if_neg]
      rintro ⟨h1, h2⟩
      exact e (h j m x y hx hm hi.1 h1 (by rw [hi.2, h2]))
theorem liveR_cons (y : Re) (l : List Re) : liveR (y :: l) = (if y.gone then [] else [(y.key, y.val, y.fl)]) ++ liveR l := (liveR_app [y] l).trans (by rw [liveR_one])
theorem liveR_put (l : List Re) (k v : Vt) (f : Int) : liveR (l.map (fun y => if y.gone = false ∧ y.key = k then { y with val := v, fl := f } else y)) = updL k v f (liveR l) := by
  induction l with
  | nil => rfl
  | cons x l ih =>
    rw [List.map_cons, liveR_cons, liveR_cons x l, ih]
    unfold updL
    rw [List.map_append]
    congr 1
    cases hg : x.gone with
    | true => simp [hg]
    | false =>
      by_cases hk : x.key = k
      · subst hk; simp
      · simp [hg, hk]
theorem liveR_del (l : List Re) (k : Vt) : liveR (l.map (fun y => if y.gone = false ∧ y.key = k then { y with gone := true } else y)) = dropK k (liveR l) := by
  induction l with
  | nil => rfl
  | cons x l ih =>
    rw [List.map_cons, liveR_cons, liveR_cons x l, ih]
    unfold dropK
    rw [List.filter_append]
    congr 1
    cases hg : x.gone with
    | true => simp [hg]
    | false =>
      by_cases hk : x.key = k
      · subst hk; simp
      · simp [hg, hk]
theorem hasK_liveR (l : List Re) (k : Vt) : hasK (liveR l) k ↔ ∃ x ∈ l, ReIs x k := by
  unfold hasK liveR
  constructor
  · rintro ⟨e, he, hk⟩
    obtain ⟨x, hx, rfl⟩ := List.mem_map.1 he
    obtain ⟨h1, h2⟩ := List.mem_filter.1 hx
    exact ⟨x, h1, by simpa using h2, hk⟩
  · rintro ⟨x, hx, h1, h2⟩
    exact ⟨_, List.mem_map.2 ⟨x, List.mem_filter.2 ⟨hx, by simp [h1]⟩, rfl⟩, h2⟩
/-- Put on both sides. -/
theorem both_put {l l' : List Re} {k v : Vt} {f : Int} {cl : Int} {cs : List Cu} {O : Ob} (h : PutL l k v f l') (hu : UqR l) (ha : ∀ x ∈ cs, x.clr = cl → x.at_ ≤ l.length) (h1 : O.1 = liveR l) (h2 : O.2.Perm ((openC cs).map fun x => (x.c, restR l cl x))) :
    (putO O k v f).1 = liveR l' ∧ (putO O k v f).2.Perm ((openC cs).map fun x => (x.c, restR l' cl x)) ∧ UqR l' ∧ l.length ≤ l'.length ∧ l'.length ≤ l.length + 1 := by
  rcases h with ⟨j, x, hx, hi, rfl⟩ | ⟨hno, rfl⟩
  · have e := set_mapR hu j x k hx hi (fun y => { y with val := v, fl := f })
    have hk : hasK O.1 k := by rw [h1]; exact (hasK_liveR l k).2 ⟨x, List.mem_of_getElem? hx, hi⟩
    unfold putO
    rw [if_pos hk]
    refine ⟨?_, ?_, ?_, by rw [List.length_set]; exact Nat.le_refl _, by rw [List.length_set]; omega⟩
    · show updL k v f O.1 = _
      rw [h1, e, liveR_put]
    · refine (h2.map _).trans ?_
      rw [List.map_map]
      refine List.Perm.of_eq (List.map_congr_left fun y _ => ?_)
      show (y.c, updL k v f (restR l cl y)) = _
      unfold restR
      rw [e]
      split
      · rw [← List.map_drop, liveR_put]
      · rw [liveR_put]
    · intro a b p q ha hb hp hq hpq
      rw [e, List.getElem?_map] at ha hb
      obtain ⟨p', hp', rfl⟩ := Option.map_eq_some_iff.1 ha
      obtain ⟨q', hq', rfl⟩ := Option.map_eq_some_iff.1 hb
      have gk : ∀ y : Re, (if y.gone = false ∧ y.key = k then { y with val := v, fl := f } else y).gone = y.gone ∧ (if y.gone = false ∧ y.key = k then { y with val := v, fl := f } else y).key = y.key := fun y => by split <;> exact ⟨rfl, rfl⟩
      rw [(gk p').1] at hp
      rw [(gk q').1] at hq
      rw [(gk p').2, (gk q').2] at hpq
      exact hu a b p' q' hp' hq' hp hq hpq
  · have hk : ¬ hasK O.1 k := fun h => by
      rw [h1] at h
      obtain ⟨x, hx, hi⟩ := (hasK_liveR l k).1 h
      exact hno x hx hi
    have one : liveR [(⟨k, v, f, false⟩ : Re)] = [(k, v, f)] := rfl
    unfold putO
    rw [if_neg hk]
    refine ⟨?_, ?_, ?_, by simp, by simp⟩
    · show O.1 ++ _ = _
      rw [h1, liveR_app, one]
    · refine (h2.map _).trans ?_
      rw [List.map_map]
      refine List.Perm.of_eq (List.map_congr_left fun y hy => ?_)
      show (y.c, restR l cl y ++ [(k, v, f)]) = _
      unfold restR
      split
      · rename_i hc
        rw [List.drop_append_of_le_length (ha y ((List.mem_filter.1 hy).1) hc), liveR_app, one]
      · rw [liveR_app, one]
    · intro a b p q ha hb hp hq hpq
      rcases get_snoc ha with ⟨ha1, _⟩ | ⟨ha1, ha2⟩
      · rcases get_snoc hb with ⟨hb1, _⟩ | ⟨hb1, hb2⟩
        · exact hu a b p q ha1 hb1 hp hq hpq
        · exact (hno p (List.mem_of_getElem? ha1) ⟨hp, by rw [hpq, hb2]⟩).elim
      · rcases get_snoc hb with ⟨hb1, _⟩ | ⟨hb1, hb2⟩
        · exact (hno q (List.mem_of_getElem? hb1) ⟨hq, by rw [← hpq, ha2]⟩).elim
        · rw [ha1, hb1]
/-- Delete on both sides. -/
theorem both_del {l l' : List Re} {k : Vt} {r r2 : Bool} {cl : Int} {cs : List Cu} {O : Ob} (h : DelL l k l' r) (hr : r2 = true ↔ hasK O.1 k) (hu : UqR l) (h1 : O.1 = liveR l) (h2 : O.2.Perm ((openC cs).map fun x => (x.c, restR l cl x))) :
    r2 = r ∧ (delO O k).1 = liveR l' ∧ (delO O k).2.Perm ((openC cs).map fun x => (x.c, restR l' cl x)) ∧ UqR l' ∧ l'.length = l.length := by
  rcases h with ⟨j, x, hx, hi, rfl, rfl⟩ | ⟨hno, rfl, rfl⟩
  · have e := set_mapR hu j x k hx hi (fun y => { y with gone := true })
    have hk : hasK O.1 k := by rw [h1]; exact (hasK_liveR l k).2 ⟨x, List.mem_of_getElem? hx, hi⟩
    refine ⟨hr.2 hk, ?_, ?_, ?_, by rw [List.length_set]⟩
    · show dropK k O.1 = _
      rw [h1, e, liveR_del]
    · refine (h2.map _).trans ?_
      rw [List.map_map]
      refine List.Perm.of_eq (List.map_congr_left fun y _ => ?_)
      show (y.c, dropK k (restR l cl y)) = _
      unfold restR
      rw [e]
      split
      · rw [← List.map_drop, liveR_del]
      · rw [liveR_del]
    · intro a b p q ha hb hp hq hpq
      rw [e, List.getElem?_map] at ha hb
      obtain ⟨p', hp', rfl⟩ := Option.map_eq_some_iff.1 ha
      obtain ⟨q', hq', rfl⟩ := Option.map_eq_some_iff.1 hb
      have gk : ∀ y : Re, (if y.gone = false ∧ y.key = k then { y with gone := true } else y).gone = false → y.gone = false ∧ (if y.gone = false ∧ y.key = k then { y with gone := true } else y).key = y.key := fun y hy => by
        split at hy
        · cases hy
        · rename_i hn
          exact ⟨hy, by rw [if_neg hn]⟩
      rw [(gk p' hp).2, (gk q' hq).2] at hpq
      exact hu a b p' q' hp' hq' (gk p' hp).1 (gk q' hq).1 hpq
  · have hk : ¬ hasK O.1 k := fun h => by
      rw [h1] at h
      obtain ⟨x, hx, hi⟩ := (hasK_liveR _ k).1 h
      exact hno x hx hi
    have hd : ∀ L : List Re, (∀ x ∈ L, ¬ ReIs x k) → dropK k (liveR L) = liveR L := fun L hL => List.filter_eq_self.2 (fun e he => by
      refine decide_eq_true (fun h => ?_)
      obtain ⟨x, hx, hi⟩ := (hasK_liveR L k).1 ⟨e, he, h⟩
      exact hL x hx hi)
    refine ⟨by cases r2 with | false => rfl | true => exact (hk (hr.1 rfl)).elim, ?_, ?_, hu, rfl⟩
    · show dropK k O.1 = _
      rw [h1, hd _ hno]
    · refine (h2.map _).trans ?_
      rw [List.map_map]
      refine List.Perm.of_eq (List.map_congr_left fun y _ => ?_)
      show (y.c, dropK k (restR _ cl y)) = _
      unfold restR
      split
      · rw [hd _ (fun x hx => hno x (List.mem_of_mem_drop hx))]
      · rw [hd _ hno]
/-- The pair's state: the table's O is what the reference's l says. -/
structure BS (w : World) (B gb t gm : Nat) (F : Nat → Prop) (O : Ob) (l : List Re) (cl : Int) (vl vc vd : Value) (cs : List Cu) : Prop where
  box : Box w gb 74 #[.pointer (some ⟨t, 0, none⟩), .pointer (some ⟨gm, 0, none⟩), vc, vd]
  tf : Tf B t F O w
  rt : RT w B gm l cl vl
  cp : CP w B F vc vd cs
  live : O.1 = liveR l
  curs : O.2.Perm ((openC cs).map fun x => (x.c, restR l cl x))
  bt : B ≤ gb
  uq : UqR l
  ats : ∀ x ∈ cs, x.clr = cl → x.at_ ≤ l.length
  clrs : ∀ x ∈ cs, x.clr ≤ cl
section
variable {w w' : World} {B gb t gm : Nat} {F F' : Nat → Prop} {O : Ob} {l : List Re} {cl : Int} {vl vc vd : Value} {cs : List Cu}
theorem CP.fs (h : CP w B F vc vd cs) {O : Ob} (hT : Tf B t F O w) (hs : Fs F F' w w') : CP w' B F' vc vd cs := by
  have no : ∀ {g : Nat} {e : TypeId}, Lab w g e → (e ≠ 121 ∧ e ≠ 133 ∧ e ≠ 3 ∧ e ≠ 88 ∧ e ≠ 130) → ¬ F g := fun hl he => hT.not_lab hl he
  exact ⟨own_touch h.rc hs.touch h.nc, own_touch h.rd hs.touch (fun k hk => no (own_lab h.rd k hk) (by decide)), fun x hx => ⟨(h.bd x hx).1, (h.bd x hx).2.touch hs.touch (no (h.bd x hx).2.lab (by decide))⟩, fun x hx hsx => by
    obtain ⟨a, b, hb⟩ := h.sh x hx hsx
    exact ⟨a, b, hb.touch hs.touch (hT.not_closed hb)⟩, fun k hk hf => (hs.fresh k hf).elim (h.nc k hk) (fun h2 => by have := (own_lt h.rc k hk).2; omega)⟩
/-- Blocks of two types alone are touched. -/
theorem CP.lab {S : Nat → Prop} (h : CP w B F vc vd cs) (ht : Touch S w w') (hl : ∀ k e, S k → Lab w k e → e = 70 ∨ e = 84) : CP w' B F vc vd cs := by
  have no : ∀ {g : Nat} {e : TypeId}, Lab w g e → (e ≠ 70 ∧ e ≠ 84) → ¬ S g := fun hg he hs => (hl _ _ hs hg).elim he.1 he.2
  exact ⟨own_touch h.rc ht (fun k hk => no (own_lab h.rc k hk) (by decide)), own_touch h.rd ht (fun k hk => no (own_lab h.rd k hk) (by decide)), fun x hx => ⟨(h.bd x hx).1, (h.bd x hx).2.touch ht (no (h.bd x hx).2.lab (by decide))⟩, fun x hx hsx => by
    obtain ⟨a, b, hb⟩ := h.sh x hx hsx
    exact ⟨a, b, hb.touch ht (no hb.lab (by decide))⟩, h.nc⟩
theorem CP.on (h : CP w B F vc vd cs) (hb : Below w.heap.size w w') : CP w' B F vc vd cs := h.lab (S := fun _ => False) (Touch.of_below hb) (fun _ _ h => h.elim)
theorem BS.on (h : BS w B gb t gm F O l cl vl vc vd cs) (hb : Below w.heap.size w w') : BS w' B gb t gm F O l cl vl vc vd cs :=
  ⟨h.box.on hb h.box.lt, h.tf.on hb, h.rt.on hb, h.cp.on hb, h.live, h.curs, h.bt, h.uq, h.ats, h.clrs⟩
theorem lab_one {k : Nat} {e e' : TypeId} (h : Lab w k e) (h' : Lab w k e') : e = e' := by
  by_cases he : e = e'
  · exact he
  · exact absurd rfl (h.ne h' he)
theorem rf_lab (h : RT w B gm l cl vl) (k : Nat) (e : TypeId) (hk : RF gm vl k) (he : Lab w k e) : e = 70 ∨ e = 84 := by
  rcases h.lab hk with h1 | h1
  · exact .inl (lab_one he h1)
  · exact .inr (lab_one he h1)
theorem rf_not (h : RT w B gm l cl vl) (hT : Tf B t F O w) (k : Nat) (hk : F k) : ¬ RF gm vl k := fun hr => by
  rcases h.lab hr with h1 | h1
  · exact hT.not_lab h1 (by decide) hk
  · exact hT.not_lab h1 (by decide) hk
end
set_option maxHeartbeats 1000000 in
set_option maxRecDepth 100000 in
theorem same_any (w : World) (B gb t gm : Nat) (F : Nat → Prop) (O : Ob) (l : List Re) (cl : Int) (vl vc vd : Value) (cs : List Cu) (hl : l.length < 30000) (hcs : cs.length < 1000) (h : BS w B gb t gm F O l cl vl vc vd cs) :
    Calls Try.prog 66 #[.pointer (some ⟨gb, 0, none⟩)] w fun e w' => e = .returned (.bool true) ∧ Below w.heap.size w w' := by
  obtain ⟨da, dc, rfl, hdc, hdg, hdm⟩ := slice_own h.cp.rd
  have HH := Veil.mk h
  have b0 : w.cell? ⟨gb, 0, none⟩ = some (.pointer (some ⟨t, 0, none⟩)) := h.box.at_ 0
  have b1 : w.cell? ⟨gb, 1, none⟩ = some (.pointer (some ⟨gm, 0, none⟩)) := h.box.at_ 1
  have b3 : w.cell? ⟨gb, 3, none⟩ = some (.slice da cs.length dc) := h.box.at_ 3
  clear h
  go_enter Try.func66, Try.ntmps66
  go_wp2
  go_loop [3, 12] (fun n i => ∃ p : Nat, p ≤ cs.length ∧ i = .int .i64 (p : Int) ∧ n = .int .i64 ((openC (cs.take p)).length : Int)) (fun _ i => cs.length - (intOf i).toNat)
  case atStart => exact ⟨0, Nat.zero_le _, rfl, rfl⟩
  case round =>
    obtain ⟨p, hp, rfl, rfl⟩ := hrel
    by_cases hlt : p < cs.length
    · have hlt' : (p : Int) < (cs.length : Int) := by omega
      have hp0 : (0 : Int) ≤ (p : Int) := by omega
      obtain ⟨r, rfl⟩ := hdg (by omega)
      obtain ⟨x, hx⟩ : ∃ x, cs[p]? = some x := ⟨_, List.getElem?_eq_getElem hlt⟩
      have d0 : w.cell? ⟨r, p, none⟩ = some (.pointer (some ⟨x.d, 0, none⟩)) := by
        have := HH.out.cp.rd.cells (g := r) rfl p (.pointer (some ⟨x.d, 0, none⟩)) (by rw [List.getElem?_map, hx]; rfl)
        rwa [add_off] at this
      have d2 : w.cell? ⟨x.d, 2, none⟩ = some (.bool x.shut) := (HH.out.cp.bd x (List.mem_of_getElem? hx)).2.at_ 2
      have hle : (openC (cs.take p)).length ≤ p := Nat.le_trans (List.length_filter_le _ _) (by rw [List.length_take]; omega)
      have HS : Veil ((openC (cs.take (p + 1))).length = (openC (cs.take p)).length + if x.shut then 0 else 1) := ⟨by
        unfold openC
        rw [List.take_add_one, hx, List.filter_append, List.length_append]
        cases hsx : x.shut <;> simp [hsx]⟩
      generalize (openC (cs.take p)).length = c at hle HS ⊢
      clear hx hdg
      rcases hsx : x.shut with _ | _
      · rw [hsx] at d2 HS
        clear hsx
        go_wp2
        go_round
        case rel => exact ⟨p + 1, by omega, by go_num, by rw [HS.out]; simp⟩
        case measure => simp [intOf]; omega
      · rw [hsx] at d2 HS
        clear hsx
        go_wp2
        go_round
        case rel => exact ⟨p + 1, by omega, by go_num, by rw [HS.out]; simp⟩
        case measure => simp [intOf]; omega
    · have hlt' : ¬ (p : Int) < (cs.length : Int) := by omega
      have HN : Veil (cs.take p = cs) := ⟨List.take_of_length_le (by omega)⟩
      rw [HN.out]
      have hl1 := liveR_le l
      have hO1 : O.1.length = (liveR l).length := by rw [HH.out.live]
      have hO2 : O.2.length = (openC cs).length := by rw [HH.out.curs.length_eq, List.length_map]
      have hol : (openC cs).length ≤ cs.length := List.length_filter_le _ _
      have HR := Veil.mk (rlen_any B gm l cl vl (by omega) w HH.out.rt)
      have HL := Veil.mk (fun w' (hb : Below w.heap.size w w') => len_tb (HH.out.tf.on hb).tb)
      have HS := Veil.mk (fun w' (hb : Below w.heap.size w w') => sto_tf (HH.out.tf.on hb) (by omega) (by omega))
      rw [hO1] at HL HS
      rw [hO2] at HS
      generalize (liveR l).length = n at hl1 HR HL HS
      generalize (openC cs).length = m at hol HS ⊢
      clear hO1 hO2
      have e1 : IntKind.i64.wrap (5 * (n : Int)) = 5 * (n : Int) := IntWalk.i64_in _ (by omega)
      have e2 : IntKind.i64.wrap (5 * (n : Int) + (m : Int)) = 5 * (n : Int) + (m : Int) := IntWalk.i64_in _ (by omega)
      have e3 : IntKind.i64.wrap (5 * (n : Int) + (m : Int) + 16) = 5 * (n : Int) + (m : Int) + 16 := IntWalk.i64_in _ (by omega)
      have y0 : ∀ w', Below w.heap.size w w' → w'.cell? ⟨gb, 0, none⟩ = some (.pointer (some ⟨t, 0, none⟩)) := fun w' hb => (HH.out.box.on hb HH.out.box.lt).at_ 0
      have Y0 := Veil.mk y0
      clear y0
      go_upto_region 9 with (first | (go_at_call 78; ((with_reducible refine HR.out.mono ?_); rintro e w1 ⟨rfl, hb1⟩)))
      have z0 := Y0.out _ hb1
      clear b0 b1 b3
      go_wp2_with (first | (go_at_call 41; ((with_reducible refine (HL.out _ hb1).mono ?_); rintro e w2 ⟨rfl, rfl⟩)) | (go_at_call 37; ((with_reducible refine (HS.out _ hb1).mono ?_); rintro e w3 ⟨s, rfl, hs, hb3⟩; have hs' : (s : Int) ≤ 5 * (n : Int) + (m : Int) + 16 := by omega)))
      go_ret
      exact ⟨rfl, hb1.trans (hb3.mono hb1.size)⟩
end Go.Proofs.Ythlhchaapdhbfaa
