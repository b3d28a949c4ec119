/- The law's pair: both cursors' Next. -/
import Derived.Test.YthlhchaapdhbfaaGr
namespace Go.Proofs.Ythlhchaapdhbfaa
open Go Go.RowKit

def zV : Vt := (0, 0, ⟨#[]⟩)
/-- What both cursors' Next leave. -/
def RBothP (w : World) (B gb t gm : Nat) (l : List Re) (cl : Int) (vl vc vd : Value) (i : Nat) (cs : List Cu) (x : Cu) (k v : Vt) (f : Int) (ok : Bool) (w2 : World) (e : Ending) (w3 : World) : Prop :=
  ∃ y : Re, e = .returned (.tuple #[reV y, .bool ok]) ∧ (y.key = k ∧ y.val = v ∧ y.fl = f) ∧ ∃ F' O' x', BS w3 B gb t gm F' O' l cl vl vc vd (cs.set i x') ∧ Dn (cs.set i x') ∧ x'.c = x.c ∧ x'.d = x.d ∧ Below B w w3 ∧ Touch (fun k => k = x.d) w2 w3
def NBothP (w : World) (B gb t gm : Nat) (l : List Re) (cl : Int) (vl vc vd : Value) (i : Nat) (cs : List Cu) (x : Cu) (k v : Vt) (f : Int) (ok : Bool) (e : Ending) (w2 : World) : Prop :=
  e = .returned (.tuple #[valV k, valV v, .int .i64 f, .bool ok]) ∧ (∃ F2, Fs F2 F2 w2 w2 ∧ Box w2 gb 74 #[.pointer (some ⟨t, 0, none⟩), .pointer (some ⟨gm, 0, none⟩), vc, vd]) ∧ (∀ gd n dc, vd = .slice (some ⟨gd, 0, none⟩) n dc → w2.cell? ⟨gd, i, none⟩ = some (.pointer (some ⟨x.d, 0, none⟩))) ∧ Lab w2 x.d 125 ∧ (B ≤ w2.heap.size ∧ w.heap.size ≤ w2.heap.size) ∧
    ∀ w2', Below w2.heap.size w2 w2' → Calls Try.prog 65 #[.pointer (some ⟨gm, 0, none⟩), .pointer (some ⟨x.d, 0, none⟩)] w2' (RBothP w B gb t gm l cl vl vc vd i cs x k v f ok w2')
theorem set_self {cs : List Cu} {i : Nat} {x : Cu} (hx : cs[i]? = some x) : cs.set i x = cs := by
  apply List.ext_getElem?
  intro j
  by_cases e : i = j
  · subst e
    rw [List.getElem?_set_self (List.getElem?_eq_some_iff.1 hx).1, hx]
  · rw [List.getElem?_set_ne e]
theorem nreads {w1 w2 : World} {B gb t gm : Nat} {F F2 : Nat → Prop} {O O2 : Ob} {l : List Re} {cl : Int} {vl vc vd : Value} {i : Nat} {cs : List Cu} {x : Cu} (h : BS w1 B gb t gm F O l cl vl vc vd cs) (hs : Fs F F2 w1 w2) (hT : Tf B t F2 O2 w2) (hx : cs[i]? = some x) :
    (∃ F2, Fs F2 F2 w2 w2 ∧ Box w2 gb 74 #[.pointer (some ⟨t, 0, none⟩), .pointer (some ⟨gm, 0, none⟩), vc, vd]) ∧ (∀ gd n dc, vd = .slice (some ⟨gd, 0, none⟩) n dc → w2.cell? ⟨gd, i, none⟩ = some (.pointer (some ⟨x.d, 0, none⟩))) ∧ Lab w2 x.d 125 ∧ (B ≤ w2.heap.size ∧ w1.heap.size ≤ w2.heap.size) := by
  obtain ⟨rt2, bx2⟩ := h.mid hs
  have cp2 := h.cp.fs h.tf hs
  refine ⟨⟨F2, Fs.refl _ _, bx2⟩, ?_, (cp2.bd x (List.mem_of_getElem? hx)).2.lab, hT.le, hs.touch.size⟩
  rintro gd n dc rfl
  have h := cp2.rd.cells (g := gd) rfl i (.pointer (some ⟨x.d, 0, none⟩)) (by rw [List.getElem?_map, hx]; rfl)
  rwa [add_off] at h
theorem rnext_any (B gm d : Nat) (l : List Re) (cl : Int) (vl : Value) (hl : l.length < 90000) (x : Cu) (ho : x.shut = false) (ha : x.clr = cl → x.at_ ≤ l.length) (w : World) (hT : RT w B gm l cl vl) (h : Box w d 125 (refC x)) :
    Calls Try.prog 65 #[.pointer (some ⟨gm, 0, none⟩), .pointer (some ⟨d, 0, none⟩)] w (fun e w' => ∃ at0, liveR (l.drop at0) = restR l cl x ∧ RNextP d l cl at0 w e w') := by
  have h' : Box w d 125 #[.int .i64 (x.at_ : Int), .int .i64 x.clr, .bool false] := by rw [← ho]; exact h
  by_cases hc : x.clr = cl
  · refine (rnext_same B gm d l cl vl hl x.at_ x.clr hc.symm (ha hc) w hT h').mono (fun e w' hp => ⟨x.at_, ?_, hp⟩)
    unfold restR
    rw [if_pos hc]
  · refine (rnext_other B gm d l cl vl hl x.at_ x.clr hc w hT h').mono (fun e w' hp => ⟨0, ?_, hp⟩)
    unfold restR
    rw [if_neg hc]
    rfl
theorem next_both {w : World} {B gb t gm : Nat} {F : Nat → Prop} {O : Ob} {l : List Re} {cl : Int} {vl vc vd : Value} {i : Nat} {cs : List Cu} {x : Cu} (h : BS w B gb t gm F O l cl vl vc vd cs) (hdn : Dn cs) (hcs : cs.length < 900) (hl : l.length < 30000) (hx : cs[i]? = some x) :
    ∃ k v f ok, Calls Try.prog 42 #[.pointer (some ⟨x.c, 0, none⟩)] w (NBothP w B gb t gm l cl vl vc vd i cs x k v f ok) := by
  have hxm := List.mem_of_getElem? hx
  have hlens := h.lens
  cases hsh : x.shut with
  | true =>
    obtain ⟨a, b, hb⟩ := h.cp.sh x hxm hsh
    refine ⟨zV, zV, 0, false, (next_shut x.c a b w hb).mono ?_⟩
    rintro e w2 ⟨rfl, hbw⟩
    obtain ⟨n1, n2, n3, n4⟩ := nreads h (Fs.of_below hbw) (h.tf.on hbw) hx
    refine ⟨rfl, n1, n2, n3, n4, fun w2' hb2 => ?_⟩
    have h2 := (h.on hbw).on hb2
    have hbx := (h2.cp.bd x hxm).2
    refine (rnext_shut gm x.d _ _ w2' (by rw [← hsh]; exact hbx)).mono ?_
    rintro e w3 ⟨rfl, hb3⟩
    refine ⟨⟨zV, zV, 0, false⟩, rfl, ⟨rfl, rfl, rfl⟩, F, O, x, ?_, ?_, rfl, rfl, ?_, Touch.of_below hb3⟩
    · rw [set_self hx]; exact h2.on hb3
    · rw [set_self hx]; exact hdn
    · exact (hbw.mono h.tf.le).trans ((hb2.mono (h.tf.on hbw).le).trans (hb3.mono h2.tf.le))
  | false =>
    have hm : (x.c, restR l cl x) ∈ O.2 := h.curs.mem_iff.2 (List.mem_map.2 ⟨x, List.mem_filter.2 ⟨hxm, by rw [hsh]; rfl⟩, rfl⟩)
    cases hr : restR l cl x with
    | nil =>
      rw [hr] at hm
      refine ⟨zV, zV, 0, false, (end_tf h.tf (by omega) (by omega) x.c hm).mono ?_⟩
      rintro e w2 ⟨rfl, F', L, hT, hFs, hp, a, b, hb⟩
      obtain ⟨n1, n2, n3, n4⟩ := nreads h hFs hT hx
      refine ⟨rfl, n1, n2, n3, n4, fun w2' hb2 => ?_⟩
      have cp2 := (h.cp.fs h.tf hFs).on hb2
      refine (rnext_any B gm x.d l cl vl (by omega) x hsh (h.ats x hxm) w2' ((h.mid hFs).1.on hb2) (cp2.bd x hxm).2).mono ?_
      rintro e w3 ⟨at0, hat, ht, ⟨p, y, rfl, e1, -, -⟩ | ⟨rfl, e1, p, hp2, hbx⟩⟩
      · rw [hat, hr] at e1
        cases e1
      · obtain ⟨q1, q2, q3⟩ := BS.step h hdn hT hFs hb2 (x' := { x with at_ := p, clr := cl, shut := true }) hx rfl rfl ht hbx (fun _ => ⟨a, b, hb⟩) h.live (shut_perm hx hsh rfl hr.symm hp h.curs) (fun _ => hp2) (Int.le_refl _)
        exact ⟨⟨zV, zV, 0, false⟩, rfl, ⟨rfl, rfl, rfl⟩, _, _, _, q1, q2, rfl, rfl, q3, ht⟩
    | cons en r' =>
      rw [hr] at hm
      obtain ⟨j, hj⟩ := List.mem_iff_getElem?.1 hm
      refine ⟨en.1, en.2.1, en.2.2, true, (next_tf h.tf (by omega) j x.c en r' hj).mono ?_⟩
      rintro e w2 ⟨rfl, hT, hto⟩
      have hFs : Fs F F w w2 := ⟨hto, fun _ h => .inl h⟩
      obtain ⟨n1, n2, n3, n4⟩ := nreads h hFs hT hx
      refine ⟨rfl, n1, n2, n3, n4, fun w2' hb2 => ?_⟩
      have cp2 := (h.cp.fs h.tf hFs).on hb2
      refine (rnext_any B gm x.d l cl vl (by omega) x hsh (h.ats x hxm) w2' ((h.mid hFs).1.on hb2) (cp2.bd x hxm).2).mono ?_
      rintro e w3 ⟨at0, hat, ht, ⟨p, y, rfl, e1, hp2, hbx⟩ | ⟨rfl, e1, p, hp2, hbx⟩⟩
      · rw [hat, hr, List.cons.injEq] at e1
        obtain ⟨rfl, e2⟩ := e1
        obtain ⟨q1, q2, q3⟩ := BS.step h hdn hT hFs hb2 (x' := { x with at_ := p + 1, clr := cl }) hx rfl rfl ht (by rw [show refC { x with at_ := p + 1, clr := cl } = #[.int .i64 ((p + 1 : Nat) : Int), .int .i64 cl, .bool false] from by show #[_, _, _] = #[_, _, _]; rw [hsh]]; exact hbx) (fun e => by rw [show ({ x with at_ := p + 1, clr := cl } : Cu).shut = x.shut from rfl, hsh] at e; cases e) h.live
          (move_perm hx hsh hsh hr.symm (by rw [e2]; unfold restR; rw [if_pos rfl]) rfl hj h.curs) (fun _ => hp2) (Int.le_refl _)
        exact ⟨y, rfl, ⟨rfl, rfl, rfl⟩, _, _, _, q1, q2, rfl, rfl, q3, ht⟩
      · rw [hat, hr] at e1
        cases e1
/-- Open of a cursor of the pair. -/
theorem open_both {w : World} {B gb t gm : Nat} {F : Nat → Prop} {O : Ob} {l : List Re} {cl : Int} {vl vc vd : Value} {i : Nat} {cs : List Cu} {x : Cu} (h : BS w B gb t gm F O l cl vl vc vd cs) (hx : cs[i]? = some x) :
    Calls Try.prog 43 #[.pointer (some ⟨x.c, 0, none⟩)] w fun e w' => e = .returned (.bool (!x.shut)) ∧ w' = w := by
  have hxm := List.mem_of_getElem? hx
  cases hsh : x.shut with
  | true =>
    obtain ⟨a, b, hb⟩ := h.cp.sh x hxm hsh
    exact open_shut x.c a b w hb
  | false =>
    have hm : (x.c, restR l cl x) ∈ O.2 := h.curs.mem_iff.2 (List.mem_map.2 ⟨x, List.mem_filter.2 ⟨hxm, by rw [hsh]; rfl⟩, rfl⟩)
    obtain ⟨T, vs, vb, vc', hT, hG, ho, -⟩ := h.tf
    subst ho
    obtain ⟨⟨c', a⟩, hm2, he⟩ := List.mem_map.1 (show (x.c, restR l cl x) ∈ T.cur.map _ from hm)
    simp only [Prod.mk.injEq] at he
    obtain ⟨rfl, -⟩ := he
    obtain ⟨j, hj⟩ := List.mem_iff_getElem?.1 hm2
    exact open_any x.c t _ _ w (hT.cs j (x.c, a) hj).2
theorem BS.ent {w w' : World} {B gb t gm : Nat} {F : Nat → Prop} {O : Ob} {l : List Re} {cl : Int} {vl vc vd : Value} {cs : List Cu} (h : BS w B gb t gm F O l cl vl vc vd cs) {ge : Nat} (ht : Touch (fun k => k = ge) w w') (hl : Lab w ge 84) (hn : ¬ RF gm vl ge) : BS w' B gb t gm F O l cl vl vc vd cs :=
  ⟨h.box.touch ht (fun e => by subst e; exact h.box.lab.ne hl (by decide) rfl), h.tf.touch ht (fun k hk e => by subst e; exact h.tf.not_lab hl (by decide) hk), h.rt.touch ht (fun k hk e => by subst e; exact hn hk), h.cp.lab ht (fun k e hk he => by subst hk; exact .inr (lab_one he hl)), h.live, h.curs, h.bt, h.uq, h.ats, h.clrs⟩
end Go.Proofs.Ythlhchaapdhbfaa
