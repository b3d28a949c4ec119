/- Package heap: chain, as a function to be ranged over. -/
import Derived.Test.YtbeapojjbgkalaaDoorHb
import Derived.Test.YtbeapojjbgkalaaDoorGa
namespace Go.Proofs.YtbeapojjbgkalaaDoor
open Go Go.RowKit
attribute [local go_sem] Oper.semAt_some

abbrev objB (b : Nat) : Option Bd := some (26, b)
/-- A heap of plain objects, each the prototype of the next. -/
structure HK (w : World) (B h A : Nat) (cv fv rv : Value) (nbs : List Nat) (pv : Nat → Value) : Prop where
  hp : HpAt w B h A cv fv rv ⟨nbs.map objB, [], nbs.length, []⟩
  ob : ∀ (i b : Nat), nbs[i]? = some b → Box w b 38 (objC 0 (i : Int) false (pv i) (.slice none 0 0))
/-- The blocks that it has. -/
def HFoot (h A : Nat) (cv fv rv : Value) (nbs : List Nat) (k : Nat) : Prop := k = h ∨ AFoot A cv fv rv k ∨ k ∈ nbs
theorem HK.touch {w w' : World} {B h A : Nat} {cv fv rv : Value} {nbs : List Nat} {pv : Nat → Value} {S : Nat → Prop} (H : HK w B h A cv fv rv nbs pv) (ht : Touch S w w') (hn : ∀ k, HFoot h A cv fv rv nbs k → ¬ S k) : HK w' B h A cv fv rv nbs pv :=
  ⟨⟨H.hp.hb.touch ht (hn h (.inl rfl)), H.hp.ar.touch ht (fun k hk => hn k (.inr (.inl hk))), H.hp.hB⟩, fun i b hb => (H.ob i b hb).touch ht (hn b (.inr (.inr (List.mem_of_getElem? hb))))⟩
theorem HK.on {w w' : World} {B h A : Nat} {cv fv rv : Value} {nbs : List Nat} {pv : Nat → Value} (H : HK w B h A cv fv rv nbs pv) (hb : Below w.heap.size w w') : HK w' B h A cv fv rv nbs pv := H.touch (S := fun _ => False) (Touch.of_below hb) (fun _ _ h => h)
theorem HK.lt {w : World} {B h A : Nat} {cv fv rv : Value} {nbs : List Nat} {pv : Nat → Value} (H : HK w B h A cv fv rv nbs pv) {k : Nat} (hk : HFoot h A cv fv rv nbs k) : k < w.heap.size := by
  rcases hk with rfl | hk | hk
  · exact H.hp.hb.lt
  · exact (AFoot.lt H.hp.ar hk).2
  · obtain ⟨i, hi⟩ := List.mem_iff_getElem?.1 hk
    exact (H.ob i k hi).lt
theorem get_in {nbs : List Nat} {fs : List Nat} {c : Nat} {rs : List Int} (r : Nat) (hr : r < nbs.length) : (⟨nbs.map objB, fs, c, rs⟩ : AD).get ((r : Int) + 1) = objB (nbs[r]?.getD 0) := by
  unfold AD.get
  rw [if_pos ⟨by omega, by simp; omega⟩]
  rw [show ((r : Int) + 1 - 1).toNat = r by omega]
  simp [List.getElem?_eq_getElem hr]
theorem get_zero (d : AD) : d.get 0 = none := by
  unfold AD.get
  rw [if_neg (by omega)]
/-- The chain from the object of number r on. -/
def chL (nbs : List Nat) : Nat → List (Nat × Nat)
  | 0 => []
  | r + 1 => (r + 1, nbs[r]?.getD 0) :: chL nbs r
theorem chL_len (nbs : List Nat) : ∀ r, (chL nbs r).length = r
  | 0 => rfl
  | r + 1 => by rw [chL, List.length_cons, chL_len nbs r]
theorem chL_get (nbs : List Nat) : ∀ (r k q : Nat), r = k + q + 1 → (chL nbs r)[k]? = some (q + 1, nbs[q]?.getD 0)
  | r, 0, q, h => by subst h; rw [show 0 + q + 1 = q + 1 by omega]; rfl
  | r, k + 1, q, h => by
    subst h
    rw [show k + 1 + q + 1 = (k + q + 1) + 1 by omega]
    show (chL nbs (k + q + 1))[k]? = _
    exact chL_get nbs _ k q rfl
theorem take_snoc {α : Type} (l : List α) (k : Nat) (x : α) (h : l[k]? = some x) : l.take (k + 1) = l.take k ++ [x] := by rw [List.take_add_one, h]; rfl
theorem chain_any (r : Int) (p : Option Addr) (w : World) : Calls Tryd.prog 51 #[.pointer p, .int .i64 r] w fun e w' => e = .returned (.func (.func 68) #[] #[.pointer (some ⟨w.heap.size, 0, none⟩), .pointer (some ⟨w.heap.size + 1, 0, none⟩)]) ∧ Box w' w.heap.size 24 #[.pointer p] ∧ Box w' (w.heap.size + 1) 3 #[.int .i64 r] ∧ Below w.heap.size w w' := by
  have b1 := (Box.new w 24 #[.pointer p]).more (.cells #[.int .i64 r] 3)
  have b2 := Box.new (w.alloc (.cells #[.pointer p] 24)) 3 #[.int .i64 r]
  have bb : Below w.heap.size w ((w.alloc (.cells #[.pointer p] 24)).alloc (.cells #[.int .i64 r] 3)) := ((Below.refl _ _).alloc (Nat.le_refl _) _).alloc (by rw [World.size_alloc]; omega) _
  rw [World.size_alloc] at b2
  go_enter Tryd.func51, Tryd.ntmps51
  go_wp2
  go_ret
  exact ⟨rfl, b1, b2, bb⟩
set_option maxRecDepth 100000 in
set_option maxHeartbeats 2000000 in
theorem chain_stops (n : Nat) (hn : 2 ≤ n) {B h A : Nat} {cv fv rv : Value} {nbs : List Nat} {pv : Nat → Value} (hb rb r : Nat) (hr : r ≤ nbs.length) (hsm : nbs.length < 1000000) (W : World) (H : HK W B h A cv fv rv nbs pv) (bh : Box W hb 24 #[.pointer (some ⟨h, 0, none⟩)]) (br : Box W rb 3 #[.int .i64 (r : Int)]) (hnr : ¬ HFoot h A cv fv rv nbs rb) :
    TabStops n Tryd.prog 68 #[.pointer (some ⟨hb, 0, none⟩), .pointer (some ⟨rb, 0, none⟩)] (fun x : Nat × Nat => #[.int .i64 (x.1 : Int), .pointer (some ⟨x.2, 0, none⟩)]) (fun k => k = rb) (fun k => k = hb ∨ HFoot h A cv fv rv nbs k) (fun xs => xs = chL nbs r) (fun pre => pre <+: chL nbs r) (fun _ => True) W := by
  intro l J Jx hJ hJx hY h0
  have hn1 : 1 ≤ n := by omega
  have hn2 : 1 ≤ n - 1 := by omega
  have hne : rb ≠ hb := br.lab.ne bh.lab (by decide)
  have c0 : W.cell? ⟨hb, 0, none⟩ = some (.pointer (some ⟨h, 0, none⟩)) := bh.at_ 0
  have d0 : W.cell? ⟨h, 0, none⟩ = some (.pointer (some ⟨A, 0, none⟩)) := H.hp.hb.at_ 0
  have HC := Veil.mk (count_any B A cv fv rv _ W H.hp.ar)
  have HST := Veil.mk (And.intro H (And.intro bh br))
  have HJJ := Veil.mk (And.intro hJ (And.intro hJx h0))
  have HY := Veil.mk hY
  have hrl : (r : Int) ≤ (nbs.length : Int) := by omega
  have hbl := bh.lt
  have hrbl := br.lt
  have HLT := Veil.mk (fun k (hk : HFoot h A cv fv rv nbs k) => H.lt hk)
  clear H bh br hJ hJx h0 hY
  refine callsIn_of_wp Tryd.func68 rfl trivial ?_ rfl
  simp only [Tryd.ntmps68, List.size_toArray, List.length_cons, List.length_nil, Nat.reduceAdd, Nat.reduceSub, Array.replicate_succ, Array.replicate_zero, List.push_toArray, List.append_toArray, List.nil_append, List.cons_append]
  gi_wp2_with (first | (refine ⟨trivial, ?_⟩; gi_at_call 14; refine (callsIn_wide.2 HC.out).mono ?_; rintro e w1 ⟨rfl, h1⟩; subst w1))
  clear c0 d0
  gi_loopw [12] (fun i wr => ∃ k q : Nat, r = k + q ∧ i = .int .i64 (k : Int) ∧ J ((chL nbs r).take k) wr ∧ HK wr B h A cv fv rv nbs pv ∧ Box wr hb 24 #[.pointer (some ⟨h, 0, none⟩)] ∧ Box wr rb 3 #[.int .i64 (q : Int)] ∧ W.heap.size ≤ wr.heap.size) (fun i _ => nbs.length - (intOf i).toNat)
  case atStart => exact ⟨0, r, by omega, rfl, HJJ.out.2.2, HST.out.1, HST.out.2.1, HST.out.2.2, Nat.le_refl _⟩
  case round =>
    obtain ⟨k, q, hkq, rfl, hJk, hK, bh, br, hsz⟩ := hrel
    have hk0 : (0 : Int) ≤ (k : Int) := by omega
    by_cases hlt : k < nbs.length
    · have hlt' : (k : Int) < (nbs.length : Int) := by omega
      have c0 : wr.cell? ⟨hb, 0, none⟩ = some (.pointer (some ⟨h, 0, none⟩)) := bh.at_ 0
      have r0 : wr.cell? ⟨rb, 0, none⟩ = some (.int .i64 (q : Int)) := br.at_ 0
      have r0f := br.free 0
      cases q with
      | zero =>
        have HO := Veil.mk (obj_none hK.hp 0 (get_zero _))
        have hkr : k = r := by omega
        clear hkq
        subst hkr
        replace r0 : wr.cell? ⟨rb, 0, none⟩ = some (.int .i64 0) := r0
        have HJ2 := Veil.mk hJk
        clear hK bh br hJk
        gi_wp2_with (first | (refine ⟨trivial, ?_⟩; gi_at_call 15; refine (callsIn_wide.2 HO.out).mono ?_; rintro e w1 ⟨rfl, h1⟩; subst w1))
        refine ⟨fun _ h => (by cases h), ?_⟩
        gi_wp2
        refine bodyPost_ret (results_none rfl _ _ _) rfl ?_
        exact ⟨⟨_, rfl⟩, trivial, .inl ⟨_, rfl, by have := HJ2.out; rwa [List.take_of_length_le (by rw [chL_len]; exact Nat.le_refl _)] at this⟩⟩
      | succ q =>
        have hqn : q < nbs.length := by omega
        obtain ⟨nb, hnb⟩ : ∃ nb, nbs[q]?.getD 0 = nb := ⟨_, rfl⟩
        have hnb2 : nbs[q]? = some nb := by rw [List.getElem?_eq_getElem hqn] at hnb ⊢; exact congrArg some hnb
        have hg := get_in (fs := []) (c := nbs.length) (rs := []) q hqn
        rw [hnb] at hg
        have HO := Veil.mk (obj_some hK.hp ((q : Int) + 1) nb hg)
        have hps := take_snoc (chL nbs r) k (q + 1, nbs[q]?.getD 0) (chL_get nbs r k q (by omega))
        rw [hnb] at hps
        have hpre : (chL nbs r).take k ++ [(q + 1, nb)] <+: chL nbs r := by rw [← hps]; exact List.take_prefix _ _
        obtain ⟨fn, tmps, assign, body, hy, hR⟩ := HY.out ((chL nbs r).take k) (q + 1, nb) wr hJk hpre
        rw [show (((q + 1, nb) : Nat × Nat).1 : Int) = (q : Int) + 1 by show ((q + 1 : Nat) : Int) = _; omega] at hy
        rw [show ((q + 1 : Nat) : Int) = (q : Int) + 1 by omega] at r0
        have HK2 := Veil.mk (And.intro hK (And.intro bh (And.intro br hnb2)))
        have HPS := Veil.mk (And.intro hps hpre)
        have HKQ := Veil.mk hkq
        clear hK bh br hJk hps hpre hg hnb hnb2 hkq
        gi_wp2_with (first | (refine ⟨trivial, ?_⟩; gi_at_call 15; refine (callsIn_wide.2 HO.out).mono ?_; rintro e w1 ⟨rfl, h1⟩; subst w1; refine Hid.out ?_))
        refine Lib.hid ?_
        gi_wp2
        refine hR.mono ?_
        rintro e W3 (⟨rfl, hJ3, ht3⟩ | ⟨rfl, hJx3, ht3⟩)
        · obtain ⟨hK, bh, br, hnb⟩ := HK2.out
          have hK3 := hK.touch ht3 (fun j hj h => h.2.2 (.inr hj))
          have bh3 := bh.touch ht3 (fun h => h.2.2 (.inl rfl))
          have br3 := br.touch ht3 (fun h => h.2.1 rfl)
          have tp : Touch (fun j => j = rb) W3 (W3.setCell ⟨rb, 0, none⟩ (.int .i64 (q : Int))) := Touch.put (S := fun j => j = rb) rfl _ _
          have o1 : W3.cell? ⟨nb, 1, none⟩ = some (.int .i64 (q : Int)) := (hK3.ob q nb hnb).at_ 1
          have r3 : W3.cell? ⟨rb, 0, none⟩ = some (.int .i64 ((q + 1 : Nat) : Int)) := br3.at_ 0
          have r3f := br3.free 0
          have HN : Veil (J ((chL nbs r).take (k + 1)) (W3.setCell ⟨rb, 0, none⟩ (.int .i64 (q : Int))) ∧ HK (W3.setCell ⟨rb, 0, none⟩ (.int .i64 (q : Int))) B h A cv fv rv nbs pv ∧ Box (W3.setCell ⟨rb, 0, none⟩ (.int .i64 (q : Int))) hb 24 #[.pointer (some ⟨h, 0, none⟩)] ∧ Box (W3.setCell ⟨rb, 0, none⟩ (.int .i64 (q : Int))) rb 3 #[.int .i64 (q : Int)] ∧ W.heap.size ≤ (W3.setCell ⟨rb, 0, none⟩ (.int .i64 (q : Int))).heap.size) :=
            ⟨by rw [HPS.out.1]; exact HJJ.out.1 _ _ _ hJ3 (tp.mono (fun j hj => .inl hj)), hK3.touch tp (fun j hj e => hnr (e ▸ hj)), bh3.touch tp (fun e => hne e.symm), br3.put 0 _, Nat.le_trans hsz (Nat.le_trans ht3.size tp.size)⟩
          clear hK bh br hnb hK3 bh3 br3 tp hJ3 ht3 c0 r0 r0f hR hy
          gi_wp2
          go_roundw
          case rel => exact ⟨k + 1, q, by have := HKQ.out; omega, by go_num, HN.out⟩
          case measure => simp [intOf]; omega
        · gi_wp2
          refine bodyPost_ret (results_none rfl _ _ _) rfl ?_
          exact ⟨⟨_, rfl⟩, trivial, .inr ⟨_, HPS.out.2, hJx3⟩⟩
    · have hq0 : q = 0 := by omega
      have hkr : k = r := by omega
      have hlt' : ¬ (k : Int) < (nbs.length : Int) := by omega
      have HJ2 := Veil.mk hJk
      have HKR := Veil.mk hkr
      clear hK bh br hJk hkq hq0 hkr
      gi_wp2
      refine bodyPost_end (results_none rfl _ _ _) rfl ?_
      exact ⟨⟨_, rfl⟩, .inl (by have := HJ2.out; rwa [HKR.out, List.take_of_length_le (by rw [chL_len]; exact Nat.le_refl _)] at this)⟩
end Go.Proofs.YtbeapojjbgkalaaDoor
