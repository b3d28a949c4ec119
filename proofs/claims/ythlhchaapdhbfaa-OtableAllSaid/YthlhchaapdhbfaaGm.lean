/- The law's pair: play at Get. -/
import Derived.Test.YthlhchaapdhbfaaGk
import Derived.Test.YthlhchaapdhbfaaIk
namespace Go.Proofs.Ythlhchaapdhbfaa
open Go Go.RowKit

theorem len14 {α : Type} {us : List α} (h : us.length = 14) : ∃ a0 a1 a2 a3 a4 a5 a6 a7 a8 a9 a10 a11 a12 a13, us = [a0, a1, a2, a3, a4, a5, a6, a7, a8, a9, a10, a11, a12, a13] := by
  match us, h with
  | [a0, a1, a2, a3, a4, a5, a6, a7, a8, a9, a10, a11, a12, a13], _ => exact ⟨a0, a1, a2, a3, a4, a5, a6, a7, a8, a9, a10, a11, a12, a13, rfl⟩
def getK (gb t : Nat) (x gv : Vt) (gf : Int) (ok : Bool) : List Kd :=
  [.val (· = .pointer (some ⟨gb, 0, none⟩)), .val (· = .pointer (some ⟨gb, 0, none⟩)), .val (· = .pointer (some ⟨gb, 0, none⟩)), .val (· = .pointer (some ⟨t, 0, none⟩)), .val (· = valV x), .val (· = .tuple #[valV gv, .int .i64 gf, .bool ok]), .val (· = .tuple #[valV gv, .int .i64 gf, .bool ok]), .val (· = valV gv), .val (· = .int .i64 gf), .val (· = .bool ok),
   .box 82 #[.int .i64 0, .int .i64 0, .string ⟨#[]⟩] 11 7, .sto 10 7, .val (· = .int .i64 gf), .val (· = .bool ok)]
theorem getK_fit (gb t : Nat) (x gv : Vt) (gf : Int) (ok : Bool) : Fit (getK gb t x gv gf ok) := fit_of rfl
abbrev getS : List (Option Nat) := [some 70, some 71, some 72, some 73, some 74, some 75, some 69, some 76, some 77, some 78, some 7, none, some 8, some 9]
def GetQ (W : World) (gv : Vt) (gf : Int) (ok : Bool) (s7 s8 s9 : Value) (w : World) : Prop := ∃ g7, s7 = .pointer (some ⟨g7, 0, none⟩) ∧ s8 = .int .i64 gf ∧ s9 = .bool ok ∧ Box w g7 82 #[.int .i64 gv.1, .int .i64 gv.2.1, .string gv.2.2] ∧ Below W.heap.size W w
/-- What Get answers, and Find beside it. -/
def GetSay (l : List Re) (k : Vt) (gv : Vt) (gf : Int) (ok : Bool) (r0 : Int) : Prop := (ok = true ∧ ∃ (j : Nat) (y : Re), l[j]? = some y ∧ ReIs y k ∧ y.val = gv ∧ y.fl = gf ∧ r0 = (j : Int)) ∨ (ok = false ∧ gv = (0, 0, ⟨#[]⟩) ∧ gf = 0 ∧ r0 = -1 ∧ ∀ x ∈ l, ¬ ReIs x k)
theorem get_tf2 {B t : Nat} {F : Nat → Prop} {O : Ob} {w : World} (h : Tf B t F O w) (k : Vt) (hk : k.2.2.size ≤ 1000) :
    Calls Try.prog 46 #[.pointer (some ⟨t, 0, none⟩), valV k] w fun e w' => ((∃ x ∈ O.1, x.1 = keyT k ∧ e = .returned (.tuple #[valV x.2.1, .int .i64 x.2.2, .bool true])) ∨ (¬ hasK O.1 (keyT k) ∧ e = .returned (.tuple #[zeroV, .int .i64 0, .bool false]))) ∧ Below w.heap.size w w' := by
  obtain ⟨T, vs, vb, vc, hT, hG, ho, -⟩ := h
  refine (get_any B t T vs vb vc hG.inv k hk w hT).mono ?_
  rintro e w' ⟨hr, hb⟩
  rw [ho] at hr
  exact ⟨hr, hb⟩
theorem get_say {w : World} {B gb t gm : Nat} {F : Nat → Prop} {O : Ob} {l : List Re} {cl : Int} {vl vc vd : Value} {cs : List Cu} (h : BS w B gb t gm F O l cl vl vc vd cs) (k : Vt) (hk : k.2.2.size ≤ 1000) :
    ∃ (gv : Vt) (gf : Int) (ok : Bool) (r0 : Int), GetSay l (keyT k) gv gf ok r0 ∧ ∀ w', Below w.heap.size w w' → Calls Try.prog 46 #[.pointer (some ⟨t, 0, none⟩), valV k] w' fun e w2 => e = .returned (.tuple #[valV gv, .int .i64 gf, .bool ok]) ∧ Below w'.heap.size w' w2 := by
  by_cases hx : ∃ (j : Nat) (y : Re), l[j]? = some y ∧ ReIs y (keyT k)
  · obtain ⟨j, y, hj, hy⟩ := hx
    refine ⟨y.val, y.fl, true, j, .inl ⟨rfl, j, y, hj, hy, rfl, rfl, rfl⟩, fun w' hb => (get_tf2 (h.tf.on hb) k hk).mono ?_⟩
    rintro e w2 ⟨⟨x, hx, hxk, rfl⟩ | ⟨hn, rfl⟩, hb2⟩
    · rw [h.live] at hx
      obtain ⟨z, hz, rfl⟩ := List.mem_map.1 hx
      obtain ⟨hz1, hz2⟩ := List.mem_filter.1 hz
      obtain ⟨i, hi⟩ := List.mem_iff_getElem?.1 hz1
      have := h.uq i j z y hi hj (by simpa using hz2) hy.1 (by rw [hy.2]; exact hxk)
      subst this
      rw [hi] at hj
      cases hj
      exact ⟨rfl, hb2⟩
    · exact (hn (by rw [h.live]; exact (hasK_liveR l _).2 ⟨y, List.mem_of_getElem? hj, hy⟩)).elim
  · have hno : ∀ x ∈ l, ¬ ReIs x (keyT k) := fun x hm hi => by
      obtain ⟨j, hj⟩ := List.mem_iff_getElem?.1 hm
      exact hx ⟨j, x, hj, hi⟩
    refine ⟨(0, 0, ⟨#[]⟩), 0, false, -1, .inr ⟨rfl, rfl, rfl, rfl, hno⟩, fun w' hb => (get_tf2 (h.tf.on hb) k hk).mono ?_⟩
    rintro e w2 ⟨⟨x, hx2, hxk, rfl⟩ | ⟨hn, rfl⟩, hb2⟩
    · rw [h.live] at hx2
      obtain ⟨z, hz, hi⟩ := (hasK_liveR l (keyT k)).1 ⟨x, hx2, hxk⟩
      exact (hno z hz hi).elim
    · exact ⟨rfl, hb2⟩
theorem find_say {l : List Re} {k gv : Vt} {gf q r0 : Int} {ok : Bool} (hu : UqR l) (hg : GetSay l k gv gf ok r0) (hq : (∃ (j : Nat) (x : Re), q = (j : Int) ∧ l[j]? = some x ∧ ReIs x k) ∨ (q = -1 ∧ ∀ x ∈ l, ¬ ReIs x k)) : q = r0 := by
  rcases hg with ⟨_, j, y, hj, hy, _, _, rfl⟩ | ⟨_, _, _, rfl, hno⟩
  · rcases hq with ⟨i, x, rfl, hi, hx⟩ | ⟨_, hn⟩
    · rw [hu i j x y hi hj hx.1 hy.1 (by rw [hx.2, hy.2])]
    · exact (hn y (List.mem_of_getElem? hj) hy).elim
  · rcases hq with ⟨i, x, _, hi, hx⟩ | ⟨h, _⟩
    · exact (hno x (List.mem_of_getElem? hi) hx).elim
    · exact h
set_option maxHeartbeats 1000000 in
set_option maxRecDepth 100000 in
theorem play_get (B gb t gm : Nat) (F : Nat → Prop) (O : Ob) (l : List Re) (cl : Int) (vl vc vd : Value) (cs : List Cu) (hl : l.length < 20000) (hcs : cs.length < 900) (_ : 0 ≤ cl) (_ : cl < 10000) (c : CallD) (hkind : (c.kind.tmod 7 + 7) % 7 = 2) (h7 : 0 < c.kind.tmod 7 + 7) (h8 : c.kind.tmod 7 < 7) (hlen : c.len ≤ 100) (hlt : ∀ u ∈ c.l, u < 65536) (w : World) (hnum : W.Nums .u16 w c.a c.len c.l) (h : BS w B gb t gm F O l cl vl vc vd cs) :
    Calls Try.prog 35 #[.pointer (some ⟨gb, 0, none⟩), callV c] w (PlayQ B gb t gm l cl vc vd cs w) := by
  have hkt : (c.kind.tmod 7 + 7).tmod 7 = 2 := by rw [Int.tmod_eq_emod_of_nonneg (by omega)]; exact hkind
  obtain ⟨m, hm, hm2⟩ := mask 16 (by omega) c.val
  rw [show ((2 ^ 16 - 1 : Nat) : Int) = 65535 from rfl] at hm
  obtain ⟨q, hq, hq2⟩ := mask 4 (by omega) c.n
  rw [show ((2 ^ 4 - 1 : Nat) : Int) = 15 from rfl] at hq
  obtain ⟨W, hW⟩ : ∃ W, W = w.alloc (.cells (callC c) 79) := ⟨_, rfl⟩
  have hBW : Below w.heap.size w W := by rw [hW]; exact (Below.refl _ _).alloc (Nat.le_refl _) _
  obtain ⟨g3, hg3⟩ : ∃ n, w.heap.size = n := ⟨_, rfl⟩
  have b3 : Box W g3 79 (callC c) := by rw [hW, ← hg3]; exact Box.new w _ _
  have hS := h.on hBW
  have HW := Veil.mk (And.intro hW hg3)
  have HS0 := Veil.mk hS
  have HC3 := Veil.mk b3
  have HM := Veil.mk hm
  have HQ := Veil.mk hq
  have HKT := Veil.mk (And.intro hkt hkind)
  have HNW := Veil.mk (hnum.on hBW)
  have HV : Veil (∀ w', Below W.heap.size W w' → Calls Try.prog 44 #[seedV c.kk c.kn c.a c.len c.cap] w' (SeedPost w')) := ⟨fun w' hb => seed_val c.kk c.kn c.a c.len c.cap c.l hlen hlt w' (HNW.out.on hb)⟩
  have hBs : B ≤ w.heap.size := h.tf.le
  have HBW := Veil.mk hBW
  clear hW hg3 hS b3 hm hq hkt hkind hBW hnum hlt h
  go_enter Try.func35, Try.ntmps35
  go_upto_region 1 with (fail)
  rw [← HW.out.1, HW.out.2]
  clear HW
  go_cut [5, 6] (fun s5 s6 wx => PlayP W (m : Int) s5 s6 wx)
  case first =>
    as_aux_lemma =>
      refine wp_region_gen (playK g3 (seedV c.kk c.kn c.a c.len c.cap) c.val (m : Int)) playS (List.replicate 11 undef) (by kernel_rfl) rfl rfl (by simp only [puts, setAll, List.replicate, List.set_cons_zero, List.set_cons_succ, List.setIfInBounds_toArray]) ?_ (by kernel_rfl) ?_
      · refine Steps.cons rfl (fun bb aa w' hbs hb0 hbp hI K hK => ?_) ?_
        · obtain ⟨us, hus, rfl, hI⟩ := hI
          obtain ⟨u0, u1, u2, u3, u4, u5, u6, u7, u8, u9, u10, rfl⟩ := len11 hus
          have hch := hI.below
          skip
          have HI := Veil.mk hI
          clear hI
          simp only [puts, setAll, List.setIfInBounds_toArray, List.set_cons_zero, List.set_cons_succ]
          go_simp
          exact hK _ _ (gen_val HI.out hus hbs 0 _ _ (by show 0 < 11; decide) (playK_fit _ _ _ _) rfl hb0 rfl (Below.refl _ _) (by simp only [puts, setAll, List.set_cons_zero, List.set_cons_succ, List.setIfInBounds_toArray]))
        refine Steps.cons rfl (fun bb aa w' hbs hb0 hbp hI K hK => ?_) ?_
        · obtain ⟨us, hus, rfl, hI⟩ := hI
          obtain ⟨u0, u1, u2, u3, u4, u5, u6, u7, u8, u9, u10, rfl⟩ := len11 hus
          have e0 : u0 = .pointer (some ⟨g3, 1, none⟩) := hI.val 0 _ rfl (gen_after 0 (by kernel_rfl) hbp)
          subst e0
          have hch := hI.below
          have q := HC3.out.on hch HC3.out.lt; have c1 : w'.cell? ⟨g3, 1, none⟩ = some (.int .i64 c.kk) := q.at_ 1; have c2 : w'.cell? ⟨g3, 2, none⟩ = some (.int .i64 c.kn) := q.at_ 2; have c3 : w'.cell? ⟨g3, 3, none⟩ = some (.slice c.a c.len c.cap) := q.at_ 3; clear q
          have HI := Veil.mk hI
          clear hI
          simp only [puts, setAll, List.setIfInBounds_toArray, List.set_cons_zero, List.set_cons_succ]
          go_simp
          exact hK _ _ (gen_val HI.out hus hbs 1 _ _ (by show 1 < 11; decide) (playK_fit _ _ _ _) rfl hb0 rfl (Below.refl _ _) (by simp only [puts, setAll, List.set_cons_zero, List.set_cons_succ, List.setIfInBounds_toArray]))
        refine Steps.cons rfl (fun bb aa w' hbs hb0 hbp hI K hK => ?_) ?_
        · obtain ⟨us, hus, rfl, hI⟩ := hI
          obtain ⟨u0, u1, u2, u3, u4, u5, u6, u7, u8, u9, u10, rfl⟩ := len11 hus
          have e1 : u1 = (seedV c.kk c.kn c.a c.len c.cap) := hI.val 1 _ rfl (gen_after 1 (by kernel_rfl) hbp)
          subst e1
          have hch := hI.below
          have HI := Veil.mk hI
          clear hI
          simp only [puts, setAll, List.setIfInBounds_toArray, List.set_cons_zero, List.set_cons_succ]
          go_simp
          refine (HV.out w' hch).mono ?_
          intro e w2 hp
          obtain ⟨k1, n1, s1, wv1, rfl, hb2⟩ := hp
          go_simp
          exact hK _ _ (gen_val HI.out hus hbs 2 _ _ (by show 2 < 11; decide) (playK_fit _ _ _ _) rfl hb0 ⟨(k1, n1, s1), wv1, rfl⟩ hb2 (by simp only [puts, setAll, List.set_cons_zero, List.set_cons_succ, List.setIfInBounds_toArray]))
        refine Steps.cons rfl (fun bb aa w' hbs hb0 hbp hI K hK => ?_) ?_
        · obtain ⟨us, hus, rfl, hI⟩ := hI
          obtain ⟨u0, u1, u2, u3, u4, u5, u6, u7, u8, u9, u10, rfl⟩ := len11 hus
          have hch := hI.below
          skip
          have HI := Veil.mk hI
          clear hI
          simp only [puts, setAll, List.setIfInBounds_toArray, List.set_cons_zero, List.set_cons_succ]
          go_simp
          exact hK _ _ (gen_val HI.out hus hbs 3 _ _ (by show 3 < 11; decide) (playK_fit _ _ _ _) rfl hb0 rfl (Below.refl _ _) (by simp only [puts, setAll, List.set_cons_zero, List.set_cons_succ, List.setIfInBounds_toArray]))
        refine Steps.cons rfl (fun bb aa w' hbs hb0 hbp hI K hK => ?_) ?_
        · obtain ⟨us, hus, rfl, hI⟩ := hI
          obtain ⟨u0, u1, u2, u3, u4, u5, u6, u7, u8, u9, u10, rfl⟩ := len11 hus
          have e3 : u3 = .pointer (some ⟨g3, 4, none⟩) := hI.val 3 _ rfl (gen_after 3 (by kernel_rfl) hbp)
          subst e3
          have hch := hI.below
          have q := HC3.out.on hch HC3.out.lt; have c4 : w'.cell? ⟨g3, 4, none⟩ = some (.int .i64 c.val) := q.at_ 4; clear q
          have HI := Veil.mk hI
          clear hI
          simp only [puts, setAll, List.setIfInBounds_toArray, List.set_cons_zero, List.set_cons_succ]
          go_simp
          exact hK _ _ (gen_val HI.out hus hbs 4 _ _ (by show 4 < 11; decide) (playK_fit _ _ _ _) rfl hb0 rfl (Below.refl _ _) (by simp only [puts, setAll, List.set_cons_zero, List.set_cons_succ, List.setIfInBounds_toArray]))
        refine Steps.cons rfl (fun bb aa w' hbs hb0 hbp hI K hK => ?_) ?_
        · obtain ⟨us, hus, rfl, hI⟩ := hI
          obtain ⟨u0, u1, u2, u3, u4, u5, u6, u7, u8, u9, u10, rfl⟩ := len11 hus
          have e4 : u4 = .int .i64 c.val := hI.val 4 _ rfl (gen_after 4 (by kernel_rfl) hbp)
          subst e4
          have hch := hI.below
          have hm := HM.out
          have HI := Veil.mk hI
          clear hI
          simp only [puts, setAll, List.setIfInBounds_toArray, List.set_cons_zero, List.set_cons_succ]
          go_simp
          exact hK _ _ (gen_val HI.out hus hbs 5 _ _ (by show 5 < 11; decide) (playK_fit _ _ _ _) rfl hb0 rfl (Below.refl _ _) (by simp only [puts, setAll, List.set_cons_zero, List.set_cons_succ, List.setIfInBounds_toArray]))
        refine Steps.cons rfl (fun bb aa w' hbs hb0 hbp hI K hK => ?_) ?_
        · obtain ⟨us, hus, rfl, hI⟩ := hI
          obtain ⟨u0, u1, u2, u3, u4, u5, u6, u7, u8, u9, u10, rfl⟩ := len11 hus
          have e5 : u5 = .int .i64 (m : Int) := hI.val 5 _ rfl (gen_after 5 (by kernel_rfl) hbp)
          subst e5
          have hch := hI.below
          skip
          have HI := Veil.mk hI
          clear hI
          simp only [puts, setAll, List.setIfInBounds_toArray, List.set_cons_zero, List.set_cons_succ]
          go_simp
          exact hK _ _ (gen_val HI.out hus hbs 6 _ _ (by show 6 < 11; decide) (playK_fit _ _ _ _) rfl hb0 rfl (Below.refl _ _) (by simp only [puts, setAll, List.set_cons_zero, List.set_cons_succ, List.setIfInBounds_toArray]))
        refine Steps.cons rfl (fun bb aa w' hbs hb0 hbp hI K hK => ?_) ?_
        · obtain ⟨us, hus, rfl, hI⟩ := hI
          obtain ⟨u0, u1, u2, u3, u4, u5, u6, u7, u8, u9, u10, rfl⟩ := len11 hus
          have hch := hI.below
          have HI := Veil.mk hI
          clear hI
          simp only [puts, setAll, List.setIfInBounds_toArray, List.set_cons_zero, List.set_cons_succ]
          go_simp
          exact hK _ _ (gen_box HI.out hus hbs 7 _ _ _ _ (by show 7 < 11; decide) (playK_fit _ _ _ _) rfl hb0 (by simp only [puts, setAll, List.set_cons_zero, List.set_cons_succ, List.setIfInBounds_toArray]))
        refine Steps.cons rfl (fun bb aa w' hbs hb0 hbp hI K hK => ?_) ?_
        · obtain ⟨us, hus, rfl, hI⟩ := hI
          obtain ⟨u0, u1, u2, u3, u4, u5, u6, u7, u8, u9, u10, rfl⟩ := len11 hus
          have hch := hI.below
          have HI := Veil.mk hI
          clear hI
          simp only [puts, setAll, List.setIfInBounds_toArray, List.set_cons_zero, List.set_cons_succ]
          go_simp
          exact hK _ _ (gen_box HI.out hus hbs 8 _ _ _ _ (by show 8 < 11; decide) (playK_fit _ _ _ _) rfl hb0 (by simp only [puts, setAll, List.set_cons_zero, List.set_cons_succ, List.setIfInBounds_toArray]))
        refine Steps.cons rfl (fun bb aa w' hbs hb0 hbp hI K hK => ?_) ?_
        · obtain ⟨us, hus, rfl, hI⟩ := hI
          obtain ⟨u0, u1, u2, u3, u4, u5, u6, u7, u8, u9, u10, rfl⟩ := len11 hus
          have hch := hI.below
          have hq1 := gen_after 7 (by kernel_rfl) hbp
          have hq2 := gen_after 2 (by kernel_rfl) hbp
          have hq := gen_sto hI hus hbs 9 7 2 _ _ (by show 9 < 11; decide) (playK_fit _ _ _ _) rfl rfl hb0 hq1 hq2
          have hs : ∃ x : Vt, WV x.1 x.2.1 x.2.2 ∧ u2 = valV x := hI.val 2 _ rfl hq2
          clear hI
          simp only [puts, setAll, List.setIfInBounds_toArray, List.set_cons_zero, List.set_cons_succ]
          obtain ⟨g, hg, hx, hJ⟩ := hq
          have e7 : u7 = .pointer (some ⟨g, 0, none⟩) := hg
          subst e7
          clear hg
          obtain ⟨⟨k1, n1, s1⟩, wv1, rfl⟩ := hs
          have x0 : w'.cell? ⟨g, 0, none⟩ = some (.int .i64 0) := hx.at_ 0
          have x1 : w'.cell? ⟨g, 1, none⟩ = some (.int .i64 0) := hx.at_ 1
          have x2 : w'.cell? ⟨g, 2, none⟩ = some (.string ⟨#[]⟩) := hx.at_ 2
          have f0 := hx.free 0
          have f1 := hx.free 1
          have f2 := hx.free 2
          have HJ := Veil.mk hJ
          have HX := Veil.mk hx
          clear hJ hx
          go_simp
          exact hK _ _ (HJ.out _ _ _ _ (((HX.out.put 0 _).put 1 _).put 2 _) (touch3 _ _ _ _ _) (by simp only [puts, setAll, List.set_cons_zero, List.set_cons_succ, List.setIfInBounds_toArray]))
        refine Steps.cons rfl (fun bb aa w' hbs hb0 hbp hI K hK => ?_) ?_
        · obtain ⟨us, hus, rfl, hI⟩ := hI
          obtain ⟨u0, u1, u2, u3, u4, u5, u6, u7, u8, u9, u10, rfl⟩ := len11 hus
          have hch := hI.below
          have hq1 := gen_after 8 (by kernel_rfl) hbp
          have hq2 := gen_after 6 (by kernel_rfl) hbp
          have hq := gen_sto hI hus hbs 10 8 6 _ _ (by show 10 < 11; decide) (playK_fit _ _ _ _) rfl rfl hb0 hq1 hq2
          have hs : u6 = .agg #[.int .i64 3, .int .i64 (m : Int), .string ⟨#[]⟩] := hI.val 6 _ rfl hq2
          clear hI
          simp only [puts, setAll, List.setIfInBounds_toArray, List.set_cons_zero, List.set_cons_succ]
          obtain ⟨g, hg, hx, hJ⟩ := hq
          have e8 : u8 = .pointer (some ⟨g, 0, none⟩) := hg
          subst e8
          clear hg
          subst hs
          have x0 : w'.cell? ⟨g, 0, none⟩ = some (.int .i64 0) := hx.at_ 0
          have x1 : w'.cell? ⟨g, 1, none⟩ = some (.int .i64 0) := hx.at_ 1
          have x2 : w'.cell? ⟨g, 2, none⟩ = some (.string ⟨#[]⟩) := hx.at_ 2
          have f0 := hx.free 0
          have f1 := hx.free 1
          have f2 := hx.free 2
          have HJ := Veil.mk hJ
          have HX := Veil.mk hx
          clear hJ hx
          go_simp
          exact hK _ _ (HJ.out _ _ _ _ (((HX.out.put 0 _).put 1 _).put 2 _) (touch3 _ _ _ _ _) (by simp only [puts, setAll, List.set_cons_zero, List.set_cons_succ, List.setIfInBounds_toArray]))
        exact Steps.nil
      · intro us w5 hus d hd hJ
        obtain ⟨u0, u1, u2, u3, u4, u5, u6, u7, u8, u9, u10, rfl⟩ := len11 hus
        have p2 : ∃ x : Vt, WV x.1 x.2.1 x.2.2 ∧ u2 = valV x := hJ.val 2 _ rfl (hd 2 (by show 2 < 11; decide))
        have p6 : u6 = .agg #[.int .i64 3, .int .i64 (m : Int), .string ⟨#[]⟩] := hJ.val 6 _ rfl (hd 6 (by show 6 < 11; decide))
        have b7 := hJ.box 7 _ _ _ _ rfl (hd 7 (by show 7 < 11; decide))
        have b8 := hJ.box 8 _ _ _ _ rfl (hd 8 (by show 8 < 11; decide))
        rw [hd 9 (by show 9 < 11; decide)] at b7
        rw [hd 10 (by show 10 < 11; decide)] at b8
        have hbl := hJ.below
        clear hJ hd
        simp only [puts, setAll, List.setIfInBounds_toArray, List.set_cons_zero, List.set_cons_succ]
        have hP : PlayP W (m : Int) u7 u8 w5 := by
          obtain ⟨x, wx, e2⟩ := p2
          obtain ⟨ga, e7, -, x7⟩ := b7
          obtain ⟨gz, e8, -, x8⟩ := b8
          have f2 : uget [u0, u1, u2, u3, u4, u5, u6, u7, u8, u9, u10] 2 = valV x := e2
          have f6 : uget [u0, u1, u2, u3, u4, u5, u6, u7, u8, u9, u10] 6 = .agg #[.int .i64 3, .int .i64 (m : Int), .string ⟨#[]⟩] := p6
          rw [f2] at x7
          rw [f6] at x8
          exact ⟨ga, gz, x, e7, e8, wx, x7, x8, hbl⟩
        have HP := Veil.mk hP
        clear hP p2 p6 b7 b8 hbl
        go_wp2
        go_meet
        exact HP.out
  case rest =>
  obtain ⟨g5, g6, ⟨xk, xn, xs⟩, rfl, rfl, wx, b5, b6, hbw⟩ := hcut
  replace b5 : Box wc g5 82 #[.int .i64 xk, .int .i64 xn, .string xs] := b5
  replace b6 : Box wc g6 82 #[.int .i64 3, .int .i64 (m : Int), .string ⟨#[]⟩] := b6
  have HZ := Veil.mk (show xs.size ≤ 1000 from Nat.le_trans wx.size (by decide))
  have hS := HS0.out.on hbw
  have hc3 := HC3.out.on hbw HC3.out.lt
  have hBc : Below w.heap.size w wc := HBW.out.trans (hbw.mono HBW.out.size)
  clear wx HV HNW HS0 HC3 HM hbw
  have HS := Veil.mk hS
  have H5 := Veil.mk b5
  have H6 := Veil.mk b6
  have H3 := Veil.mk hc3
  have HBc := Veil.mk hBc
  have c30 : wc.cell? ⟨g3, 0, none⟩ = some (.int .i64 c.kind) := hc3.at_ 0
  have hkt := HKT.out.1
  have hkind := HKT.out.2
  clear hS b5 b6 hc3 hBc HKT
  go_upto_region 3 with (fail)
  clear hkt hkind c30
  obtain ⟨gv, gf, ok, r0, hsay, hget⟩ := get_say HS.out (xk, xn, xs) HZ.out
  have HSay := Veil.mk hsay
  have HGet := Veil.mk hget
  clear hsay hget
  go_upto_region 10 with (fail)
  go_cut [7, 8, 9] (fun s7 s8 s9 wx => GetQ wc gv gf ok s7 s8 s9 wx)
  case first =>
    as_aux_lemma =>
      have hbD : Below wc.heap.size wc wc.drew := (Below.refl _ _).drew
      have x0 : wc.cell? ⟨gb, 0, none⟩ = some (.pointer (some ⟨t, 0, none⟩)) := HS.out.box.at_ 0
      have x1 : wc.cell? ⟨g5, 0, none⟩ = some (.int .i64 xk) := H5.out.at_ 0
      have x2 : wc.cell? ⟨g5, 1, none⟩ = some (.int .i64 xn) := H5.out.at_ 1
      have x3 : wc.cell? ⟨g5, 2, none⟩ = some (.string xs) := H5.out.at_ 2
      have nn0 := World.new_ne wc _ x0
      have nn1 := World.new_ne wc _ x1
      have nn2 := World.new_ne wc _ x2
      have nn3 := World.new_ne wc _ x3
      have lm := HS.out.box.lt
      have l5 := H5.out.lt
      have HBA : Veil (Below wc.heap.size wc (wc.alloc (.cells #[.int .i64 0, .int .i64 0, .string ⟨#[]⟩] 82)).drew) := ⟨((Below.refl wc.heap.size wc).alloc (Nat.le_refl _) _).drew⟩
      have BZ : Veil (Box (wc.alloc (.cells #[.int .i64 0, .int .i64 0, .string ⟨#[]⟩] 82)).drew wc.heap.size 82 #[.int .i64 0, .int .i64 0, .string ⟨#[]⟩]) := ⟨Box.new wc _ _⟩
      go_region_held3 (fun w' => w'.cell? ⟨gb, 0, none⟩ = some (.pointer (some ⟨t, 0, none⟩)) ∧ w'.cell? ⟨g5, 0, none⟩ = some (.int .i64 xk) ∧ w'.cell? ⟨g5, 1, none⟩ = some (.int .i64 xn) ∧ w'.cell? ⟨g5, 2, none⟩ = some (.string xs)) (go_keep) (first | (go_at_call 46; ((with_reducible refine (HGet.out _ hbD).mono ?_); rintro e w4 ⟨rfl, hb4⟩; replace hbD := blw2 hbD hb4; have z0 := (hbD.cell (p := ⟨gb, 0, none⟩) lm).trans x0; have z1 := (hbD.cell (p := ⟨g5, 0, none⟩) l5).trans x1; have z2 := (hbD.cell (p := ⟨g5, 1, none⟩) l5).trans x2; have z3 := (hbD.cell (p := ⟨g5, 2, none⟩) l5).trans x3)) | (go_at_call 46; ((with_reducible refine (HGet.out _ HBA.out).mono ?_); rintro e w4 ⟨rfl, hb4⟩; replace hbD := blw2 HBA.out hb4; have bz := BZ.out.on hb4 BZ.out.lt; have z0 := (hbD.cell (p := ⟨gb, 0, none⟩) lm).trans x0; have z1 := (hbD.cell (p := ⟨g5, 0, none⟩) l5).trans x1; have z2 := (hbD.cell (p := ⟨g5, 1, none⟩) l5).trans x2; have z3 := (hbD.cell (p := ⟨g5, 2, none⟩) l5).trans x3; have q0 := bz.at_ 0; have q1 := bz.at_ 1; have q2 := bz.at_ 2; have q3 := bz.free 0; have q4 := bz.free 1; have q5 := bz.free 2)))
      all_goals
        go_wp2
        go_meet
        refine ⟨_, rfl, rfl, rfl, ?_, ?_⟩
        · first
            | with_reducible exact Box.new _ _ _
            | exact ((bz.put 0 _).put 1 _).put 2 _
        · first
            | with_reducible exact hbD.alloc hbD.size _
            | exact ((hbD.setCell (p := ⟨wc.heap.size, 0, none⟩) (Nat.le_refl _) _).setCell (p := ⟨wc.heap.size, 1, none⟩) (Nat.le_refl _) _).setCell (p := ⟨wc.heap.size, 2, none⟩) (Nat.le_refl _) _
  case rest =>
  obtain ⟨g7, rfl, rfl, rfl, b7, hb7⟩ := hcut
  have hS7 := HS.out.on hb7
  have HB7 := Veil.mk (HBc.out.trans (hb7.mono HBc.out.size))
  have HF := Veil.mk (fun w' (hb : Below wc.heap.size wc w') => rfind_any B gm l cl vl (by omega) (xk, xn, xs) w' (hS7.rt.on hb))
  have xm : wc.cell? ⟨gb, 1, none⟩ = some (.pointer (some ⟨gm, 0, none⟩)) := hS7.box.at_ 1
  have k5 := H5.out.on hb7 H5.out.lt
  have x1 : wc.cell? ⟨g5, 0, none⟩ = some (.int .i64 xk) := k5.at_ 0
  have x2 : wc.cell? ⟨g5, 1, none⟩ = some (.int .i64 xn) := k5.at_ 1
  have x3 : wc.cell? ⟨g5, 2, none⟩ = some (.string xs) := k5.at_ 2
  have lm := hS7.box.lt
  have l5 := k5.lt
  have HS7 := Veil.mk hS7
  have H7 : Veil (Box wc g7 82 #[.int .i64 gv.1, .int .i64 gv.2.1, .string gv.2.2]) := ⟨b7⟩
  clear hS7 b7 k5 hb7
  go_upto_region 11 with (fail)
  have hbD : Below wc.heap.size wc wc.drew := (Below.refl _ _).drew
  go_cut [10] (fun s10 wx => s10 = .int .i64 r0 ∧ Below wc.heap.size wc wx)
  case first =>
    as_aux_lemma =>
      go_region_held3 (fun w' => w'.cell? ⟨gb, 1, none⟩ = some (.pointer (some ⟨gm, 0, none⟩)) ∧ w'.cell? ⟨g5, 0, none⟩ = some (.int .i64 xk) ∧ w'.cell? ⟨g5, 1, none⟩ = some (.int .i64 xn) ∧ w'.cell? ⟨g5, 2, none⟩ = some (.string xs)) (go_keep) (first | (go_at_call 63; ((with_reducible refine (HF.out _ hbD).mono ?_); rintro e w4 ⟨r1, rfl, hq, hb4⟩; obtain rfl : r1 = r0 := find_say HS.out.uq HSay.out hq; clear hq; replace hbD := blw2 hbD hb4; clear hb4; have z0 := (hbD.cell (p := ⟨gb, 1, none⟩) lm).trans xm; have z1 := (hbD.cell (p := ⟨g5, 0, none⟩) l5).trans x1; have z2 := (hbD.cell (p := ⟨g5, 1, none⟩) l5).trans x2; have z3 := (hbD.cell (p := ⟨g5, 2, none⟩) l5).trans x3)))
      all_goals
        go_wp2
        go_meet
        exact ⟨rfl, hbD⟩
  case rest =>
  obtain ⟨rfl, hb8⟩ := hcut
  have hS8 := HS7.out.on hb8
  have h78 := H7.out.on hb8 H7.out.lt
  have HB8 := Veil.mk (HB7.out.trans (hb8.mono HB7.out.size))
  clear xm x1 x2 x3 hbD hb8
  have hsay := HSay.out
  have HFIN : Veil (∀ n, BS (wc.drewN n) B gb t gm F O l cl vl vc vd cs ∧ Below B w (wc.drewN n)) := ⟨fun n => by
    have hd := below_drewN (Below.refl wc.heap.size wc) n
    exact ⟨hS8.on hd, (HB8.out.trans (hd.mono HB8.out.size)).mono hBs⟩⟩
  rcases hsay with ⟨rfl, j, y, hj, hy, rfl, rfl, rfl⟩ | ⟨rfl, rfl, rfl, rfl, hno⟩
  · as_aux_lemma =>
      obtain ⟨ra, rc, hvl, hrc, hrg, hrm⟩ := slice_own hS8.rt.own
      obtain ⟨rr, rfl⟩ := hrg (by have := (List.getElem?_eq_some_iff.1 hj).1; omega)
      subst hvl
      have j0 : (0 : Int) ≤ (j : Int) := by omega
      have j1 : (j : Int) < (l.length : Int) := by have := (List.getElem?_eq_some_iff.1 hj).1; omega
      obtain ⟨_, _, _, e3, e4, e5, e6, _⟩ := hS8.rt.at_ j y hj
      have m0 : wc.cell? ⟨gm, 0, none⟩ = some (.slice (some ⟨rr, 0, none⟩) l.length rc) := hS8.rt.box.at_ 0
      have xm : wc.cell? ⟨gb, 1, none⟩ = some (.pointer (some ⟨gm, 0, none⟩)) := hS8.box.at_ 1
      have v0 := h78.at_ 0
      have v1 := h78.at_ 1
      have v2 := h78.at_ 2
      clear hS8 h78 hj hy hrg
      go_upto_region 12 with (fail)
      go_quiet (fail)
      have HBD := Veil.mk (HFIN.out nq)
      generalize wc.drewN nq = w8 at HBD ⊢
      have HSM := Veil.mk (same_any _ B gb t gm _ _ l cl _ vc vd cs (by omega) (by omega) HBD.out.1)
      clear e3 e4 e5 e6 m0 xm v0 v1 v2
      go_wp2_with (first | (go_at_call 66; ((with_reducible refine HSM.out.mono ?_); rintro e w9 ⟨rfl, hb9⟩)))
      go_ret
      exact ⟨rfl, F, O, l, cl, _, HBD.out.1.on hb9, by omega, Int.le_refl _, by omega, HBD.out.2.trans (hb9.mono HBD.out.1.tf.le)⟩
  · as_aux_lemma =>
      clear hS8 h78 hno
      have n1 : ¬ (0 : Int) ≤ -1 := by omega
      go_upto_region 12 with (fail)
      go_quiet (fail)
      have HBD := Veil.mk (HFIN.out nq)
      generalize wc.drewN nq = w8 at HBD ⊢
      have HSM := Veil.mk (same_any _ B gb t gm _ _ l cl _ vc vd cs (by omega) (by omega) HBD.out.1)
      go_wp2_with (first | (go_at_call 66; ((with_reducible refine HSM.out.mono ?_); rintro e w9 ⟨rfl, hb9⟩)))
      go_ret
      exact ⟨rfl, F, O, l, cl, _, HBD.out.1.on hb9, by omega, Int.le_refl _, by omega, HBD.out.2.trans (hb9.mono HBD.out.1.tf.le)⟩
end Go.Proofs.Ythlhchaapdhbfaa
