/- The law's pair: play, where no cursor is made or moved. -/
import Derived.Test.YthlhchaapdhbfaaGj
import Derived.Test.YthlhchaapdhbfaaIg
import Derived.Deep.DeepCutAuto
namespace Go.Proofs.Ythlhchaapdhbfaa
open Go Go.RowKit

theorem Fs.keep {B t : Nat} {F F' : Nat → Prop} {O : Ob} {w w' : World} (h : Tf B t F O w) (hs : Fs F F' w w') {g : Nat} {e : TypeId} {cs : Array Value} (hb : Box w g e cs) (he : e ≠ 121 ∧ e ≠ 133 ∧ e ≠ 3 ∧ e ≠ 88 ∧ e ≠ 130) : Box w' g e cs := (hs.box hb (h.not_lab hb.lab he)).1
theorem RT.keep {B gm : Nat} {l : List Re} {cl : Int} {vl : Value} {w w' : World} (h : RT w B gm l cl vl) (ht : Touch (RF gm vl) w w') {g : Nat} {e : TypeId} {cs : Array Value} (hb : Box w g e cs) (he : e ≠ 70 ∧ e ≠ 84) : Box w' g e cs :=
  hb.touch ht (fun hk => (rf_lab h g e hk hb.lab).elim he.1 he.2)
theorem len11 {α : Type} {us : List α} (h : us.length = 11) : ∃ a0 a1 a2 a3 a4 a5 a6 a7 a8 a9 a10, us = [a0, a1, a2, a3, a4, a5, a6, a7, a8, a9, a10] := by
  match us, h with
  | [a0, a1, a2, a3, a4, a5, a6, a7, a8, a9, a10], _ => exact ⟨a0, a1, a2, a3, a4, a5, a6, a7, a8, a9, a10, rfl⟩
def playK (g : Nat) (sv : Value) (x m : Int) : List Kd :=
  [.val (· = .pointer (some ⟨g, 1, none⟩)), .val (· = sv), .val (fun u => ∃ x : Vt, WV x.1 x.2.1 x.2.2 ∧ u = valV x), .val (· = .pointer (some ⟨g, 4, none⟩)), .val (· = .int .i64 x), .val (· = .int .i64 m), .val (· = .agg #[.int .i64 3, .int .i64 m, .string ⟨#[]⟩]),
   .box 82 #[.int .i64 0, .int .i64 0, .string ⟨#[]⟩] 9 2, .box 82 #[.int .i64 0, .int .i64 0, .string ⟨#[]⟩] 10 6, .sto 7 2, .sto 8 6]
theorem playK_fit (g : Nat) (sv : Value) (x m : Int) : Fit (playK g sv x m) := fit_of rfl
abbrev playS : List (Option Nat) := [some 18, some 19, some 20, some 21, some 22, some 23, some 24, some 5, some 6, none, none]
/-- What the first statement of play leaves. -/
def PlayP (W : World) (m : Int) (s5 s6 : Value) (w : World) : Prop := ∃ (g5 g6 : Nat) (x : Vt), s5 = .pointer (some ⟨g5, 0, none⟩) ∧ s6 = .pointer (some ⟨g6, 0, none⟩) ∧ WV x.1 x.2.1 x.2.2 ∧
  Box w g5 82 #[.int .i64 x.1, .int .i64 x.2.1, .string x.2.2] ∧ Box w g6 82 #[.int .i64 3, .int .i64 m, .string ⟨#[]⟩] ∧ Below W.heap.size W w
/-- What play leaves, where no cursor is made or moved. -/
def PlayQ (B gb t gm : Nat) (l : List Re) (cl : Int) (vc vd : Value) (cs : List Cu) (w : World) (e : Ending) (w' : World) : Prop := e = .returned (.bool true) ∧ ∃ F' O' l' cl' vl', BS w' B gb t gm F' O' l' cl' vl' vc vd cs ∧ l'.length ≤ l.length + 1 ∧ cl ≤ cl' ∧ cl' ≤ cl + 1 ∧ Below B w w'
theorem BS.both {w1 w2 w3 w4 : World} {B gb t gm : Nat} {F F2 : Nat → Prop} {O O2 : Ob} {l l' : List Re} {cl cl' : Int} {vl vc vd : Value} {cs : List Cu} (h : BS w1 B gb t gm F O l cl vl vc vd cs) (hT2 : Tf B t F2 O2 w2) (hs : Fs F F2 w1 w2) (hb : Below w2.heap.size w2 w3) (hR : RPost B gm l' cl' (RF gm vl) w3 w4)
    (live' : O2.1 = liveR l') (curs' : O2.2.Perm ((openC cs).map fun x => (x.c, restR l' cl' x))) (uq' : UqR l') (ats' : ∀ x ∈ cs, x.clr = cl' → x.at_ ≤ l'.length) (clrs' : ∀ x ∈ cs, x.clr ≤ cl') : (∃ vl', BS w4 B gb t gm F2 O2 l' cl' vl' vc vd cs) ∧ Below B w1 w4 := by
  obtain ⟨vl', r1, r2, r3⟩ := hR
  have hT3 := hT2.on hb
  have rt3 := (h.rt.touch hs.touch (fun k hk hf => rf_not h.rt h.tf k hf hk)).on hb
  have cp3 := (h.cp.fs h.tf hs).on hb
  have bx2 := hs.keep h.tf h.box (by decide)
  have bx3 := bx2.on hb bx2.lt
  exact ⟨⟨vl', rt3.keep r2 bx3 (by decide), hT3.touch r2 (fun k hk hf => rf_not rt3 hT3 k hk hf), r1, cp3.lab r2 (fun k e hk he => rf_lab rt3 k e hk he), live', curs', h.bt, uq', ats', clrs'⟩,
    ((hs.below h.tf).trans (hb.mono hT2.le)).trans (r2.below hT3.le (fun k hk => (rt3.lt hk).1))⟩
theorem BS.mid {w1 w2 : World} {B gb t gm : Nat} {F F2 : Nat → Prop} {O : Ob} {l : List Re} {cl : Int} {vl vc vd : Value} {cs : List Cu} (h : BS w1 B gb t gm F O l cl vl vc vd cs) (hs : Fs F F2 w1 w2) : RT w2 B gm l cl vl ∧ Box w2 gb 74 #[.pointer (some ⟨t, 0, none⟩), .pointer (some ⟨gm, 0, none⟩), vc, vd] :=
  ⟨h.rt.touch hs.touch (fun k hk hf => rf_not h.rt h.tf k hf hk), hs.keep h.tf h.box (by decide)⟩
theorem BS.lens {w1 : World} {B gb t gm : Nat} {F : Nat → Prop} {O : Ob} {l : List Re} {cl : Int} {vl vc vd : Value} {cs : List Cu} (h : BS w1 B gb t gm F O l cl vl vc vd cs) : O.1.length ≤ l.length ∧ O.2.length ≤ cs.length := by
  refine ⟨by rw [h.live]; exact liveR_le l, ?_⟩
  rw [h.curs.length_eq, List.length_map]
  exact List.length_filter_le _ _
set_option maxHeartbeats 1000000 in
set_option maxRecDepth 100000 in
theorem play_put (B gb t gm : Nat) (F : Nat → Prop) (O : Ob) (l : List Re) (cl : Int) (vl vc vd : Value) (cs : List Cu) (hl : l.length < 20000) (hcs : cs.length < 900) (_ : 0 ≤ cl) (_ : cl < 10000) (c : CallD) (hkind : (c.kind.tmod 7 + 7) % 7 = 0) (h7 : 0 < c.kind.tmod 7 + 7) (h8 : c.kind.tmod 7 < 7) (hlen : c.len ≤ 100) (hlt : ∀ u ∈ c.l, u < 65536) (w : World) (hnum : W.Nums .u16 w c.a c.len c.l) (h : BS w B gb t gm F O l cl vl vc vd cs) :
    Calls Try.prog 35 #[.pointer (some ⟨gb, 0, none⟩), callV c] w (PlayQ B gb t gm l cl vc vd cs w) := by
  have hkt : (c.kind.tmod 7 + 7).tmod 7 = 0 := by rw [Int.tmod_eq_emod_of_nonneg (by omega)]; exact hkind
  obtain ⟨m, hm, hm2⟩ := mask 16 (by omega) c.val
  rw [show ((2 ^ 16 - 1 : Nat) : Int) = 65535 from rfl] at hm
  obtain ⟨q, hq, hq2⟩ := mask 4 (by omega) c.n
  rw [show ((2 ^ 4 - 1 : Nat) : Int) = 15 from rfl] at hq
  obtain ⟨W, hW⟩ : ∃ W, W = w.alloc (.cells (callC c) 79) := ⟨_, rfl⟩
  have hBW : Below w.heap.size w W := by rw [hW]; exact (Below.refl _ _).alloc (Nat.le_refl _) _
  obtain ⟨g3, hg3⟩ : ∃ n, w.heap.size = n := ⟨_, rfl⟩
  have b3 : Box W g3 79 (callC c) := by rw [hW, ← hg3]; exact Box.new w _ _
  have hS := h.on hBW
  have HW := Veil.mk (And.intro hW hg3)
  have HS0 := Veil.mk hS
  have HC3 := Veil.mk b3
  have HM := Veil.mk hm
  have HQ := Veil.mk hq
  have HKT := Veil.mk (And.intro hkt hkind)
  have HNW := Veil.mk (hnum.on hBW)
  have HV : Veil (∀ w', Below W.heap.size W w' → Calls Try.prog 44 #[seedV c.kk c.kn c.a c.len c.cap] w' (SeedPost w')) := ⟨fun w' hb => seed_val c.kk c.kn c.a c.len c.cap c.l hlen hlt w' (HNW.out.on hb)⟩
  have hBs : B ≤ w.heap.size := h.tf.le
  have HBW := Veil.mk hBW
  clear hW hg3 hS b3 hm hq hkt hkind hBW hnum hlt h
  go_enter Try.func35, Try.ntmps35
  go_upto_region 1 with (fail)
  rw [← HW.out.1, HW.out.2]
  clear HW
  go_cut [5, 6] (fun s5 s6 wx => PlayP W (m : Int) s5 s6 wx)
  case first =>
    refine wp_region_gen (playK g3 (seedV c.kk c.kn c.a c.len c.cap) c.val (m : Int)) playS (List.replicate 11 undef) (by kernel_rfl) rfl rfl (by simp only [puts, setAll, List.replicate, List.set_cons_zero, List.set_cons_succ, List.setIfInBounds_toArray]) ?_ (by kernel_rfl) ?_
    · refine Steps.cons rfl (fun bb aa w' hbs hb0 hbp hI K hK => ?_) ?_
      · obtain ⟨us, hus, rfl, hI⟩ := hI
        obtain ⟨u0, u1, u2, u3, u4, u5, u6, u7, u8, u9, u10, rfl⟩ := len11 hus
        have hch := hI.below
        skip
        have HI := Veil.mk hI
        clear hI
        simp only [puts, setAll, List.setIfInBounds_toArray, List.set_cons_zero, List.set_cons_succ]
        go_simp
        exact hK _ _ (gen_val HI.out hus hbs 0 _ _ (by show 0 < 11; decide) (playK_fit _ _ _ _) rfl hb0 rfl (Below.refl _ _) (by simp only [puts, setAll, List.set_cons_zero, List.set_cons_succ, List.setIfInBounds_toArray]))
      refine Steps.cons rfl (fun bb aa w' hbs hb0 hbp hI K hK => ?_) ?_
      · obtain ⟨us, hus, rfl, hI⟩ := hI
        obtain ⟨u0, u1, u2, u3, u4, u5, u6, u7, u8, u9, u10, rfl⟩ := len11 hus
        have e0 : u0 = .pointer (some ⟨g3, 1, none⟩) := hI.val 0 _ rfl (gen_after 0 (by kernel_rfl) hbp)
        subst e0
        have hch := hI.below
        have q := HC3.out.on hch HC3.out.lt; have c1 : w'.cell? ⟨g3, 1, none⟩ = some (.int .i64 c.kk) := q.at_ 1; have c2 : w'.cell? ⟨g3, 2, none⟩ = some (.int .i64 c.kn) := q.at_ 2; have c3 : w'.cell? ⟨g3, 3, none⟩ = some (.slice c.a c.len c.cap) := q.at_ 3; clear q
        have HI := Veil.mk hI
        clear hI
        simp only [puts, setAll, List.setIfInBounds_toArray, List.set_cons_zero, List.set_cons_succ]
        go_simp
        exact hK _ _ (gen_val HI.out hus hbs 1 _ _ (by show 1 < 11; decide) (playK_fit _ _ _ _) rfl hb0 rfl (Below.refl _ _) (by simp only [puts, setAll, List.set_cons_zero, List.set_cons_succ, List.setIfInBounds_toArray]))
      refine Steps.cons rfl (fun bb aa w' hbs hb0 hbp hI K hK => ?_) ?_
      · obtain ⟨us, hus, rfl, hI⟩ := hI
        obtain ⟨u0, u1, u2, u3, u4, u5, u6, u7, u8, u9, u10, rfl⟩ := len11 hus
        have e1 : u1 = (seedV c.kk c.kn c.a c.len c.cap) := hI.val 1 _ rfl (gen_after 1 (by kernel_rfl) hbp)
        subst e1
        have hch := hI.below
        have HI := Veil.mk hI
        clear hI
        simp only [puts, setAll, List.setIfInBounds_toArray, List.set_cons_zero, List.set_cons_succ]
        go_simp
        refine (HV.out w' hch).mono ?_
        intro e w2 hp
        obtain ⟨k1, n1, s1, wv1, rfl, hb2⟩ := hp
        go_simp
        exact hK _ _ (gen_val HI.out hus hbs 2 _ _ (by show 2 < 11; decide) (playK_fit _ _ _ _) rfl hb0 ⟨(k1, n1, s1), wv1, rfl⟩ hb2 (by simp only [puts, setAll, List.set_cons_zero, List.set_cons_succ, List.setIfInBounds_toArray]))
      refine Steps.cons rfl (fun bb aa w' hbs hb0 hbp hI K hK => ?_) ?_
      · obtain ⟨us, hus, rfl, hI⟩ := hI
        obtain ⟨u0, u1, u2, u3, u4, u5, u6, u7, u8, u9, u10, rfl⟩ := len11 hus
        have hch := hI.below
        skip
        have HI := Veil.mk hI
        clear hI
        simp only [puts, setAll, List.setIfInBounds_toArray, List.set_cons_zero, List.set_cons_succ]
        go_simp
        exact hK _ _ (gen_val HI.out hus hbs 3 _ _ (by show 3 < 11; decide) (playK_fit _ _ _ _) rfl hb0 rfl (Below.refl _ _) (by simp only [puts, setAll, List.set_cons_zero, List.set_cons_succ, List.setIfInBounds_toArray]))
      refine Steps.cons rfl (fun bb aa w' hbs hb0 hbp hI K hK => ?_) ?_
      · obtain ⟨us, hus, rfl, hI⟩ := hI
        obtain ⟨u0, u1, u2, u3, u4, u5, u6, u7, u8, u9, u10, rfl⟩ := len11 hus
        have e3 : u3 = .pointer (some ⟨g3, 4, none⟩) := hI.val 3 _ rfl (gen_after 3 (by kernel_rfl) hbp)
        subst e3
        have hch := hI.below
        have q := HC3.out.on hch HC3.out.lt; have c4 : w'.cell? ⟨g3, 4, none⟩ = some (.int .i64 c.val) := q.at_ 4; clear q
        have HI := Veil.mk hI
        clear hI
        simp only [puts, setAll, List.setIfInBounds_toArray, List.set_cons_zero, List.set_cons_succ]
        go_simp
        exact hK _ _ (gen_val HI.out hus hbs 4 _ _ (by show 4 < 11; decide) (playK_fit _ _ _ _) rfl hb0 rfl (Below.refl _ _) (by simp only [puts, setAll, List.set_cons_zero, List.set_cons_succ, List.setIfInBounds_toArray]))
      refine Steps.cons rfl (fun bb aa w' hbs hb0 hbp hI K hK => ?_) ?_
      · obtain ⟨us, hus, rfl, hI⟩ := hI
        obtain ⟨u0, u1, u2, u3, u4, u5, u6, u7, u8, u9, u10, rfl⟩ := len11 hus
        have e4 : u4 = .int .i64 c.val := hI.val 4 _ rfl (gen_after 4 (by kernel_rfl) hbp)
        subst e4
        have hch := hI.below
        have hm := HM.out
        have HI := Veil.mk hI
        clear hI
        simp only [puts, setAll, List.setIfInBounds_toArray, List.set_cons_zero, List.set_cons_succ]
        go_simp
        exact hK _ _ (gen_val HI.out hus hbs 5 _ _ (by show 5 < 11; decide) (playK_fit _ _ _ _) rfl hb0 rfl (Below.refl _ _) (by simp only [puts, setAll, List.set_cons_zero, List.set_cons_succ, List.setIfInBounds_toArray]))
      refine Steps.cons rfl (fun bb aa w' hbs hb0 hbp hI K hK => ?_) ?_
      · obtain ⟨us, hus, rfl, hI⟩ := hI
        obtain ⟨u0, u1, u2, u3, u4, u5, u6, u7, u8, u9, u10, rfl⟩ := len11 hus
        have e5 : u5 = .int .i64 (m : Int) := hI.val 5 _ rfl (gen_after 5 (by kernel_rfl) hbp)
        subst e5
        have hch := hI.below
        skip
        have HI := Veil.mk hI
        clear hI
        simp only [puts, setAll, List.setIfInBounds_toArray, List.set_cons_zero, List.set_cons_succ]
        go_simp
        exact hK _ _ (gen_val HI.out hus hbs 6 _ _ (by show 6 < 11; decide) (playK_fit _ _ _ _) rfl hb0 rfl (Below.refl _ _) (by simp only [puts, setAll, List.set_cons_zero, List.set_cons_succ, List.setIfInBounds_toArray]))
      refine Steps.cons rfl (fun bb aa w' hbs hb0 hbp hI K hK => ?_) ?_
      · obtain ⟨us, hus, rfl, hI⟩ := hI
        obtain ⟨u0, u1, u2, u3, u4, u5, u6, u7, u8, u9, u10, rfl⟩ := len11 hus
        have hch := hI.below
        have HI := Veil.mk hI
        clear hI
        simp only [puts, setAll, List.setIfInBounds_toArray, List.set_cons_zero, List.set_cons_succ]
        go_simp
        exact hK _ _ (gen_box HI.out hus hbs 7 _ _ _ _ (by show 7 < 11; decide) (playK_fit _ _ _ _) rfl hb0 (by simp only [puts, setAll, List.set_cons_zero, List.set_cons_succ, List.setIfInBounds_toArray]))
      refine Steps.cons rfl (fun bb aa w' hbs hb0 hbp hI K hK => ?_) ?_
      · obtain ⟨us, hus, rfl, hI⟩ := hI
        obtain ⟨u0, u1, u2, u3, u4, u5, u6, u7, u8, u9, u10, rfl⟩ := len11 hus
        have hch := hI.below
        have HI := Veil.mk hI
        clear hI
        simp only [puts, setAll, List.setIfInBounds_toArray, List.set_cons_zero, List.set_cons_succ]
        go_simp
        exact hK _ _ (gen_box HI.out hus hbs 8 _ _ _ _ (by show 8 < 11; decide) (playK_fit _ _ _ _) rfl hb0 (by simp only [puts, setAll, List.set_cons_zero, List.set_cons_succ, List.setIfInBounds_toArray]))
      refine Steps.cons rfl (fun bb aa w' hbs hb0 hbp hI K hK => ?_) ?_
      · obtain ⟨us, hus, rfl, hI⟩ := hI
        obtain ⟨u0, u1, u2, u3, u4, u5, u6, u7, u8, u9, u10, rfl⟩ := len11 hus
        have hch := hI.below
        have hq1 := gen_after 7 (by kernel_rfl) hbp
        have hq2 := gen_after 2 (by kernel_rfl) hbp
        have hq := gen_sto hI hus hbs 9 7 2 _ _ (by show 9 < 11; decide) (playK_fit _ _ _ _) rfl rfl hb0 hq1 hq2
        have hs : ∃ x : Vt, WV x.1 x.2.1 x.2.2 ∧ u2 = valV x := hI.val 2 _ rfl hq2
        clear hI
        simp only [puts, setAll, List.setIfInBounds_toArray, List.set_cons_zero, List.set_cons_succ]
        obtain ⟨g, hg, hx, hJ⟩ := hq
        have e7 : u7 = .pointer (some ⟨g, 0, none⟩) := hg
        subst e7
        clear hg
        obtain ⟨⟨k1, n1, s1⟩, wv1, rfl⟩ := hs
        have x0 : w'.cell? ⟨g, 0, none⟩ = some (.int .i64 0) := hx.at_ 0
        have x1 : w'.cell? ⟨g, 1, none⟩ = some (.int .i64 0) := hx.at_ 1
        have x2 : w'.cell? ⟨g, 2, none⟩ = some (.string ⟨#[]⟩) := hx.at_ 2
        have f0 := hx.free 0
        have f1 := hx.free 1
        have f2 := hx.free 2
        have HJ := Veil.mk hJ
        have HX := Veil.mk hx
        clear hJ hx
        go_simp
        exact hK _ _ (HJ.out _ _ _ _ (((HX.out.put 0 _).put 1 _).put 2 _) (touch3 _ _ _ _ _) (by simp only [puts, setAll, List.set_cons_zero, List.set_cons_succ, List.setIfInBounds_toArray]))
      refine Steps.cons rfl (fun bb aa w' hbs hb0 hbp hI K hK => ?_) ?_
      · obtain ⟨us, hus, rfl, hI⟩ := hI
        obtain ⟨u0, u1, u2, u3, u4, u5, u6, u7, u8, u9, u10, rfl⟩ := len11 hus
        have hch := hI.below
        have hq1 := gen_after 8 (by kernel_rfl) hbp
        have hq2 := gen_after 6 (by kernel_rfl) hbp
        have hq := gen_sto hI hus hbs 10 8 6 _ _ (by show 10 < 11; decide) (playK_fit _ _ _ _) rfl rfl hb0 hq1 hq2
        have hs : u6 = .agg #[.int .i64 3, .int .i64 (m : Int), .string ⟨#[]⟩] := hI.val 6 _ rfl hq2
        clear hI
        simp only [puts, setAll, List.setIfInBounds_toArray, List.set_cons_zero, List.set_cons_succ]
        obtain ⟨g, hg, hx, hJ⟩ := hq
        have e8 : u8 = .pointer (some ⟨g, 0, none⟩) := hg
        subst e8
        clear hg
        subst hs
        have x0 : w'.cell? ⟨g, 0, none⟩ = some (.int .i64 0) := hx.at_ 0
        have x1 : w'.cell? ⟨g, 1, none⟩ = some (.int .i64 0) := hx.at_ 1
        have x2 : w'.cell? ⟨g, 2, none⟩ = some (.string ⟨#[]⟩) := hx.at_ 2
        have f0 := hx.free 0
        have f1 := hx.free 1
        have f2 := hx.free 2
        have HJ := Veil.mk hJ
        have HX := Veil.mk hx
        clear hJ hx
        go_simp
        exact hK _ _ (HJ.out _ _ _ _ (((HX.out.put 0 _).put 1 _).put 2 _) (touch3 _ _ _ _ _) (by simp only [puts, setAll, List.set_cons_zero, List.set_cons_succ, List.setIfInBounds_toArray]))
      exact Steps.nil
    · intro us w5 hus d hd hJ
      obtain ⟨u0, u1, u2, u3, u4, u5, u6, u7, u8, u9, u10, rfl⟩ := len11 hus
      have p2 : ∃ x : Vt, WV x.1 x.2.1 x.2.2 ∧ u2 = valV x := hJ.val 2 _ rfl (hd 2 (by show 2 < 11; decide))
      have p6 : u6 = .agg #[.int .i64 3, .int .i64 (m : Int), .string ⟨#[]⟩] := hJ.val 6 _ rfl (hd 6 (by show 6 < 11; decide))
      have b7 := hJ.box 7 _ _ _ _ rfl (hd 7 (by show 7 < 11; decide))
      have b8 := hJ.box 8 _ _ _ _ rfl (hd 8 (by show 8 < 11; decide))
      rw [hd 9 (by show 9 < 11; decide)] at b7
      rw [hd 10 (by show 10 < 11; decide)] at b8
      have hbl := hJ.below
      clear hJ hd
      simp only [puts, setAll, List.setIfInBounds_toArray, List.set_cons_zero, List.set_cons_succ]
      have hP : PlayP W (m : Int) u7 u8 w5 := by
        obtain ⟨x, wx, e2⟩ := p2
        obtain ⟨ga, e7, -, x7⟩ := b7
        obtain ⟨gz, e8, -, x8⟩ := b8
        have f2 : uget [u0, u1, u2, u3, u4, u5, u6, u7, u8, u9, u10] 2 = valV x := e2
        have f6 : uget [u0, u1, u2, u3, u4, u5, u6, u7, u8, u9, u10] 6 = .agg #[.int .i64 3, .int .i64 (m : Int), .string ⟨#[]⟩] := p6
        rw [f2] at x7
        rw [f6] at x8
        exact ⟨ga, gz, x, e7, e8, wx, x7, x8, hbl⟩
      have HP := Veil.mk hP
      clear hP p2 p6 b7 b8 hbl
      go_wp2
      go_meet
      exact HP.out
  case rest =>
  obtain ⟨g5, g6, ⟨xk, xn, xs⟩, rfl, rfl, wx, b5, b6, hbw⟩ := hcut
  replace b5 : Box wc g5 82 #[.int .i64 xk, .int .i64 xn, .string xs] := b5
  replace b6 : Box wc g6 82 #[.int .i64 3, .int .i64 (m : Int), .string ⟨#[]⟩] := b6
  have HZ := Veil.mk (show xs.size ≤ 1000 from Nat.le_trans wx.size (by decide))
  have hS := HS0.out.on hbw
  have hc3 := HC3.out.on hbw HC3.out.lt
  have hBc : Below w.heap.size w wc := HBW.out.trans (hbw.mono HBW.out.size)
  clear wx HV HNW HS0 HC3 HM hbw
  have HS := Veil.mk hS
  have H5 := Veil.mk b5
  have H6 := Veil.mk b6
  have H3 := Veil.mk hc3
  have HBc := Veil.mk hBc
  have c30 : wc.cell? ⟨g3, 0, none⟩ = some (.int .i64 c.kind) := hc3.at_ 0
  have hkt := HKT.out.1
  have hkind := HKT.out.2
  clear hS b5 b6 hc3 hBc HKT
  go_upto_region 3 with (fail)
  clear hkt hkind c30
  have hln := HS.out.lens
  have HPut : Veil (∀ w', Below wc.heap.size wc w' → Calls Try.prog 39 #[.pointer (some ⟨t, 0, none⟩), valV (xk, xn, xs), valV (3, (m : Int), ⟨#[]⟩), .int .i64 (q : Int)] w' fun e w2 => e = .returned (.tuple #[]) ∧ PutP B t F (putO O (keyT (xk, xn, xs)) (3, (m : Int), ⟨#[]⟩) (q : Int)) w' w2) := ⟨fun w' hb => put_tf (HS.out.tf.on hb) (by omega) (by omega) (xk, xn, xs) (3, (m : Int), ⟨#[]⟩) (q : Int) HZ.out⟩
  go_upto_region 4 with (fail)
  have hbD : Below wc.heap.size wc wc.drew := (Below.refl _ _).drew
  have hq := HQ.out
  have x0 : wc.cell? ⟨gb, 0, none⟩ = some (.pointer (some ⟨t, 0, none⟩)) := HS.out.box.at_ 0
  have x1 := H5.out.at_ 0
  have x2 := H5.out.at_ 1
  have x3 := H5.out.at_ 2
  have x4 := H6.out.at_ 0
  have x5 := H6.out.at_ 1
  have x6 := H6.out.at_ 2
  have x7 := H3.out.at_ 5
  clear hln
  go_cut [41] (fun s41 wx => ∃ F2, Tf B t F2 (putO O (keyT (xk, xn, xs)) (3, (m : Int), ⟨#[]⟩) (q : Int)) wx ∧ ∃ wp, Below wc.heap.size wc wp ∧ Fs F F2 wp wx)
  case first =>
    go_region_held3 (fun w' => w'.cell? ⟨gb, 0, none⟩ = some (.pointer (some ⟨t, 0, none⟩)) ∧ w'.cell? ⟨g5, 0, none⟩ = some (.int .i64 xk) ∧ w'.cell? ⟨g5, 1, none⟩ = some (.int .i64 xn) ∧ w'.cell? ⟨g5, 2, none⟩ = some (.string xs) ∧ w'.cell? ⟨g6, 0, none⟩ = some (.int .i64 3) ∧ w'.cell? ⟨g6, 1, none⟩ = some (.int .i64 (m : Int)) ∧ w'.cell? ⟨g6, 2, none⟩ = some (.string ⟨#[]⟩) ∧ w'.cell? ⟨g3, 5, none⟩ = some (.int .i64 c.n)) (go_keep) (first | (go_at_call 39; ((with_reducible refine (HPut.out _ hbD).mono ?_); rintro e w4 ⟨rfl, F2, hT2, hFs2⟩; have z0 := (hFs2.keep (HS.out.tf.on hbD) (HS.out.box.on hbD HS.out.box.lt) (by decide)).at_ 0; have k5 := hFs2.keep (HS.out.tf.on hbD) (H5.out.on hbD H5.out.lt) (by decide); have k6 := hFs2.keep (HS.out.tf.on hbD) (H6.out.on hbD H6.out.lt) (by decide); have k3 := hFs2.keep (HS.out.tf.on hbD) (H3.out.on hbD H3.out.lt) (by decide); have z1 := k5.at_ 0; have z2 := k5.at_ 1; have z3 := k5.at_ 2; have z4 := k6.at_ 0; have z5 := k6.at_ 1; have z6 := k6.at_ 2; have z7 := k3.at_ 5)))
    all_goals
      go_wp2
      go_meet
      exact ⟨F2, hT2, _, hbD, hFs2⟩
  case rest =>
  obtain ⟨F2, hT2, wp, hbp, hFs2⟩ := hcut
  clear hq x0 x1 x2 x3 x4 x5 x6 x7 HPut hbD
  have hSp := HS.out.on hbp
  obtain ⟨rt4, bx4⟩ := hSp.mid hFs2
  have k5 := hFs2.keep hSp.tf (H5.out.on hbp H5.out.lt) (by decide)
  have k6 := hFs2.keep hSp.tf (H6.out.on hbp H6.out.lt) (by decide)
  have k3 := hFs2.keep hSp.tf (H3.out.on hbp H3.out.lt) (by decide)
  have HRP : Veil (∀ w', Below wc.heap.size wc w' → Calls Try.prog 61 #[.pointer (some ⟨gm, 0, none⟩), valV (xk, xn, xs), valV (3, (m : Int), ⟨#[]⟩), .int .i64 (q : Int)] w' (RPutP B gm l cl (keyT (xk, xn, xs)) (3, (m : Int), ⟨#[]⟩) (q : Int) (RF gm vl) w')) := ⟨fun w' hb => rput_any B gm l cl vl (by omega) (xk, xn, xs) (3, (m : Int), ⟨#[]⟩) (q : Int) w' (rt4.on hb)⟩
  have hq := HQ.out
  have x0 : wc.cell? ⟨gb, 1, none⟩ = some (.pointer (some ⟨gm, 0, none⟩)) := bx4.at_ 1
  have x1 := k5.at_ 0
  have x2 := k5.at_ 1
  have x3 := k5.at_ 2
  have x4 := k6.at_ 0
  have x5 := k6.at_ 1
  have x6 := k6.at_ 2
  have x7 := k3.at_ 5
  have RT4 := Veil.mk rt4
  have BX4 := Veil.mk bx4
  have K5 := Veil.mk k5
  have K6 := Veil.mk k6
  have K3 := Veil.mk k3
  have SP := Veil.mk hSp
  have FS2 := Veil.mk hFs2
  have T2 := Veil.mk hT2
  have HBP := Veil.mk hbp
  clear rt4 bx4 k5 k6 k3 hSp hFs2 hT2 hbp
  go_upto_region 5 with (fail)
  have hbD : Below wc.heap.size wc wc.drew := (Below.refl _ _).drew
  go_region_held3 (fun w' => w'.cell? ⟨gb, 1, none⟩ = some (.pointer (some ⟨gm, 0, none⟩)) ∧ w'.cell? ⟨g5, 0, none⟩ = some (.int .i64 xk) ∧ w'.cell? ⟨g5, 1, none⟩ = some (.int .i64 xn) ∧ w'.cell? ⟨g5, 2, none⟩ = some (.string xs) ∧ w'.cell? ⟨g6, 0, none⟩ = some (.int .i64 3) ∧ w'.cell? ⟨g6, 1, none⟩ = some (.int .i64 (m : Int)) ∧ w'.cell? ⟨g6, 2, none⟩ = some (.string ⟨#[]⟩) ∧ w'.cell? ⟨g3, 5, none⟩ = some (.int .i64 c.n)) (go_keep) (first | (go_at_call 61; ((with_reducible refine (HRP.out _ hbD).mono ?_); rintro e w4 ⟨rfl, l', hPL, hRPo⟩; have ht := hRPo; obtain ⟨_, _, ht, _⟩ := ht; have z0 := ((RT4.out.on hbD).keep ht (BX4.out.on hbD BX4.out.lt) (by decide)).at_ 1; have k5 := (RT4.out.on hbD).keep ht (K5.out.on hbD K5.out.lt) (by decide); have k6 := (RT4.out.on hbD).keep ht (K6.out.on hbD K6.out.lt) (by decide); have k3 := (RT4.out.on hbD).keep ht (K3.out.on hbD K3.out.lt) (by decide); have z1 := k5.at_ 0; have z2 := k5.at_ 1; have z3 := k5.at_ 2; have z4 := k6.at_ 0; have z5 := k6.at_ 1; have z6 := k6.at_ 2; have z7 := k3.at_ 5)))
  all_goals
   have hbq := hbD
   clear hq x0 x1 x2 x3 x4 x5 x6 x7
   obtain ⟨m1, m2, m3, m4, m5⟩ := both_put hPL SP.out.uq SP.out.ats SP.out.live SP.out.curs
   obtain ⟨⟨vl', hF⟩, hBB⟩ := BS.both SP.out T2.out FS2.out hbq hRPo m1 m2 m3 (fun x hx hc => Nat.le_trans (SP.out.ats x hx hc) m4) SP.out.clrs
   have HF := Veil.mk hF
   have HSM := Veil.mk (same_any _ B gb t gm _ _ l' cl vl' vc vd cs (by omega) (by omega) hF)
   have HBB := Veil.mk ((HBc.out.mono hBs).trans ((HBP.out.mono (Nat.le_trans hBs HBc.out.size)).trans hBB))
   have HM5 := Veil.mk m5
   clear m1 m2 m3 m4 m5 hF hBB hPL hRPo hbq
   go_wp2_with (first | (go_at_call 66; ((with_reducible refine HSM.out.mono ?_); rintro e w9 ⟨rfl, hb9⟩)))
   go_ret
   exact ⟨rfl, _, _, l', cl, vl', HF.out.on hb9, HM5.out, Int.le_refl _, by omega, HBB.out.trans (hb9.mono HF.out.tf.le)⟩
end Go.Proofs.Ythlhchaapdhbfaa
