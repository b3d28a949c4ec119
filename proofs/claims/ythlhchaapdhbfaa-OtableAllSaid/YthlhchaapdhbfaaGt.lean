/- The law's pair: play at Next. -/
import Derived.Test.YthlhchaapdhbfaaGs
namespace Go.Proofs.Ythlhchaapdhbfaa
open Go Go.RowKit

theorem nrow {w : World} {B gb t gm : Nat} {F : Nat → Prop} {O : Ob} {l : List Re} {cl : Int} {vl vc : Value} {gd n dc i : Nat} {cs : List Cu} {x x' : Cu} (h : BS w B gb t gm F O l cl vl vc (.slice (some ⟨gd, 0, none⟩) n dc) (cs.set i x')) (hx : cs[i]? = some x) (hd : x'.d = x.d) : w.cell? ⟨gd, i, none⟩ = some (.pointer (some ⟨x.d, 0, none⟩)) := by
  have h := h.cp.rd.cells (g := gd) rfl i (.pointer (some ⟨x.d, 0, none⟩)) (by rw [List.getElem?_map, List.getElem?_set_self (List.getElem?_eq_some_iff.1 hx).1, ← hd]; rfl)
  rwa [add_off] at h
set_option maxHeartbeats 4000000 in
set_option maxRecDepth 100000 in
theorem play_next (B gb t gm : Nat) (F : Nat → Prop) (O : Ob) (l : List Re) (cl : Int) (vl vc vd : Value) (cs : List Cu) (hdn : Dn cs) (hl : l.length < 20000) (hcs : cs.length < 900) (_ : 0 ≤ cl) (_ : cl < 10000) (c : CallD) (hkind : (c.kind.tmod 7 + 7) % 7 = 5) (h7 : 0 < c.kind.tmod 7 + 7) (h8 : c.kind.tmod 7 < 7) (hlen : c.len ≤ 100) (hlt : ∀ u ∈ c.l, u < 65536) (w : World) (hnum : W.Nums .u16 w c.a c.len c.l) (h : BS w B gb t gm F O l cl vl vc vd cs) :
    Calls Try.prog 35 #[.pointer (some ⟨gb, 0, none⟩), callV c] w (PlayR B gb t gm l cl cs w) := by
  have hkt : (c.kind.tmod 7 + 7).tmod 7 = 5 := by rw [Int.tmod_eq_emod_of_nonneg (by omega)]; exact hkind
  obtain ⟨m, hm, hm2⟩ := mask 16 (by omega) c.val
  rw [show ((2 ^ 16 - 1 : Nat) : Int) = 65535 from rfl] at hm
  obtain ⟨q, hq, hq2⟩ := mask 4 (by omega) c.n
  rw [show ((2 ^ 4 - 1 : Nat) : Int) = 15 from rfl] at hq
  obtain ⟨W, hW⟩ : ∃ W, W = w.alloc (.cells (callC c) 79) := ⟨_, rfl⟩
  have hBW : Below w.heap.size w W := by rw [hW]; exact (Below.refl _ _).alloc (Nat.le_refl _) _
  obtain ⟨g3, hg3⟩ : ∃ n, w.heap.size = n := ⟨_, rfl⟩
  have b3 : Box W g3 79 (callC c) := by rw [hW, ← hg3]; exact Box.new w _ _
  have hS := h.on hBW
  have HW := Veil.mk (And.intro hW hg3)
  have HS0 := Veil.mk hS
  have HC3 := Veil.mk b3
  have HM := Veil.mk hm
  have HQ := Veil.mk hq
  have HKT := Veil.mk (And.intro hkt hkind)
  have HNW := Veil.mk (hnum.on hBW)
  have HV : Veil (∀ w', Below W.heap.size W w' → Calls Try.prog 44 #[seedV c.kk c.kn c.a c.len c.cap] w' (SeedPost w')) := ⟨fun w' hb => seed_val c.kk c.kn c.a c.len c.cap c.l hlen hlt w' (HNW.out.on hb)⟩
  have hBs : B ≤ w.heap.size := h.tf.le
  have HBW := Veil.mk hBW
  clear hW hg3 hS b3 hm hq hkt hkind hBW hnum hlt h
  go_enter Try.func35, Try.ntmps35
  go_upto_region 1 with (fail)
  rw [← HW.out.1, HW.out.2]
  clear HW
  go_cut [5, 6] (fun s5 s6 wx => PlayP W (m : Int) s5 s6 wx)
  case first =>
    as_aux_lemma =>
      refine wp_region_gen (playK g3 (seedV c.kk c.kn c.a c.len c.cap) c.val (m : Int)) playS (List.replicate 11 undef) (by kernel_rfl) rfl rfl (by simp only [puts, setAll, List.replicate, List.set_cons_zero, List.set_cons_succ, List.setIfInBounds_toArray]) ?_ (by kernel_rfl) ?_
      · refine Steps.cons rfl (fun bb aa w' hbs hb0 hbp hI K hK => ?_) ?_
        · obtain ⟨us, hus, rfl, hI⟩ := hI
          obtain ⟨u0, u1, u2, u3, u4, u5, u6, u7, u8, u9, u10, rfl⟩ := len11 hus
          have hch := hI.below
          skip
          have HI := Veil.mk hI
          clear hI
          simp only [puts, setAll, List.setIfInBounds_toArray, List.set_cons_zero, List.set_cons_succ]
          go_simp
          exact hK _ _ (gen_val HI.out hus hbs 0 _ _ (by show 0 < 11; decide) (playK_fit _ _ _ _) rfl hb0 rfl (Below.refl _ _) (by simp only [puts, setAll, List.set_cons_zero, List.set_cons_succ, List.setIfInBounds_toArray]))
        refine Steps.cons rfl (fun bb aa w' hbs hb0 hbp hI K hK => ?_) ?_
        · obtain ⟨us, hus, rfl, hI⟩ := hI
          obtain ⟨u0, u1, u2, u3, u4, u5, u6, u7, u8, u9, u10, rfl⟩ := len11 hus
          have e0 : u0 = .pointer (some ⟨g3, 1, none⟩) := hI.val 0 _ rfl (gen_after 0 (by kernel_rfl) hbp)
          subst e0
          have hch := hI.below
          have q := HC3.out.on hch HC3.out.lt; have c1 : w'.cell? ⟨g3, 1, none⟩ = some (.int .i64 c.kk) := q.at_ 1; have c2 : w'.cell? ⟨g3, 2, none⟩ = some (.int .i64 c.kn) := q.at_ 2; have c3 : w'.cell? ⟨g3, 3, none⟩ = some (.slice c.a c.len c.cap) := q.at_ 3; clear q
          have HI := Veil.mk hI
          clear hI
          simp only [puts, setAll, List.setIfInBounds_toArray, List.set_cons_zero, List.set_cons_succ]
          go_simp
          exact hK _ _ (gen_val HI.out hus hbs 1 _ _ (by show 1 < 11; decide) (playK_fit _ _ _ _) rfl hb0 rfl (Below.refl _ _) (by simp only [puts, setAll, List.set_cons_zero, List.set_cons_succ, List.setIfInBounds_toArray]))
        refine Steps.cons rfl (fun bb aa w' hbs hb0 hbp hI K hK => ?_) ?_
        · obtain ⟨us, hus, rfl, hI⟩ := hI
          obtain ⟨u0, u1, u2, u3, u4, u5, u6, u7, u8, u9, u10, rfl⟩ := len11 hus
          have e1 : u1 = (seedV c.kk c.kn c.a c.len c.cap) := hI.val 1 _ rfl (gen_after 1 (by kernel_rfl) hbp)
          subst e1
          have hch := hI.below
          have HI := Veil.mk hI
          clear hI
          simp only [puts, setAll, List.setIfInBounds_toArray, List.set_cons_zero, List.set_cons_succ]
          go_simp
          refine (HV.out w' hch).mono ?_
          intro e w2 hp
          obtain ⟨k1, n1, s1, wv1, rfl, hb2⟩ := hp
          go_simp
          exact hK _ _ (gen_val HI.out hus hbs 2 _ _ (by show 2 < 11; decide) (playK_fit _ _ _ _) rfl hb0 ⟨(k1, n1, s1), wv1, rfl⟩ hb2 (by simp only [puts, setAll, List.set_cons_zero, List.set_cons_succ, List.setIfInBounds_toArray]))
        refine Steps.cons rfl (fun bb aa w' hbs hb0 hbp hI K hK => ?_) ?_
        · obtain ⟨us, hus, rfl, hI⟩ := hI
          obtain ⟨u0, u1, u2, u3, u4, u5, u6, u7, u8, u9, u10, rfl⟩ := len11 hus
          have hch := hI.below
          skip
          have HI := Veil.mk hI
          clear hI
          simp only [puts, setAll, List.setIfInBounds_toArray, List.set_cons_zero, List.set_cons_succ]
          go_simp
          exact hK _ _ (gen_val HI.out hus hbs 3 _ _ (by show 3 < 11; decide) (playK_fit _ _ _ _) rfl hb0 rfl (Below.refl _ _) (by simp only [puts, setAll, List.set_cons_zero, List.set_cons_succ, List.setIfInBounds_toArray]))
        refine Steps.cons rfl (fun bb aa w' hbs hb0 hbp hI K hK => ?_) ?_
        · obtain ⟨us, hus, rfl, hI⟩ := hI
          obtain ⟨u0, u1, u2, u3, u4, u5, u6, u7, u8, u9, u10, rfl⟩ := len11 hus
          have e3 : u3 = .pointer (some ⟨g3, 4, none⟩) := hI.val 3 _ rfl (gen_after 3 (by kernel_rfl) hbp)
          subst e3
          have hch := hI.below
          have q := HC3.out.on hch HC3.out.lt; have c4 : w'.cell? ⟨g3, 4, none⟩ = some (.int .i64 c.val) := q.at_ 4; clear q
          have HI := Veil.mk hI
          clear hI
          simp only [puts, setAll, List.setIfInBounds_toArray, List.set_cons_zero, List.set_cons_succ]
          go_simp
          exact hK _ _ (gen_val HI.out hus hbs 4 _ _ (by show 4 < 11; decide) (playK_fit _ _ _ _) rfl hb0 rfl (Below.refl _ _) (by simp only [puts, setAll, List.set_cons_zero, List.set_cons_succ, List.setIfInBounds_toArray]))
        refine Steps.cons rfl (fun bb aa w' hbs hb0 hbp hI K hK => ?_) ?_
        · obtain ⟨us, hus, rfl, hI⟩ := hI
          obtain ⟨u0, u1, u2, u3, u4, u5, u6, u7, u8, u9, u10, rfl⟩ := len11 hus
          have e4 : u4 = .int .i64 c.val := hI.val 4 _ rfl (gen_after 4 (by kernel_rfl) hbp)
          subst e4
          have hch := hI.below
          have hm := HM.out
          have HI := Veil.mk hI
          clear hI
          simp only [puts, setAll, List.setIfInBounds_toArray, List.set_cons_zero, List.set_cons_succ]
          go_simp
          exact hK _ _ (gen_val HI.out hus hbs 5 _ _ (by show 5 < 11; decide) (playK_fit _ _ _ _) rfl hb0 rfl (Below.refl _ _) (by simp only [puts, setAll, List.set_cons_zero, List.set_cons_succ, List.setIfInBounds_toArray]))
        refine Steps.cons rfl (fun bb aa w' hbs hb0 hbp hI K hK => ?_) ?_
        · obtain ⟨us, hus, rfl, hI⟩ := hI
          obtain ⟨u0, u1, u2, u3, u4, u5, u6, u7, u8, u9, u10, rfl⟩ := len11 hus
          have e5 : u5 = .int .i64 (m : Int) := hI.val 5 _ rfl (gen_after 5 (by kernel_rfl) hbp)
          subst e5
          have hch := hI.below
          skip
          have HI := Veil.mk hI
          clear hI
          simp only [puts, setAll, List.setIfInBounds_toArray, List.set_cons_zero, List.set_cons_succ]
          go_simp
          exact hK _ _ (gen_val HI.out hus hbs 6 _ _ (by show 6 < 11; decide) (playK_fit _ _ _ _) rfl hb0 rfl (Below.refl _ _) (by simp only [puts, setAll, List.set_cons_zero, List.set_cons_succ, List.setIfInBounds_toArray]))
        refine Steps.cons rfl (fun bb aa w' hbs hb0 hbp hI K hK => ?_) ?_
        · obtain ⟨us, hus, rfl, hI⟩ := hI
          obtain ⟨u0, u1, u2, u3, u4, u5, u6, u7, u8, u9, u10, rfl⟩ := len11 hus
          have hch := hI.below
          have HI := Veil.mk hI
          clear hI
          simp only [puts, setAll, List.setIfInBounds_toArray, List.set_cons_zero, List.set_cons_succ]
          go_simp
          exact hK _ _ (gen_box HI.out hus hbs 7 _ _ _ _ (by show 7 < 11; decide) (playK_fit _ _ _ _) rfl hb0 (by simp only [puts, setAll, List.set_cons_zero, List.set_cons_succ, List.setIfInBounds_toArray]))
        refine Steps.cons rfl (fun bb aa w' hbs hb0 hbp hI K hK => ?_) ?_
        · obtain ⟨us, hus, rfl, hI⟩ := hI
          obtain ⟨u0, u1, u2, u3, u4, u5, u6, u7, u8, u9, u10, rfl⟩ := len11 hus
          have hch := hI.below
          have HI := Veil.mk hI
          clear hI
          simp only [puts, setAll, List.setIfInBounds_toArray, List.set_cons_zero, List.set_cons_succ]
          go_simp
          exact hK _ _ (gen_box HI.out hus hbs 8 _ _ _ _ (by show 8 < 11; decide) (playK_fit _ _ _ _) rfl hb0 (by simp only [puts, setAll, List.set_cons_zero, List.set_cons_succ, List.setIfInBounds_toArray]))
        refine Steps.cons rfl (fun bb aa w' hbs hb0 hbp hI K hK => ?_) ?_
        · obtain ⟨us, hus, rfl, hI⟩ := hI
          obtain ⟨u0, u1, u2, u3, u4, u5, u6, u7, u8, u9, u10, rfl⟩ := len11 hus
          have hch := hI.below
          have hq1 := gen_after 7 (by kernel_rfl) hbp
          have hq2 := gen_after 2 (by kernel_rfl) hbp
          have hq := gen_sto hI hus hbs 9 7 2 _ _ (by show 9 < 11; decide) (playK_fit _ _ _ _) rfl rfl hb0 hq1 hq2
          have hs : ∃ x : Vt, WV x.1 x.2.1 x.2.2 ∧ u2 = valV x := hI.val 2 _ rfl hq2
          clear hI
          simp only [puts, setAll, List.setIfInBounds_toArray, List.set_cons_zero, List.set_cons_succ]
          obtain ⟨g, hg, hx, hJ⟩ := hq
          have e7 : u7 = .pointer (some ⟨g, 0, none⟩) := hg
          subst e7
          clear hg
          obtain ⟨⟨k1, n1, s1⟩, wv1, rfl⟩ := hs
          have x0 : w'.cell? ⟨g, 0, none⟩ = some (.int .i64 0) := hx.at_ 0
          have x1 : w'.cell? ⟨g, 1, none⟩ = some (.int .i64 0) := hx.at_ 1
          have x2 : w'.cell? ⟨g, 2, none⟩ = some (.string ⟨#[]⟩) := hx.at_ 2
          have f0 := hx.free 0
          have f1 := hx.free 1
          have f2 := hx.free 2
          have HJ := Veil.mk hJ
          have HX := Veil.mk hx
          clear hJ hx
          go_simp
          exact hK _ _ (HJ.out _ _ _ _ (((HX.out.put 0 _).put 1 _).put 2 _) (touch3 _ _ _ _ _) (by simp only [puts, setAll, List.set_cons_zero, List.set_cons_succ, List.setIfInBounds_toArray]))
        refine Steps.cons rfl (fun bb aa w' hbs hb0 hbp hI K hK => ?_) ?_
        · obtain ⟨us, hus, rfl, hI⟩ := hI
          obtain ⟨u0, u1, u2, u3, u4, u5, u6, u7, u8, u9, u10, rfl⟩ := len11 hus
          have hch := hI.below
          have hq1 := gen_after 8 (by kernel_rfl) hbp
          have hq2 := gen_after 6 (by kernel_rfl) hbp
          have hq := gen_sto hI hus hbs 10 8 6 _ _ (by show 10 < 11; decide) (playK_fit _ _ _ _) rfl rfl hb0 hq1 hq2
          have hs : u6 = .agg #[.int .i64 3, .int .i64 (m : Int), .string ⟨#[]⟩] := hI.val 6 _ rfl hq2
          clear hI
          simp only [puts, setAll, List.setIfInBounds_toArray, List.set_cons_zero, List.set_cons_succ]
          obtain ⟨g, hg, hx, hJ⟩ := hq
          have e8 : u8 = .pointer (some ⟨g, 0, none⟩) := hg
          subst e8
          clear hg
          subst hs
          have x0 : w'.cell? ⟨g, 0, none⟩ = some (.int .i64 0) := hx.at_ 0
          have x1 : w'.cell? ⟨g, 1, none⟩ = some (.int .i64 0) := hx.at_ 1
          have x2 : w'.cell? ⟨g, 2, none⟩ = some (.string ⟨#[]⟩) := hx.at_ 2
          have f0 := hx.free 0
          have f1 := hx.free 1
          have f2 := hx.free 2
          have HJ := Veil.mk hJ
          have HX := Veil.mk hx
          clear hJ hx
          go_simp
          exact hK _ _ (HJ.out _ _ _ _ (((HX.out.put 0 _).put 1 _).put 2 _) (touch3 _ _ _ _ _) (by simp only [puts, setAll, List.set_cons_zero, List.set_cons_succ, List.setIfInBounds_toArray]))
        exact Steps.nil
      · intro us w5 hus d hd hJ
        obtain ⟨u0, u1, u2, u3, u4, u5, u6, u7, u8, u9, u10, rfl⟩ := len11 hus
        have p2 : ∃ x : Vt, WV x.1 x.2.1 x.2.2 ∧ u2 = valV x := hJ.val 2 _ rfl (hd 2 (by show 2 < 11; decide))
        have p6 : u6 = .agg #[.int .i64 3, .int .i64 (m : Int), .string ⟨#[]⟩] := hJ.val 6 _ rfl (hd 6 (by show 6 < 11; decide))
        have b7 := hJ.box 7 _ _ _ _ rfl (hd 7 (by show 7 < 11; decide))
        have b8 := hJ.box 8 _ _ _ _ rfl (hd 8 (by show 8 < 11; decide))
        rw [hd 9 (by show 9 < 11; decide)] at b7
        rw [hd 10 (by show 10 < 11; decide)] at b8
        have hbl := hJ.below
        clear hJ hd
        simp only [puts, setAll, List.setIfInBounds_toArray, List.set_cons_zero, List.set_cons_succ]
        have hP : PlayP W (m : Int) u7 u8 w5 := by
          obtain ⟨x, wx, e2⟩ := p2
          obtain ⟨ga, e7, -, x7⟩ := b7
          obtain ⟨gz, e8, -, x8⟩ := b8
          have f2 : uget [u0, u1, u2, u3, u4, u5, u6, u7, u8, u9, u10] 2 = valV x := e2
          have f6 : uget [u0, u1, u2, u3, u4, u5, u6, u7, u8, u9, u10] 6 = .agg #[.int .i64 3, .int .i64 (m : Int), .string ⟨#[]⟩] := p6
          rw [f2] at x7
          rw [f6] at x8
          exact ⟨ga, gz, x, e7, e8, wx, x7, x8, hbl⟩
        have HP := Veil.mk hP
        clear hP p2 p6 b7 b8 hbl
        go_wp2
        go_meet
        exact HP.out
  case rest =>
  obtain ⟨g5, g6, ⟨xk, xn, xs⟩, rfl, rfl, wx, b5, b6, hbw⟩ := hcut
  replace b5 : Box wc g5 82 #[.int .i64 xk, .int .i64 xn, .string xs] := b5
  replace b6 : Box wc g6 82 #[.int .i64 3, .int .i64 (m : Int), .string ⟨#[]⟩] := b6
  have HZ := Veil.mk (show xs.size ≤ 1000 from Nat.le_trans wx.size (by decide))
  have hS := HS0.out.on hbw
  have hc3 := HC3.out.on hbw HC3.out.lt
  have hBc : Below w.heap.size w wc := HBW.out.trans (hbw.mono HBW.out.size)
  clear wx HV HNW HS0 HC3 HM hbw
  have HS := Veil.mk hS
  have H5 := Veil.mk b5
  have H6 := Veil.mk b6
  have H3 := Veil.mk hc3
  have HBc := Veil.mk hBc
  have c30 : wc.cell? ⟨g3, 0, none⟩ = some (.int .i64 c.kind) := hc3.at_ 0
  have hkt := HKT.out.1
  have hkind := HKT.out.2
  clear hS b5 b6 hc3 hBc HKT
  go_upto_region 3 with (fail)
  have HKT := Veil.mk (And.intro hkt hkind)
  clear hkt hkind c30
  obtain ⟨ca, cc, rfl, hcc, hcg, hcm⟩ := slice_own HS.out.cp.rc
  obtain ⟨da, dc, rfl, hdc, hdg, hdm⟩ := slice_own HS.out.cp.rd
  have x2 : wc.cell? ⟨gb, 2, none⟩ = some (.slice ca cs.length cc) := HS.out.box.at_ 2
  have x3 : wc.cell? ⟨gb, 3, none⟩ = some (.slice da cs.length dc) := HS.out.box.at_ 3
  have x7 : wc.cell? ⟨g3, 5, none⟩ = some (.int .i64 c.n) := H3.out.at_ 5
  by_cases hz : cs.length = 0
  · rw [hz] at x2
    go_upto_region 23 with (fail)
    go_wp2
    go_ret
    exact ⟨rfl, _, _, l, cl, vl, _, _, cs, HS.out, hdn, .inl (Nat.le_refl _), by omega, Int.le_refl _, by omega, HBc.out.mono hBs⟩
  · obtain ⟨n7, n8, i, hi, hin⟩ := idx_facts c.n cs.length hz
    have hz' : (cs.length : Int) ≠ 0 := by omega
    have hz'' : ((cs.length : Int) == 0) = false := beq_eq_false_iff_ne.2 hz'
    go_upto_region 24 with (fail)
    go_quiet (fail)
    have hbq := below_drewN (Below.refl wc.heap.size wc) nq
    have hS3 := HS.out.on hbq
    have h33 := H3.out.on hbq H3.out.lt
    have hBc3 : Below w.heap.size w (wc.drewN nq) := HBc.out.trans (hbq.mono HBc.out.size)
    generalize wc.drewN nq = W3 at hS3 h33 hBc3 ⊢
    clear x2 x3 x7 hbq n7 n8 hin hz' hz''
    obtain ⟨x, hx⟩ : ∃ x, cs[i]? = some x := ⟨_, List.getElem?_eq_getElem hi⟩
    obtain ⟨gc, rfl⟩ := hcg (by omega)
    obtain ⟨gd, rfl⟩ := hdg (by omega)
    have rc : W3.cell? ⟨gc, i, none⟩ = some (.pointer (some ⟨x.c, 0, none⟩)) := by
      have h := hS3.cp.rc.cells (g := gc) rfl i (.pointer (some ⟨x.c, 0, none⟩)) (by rw [List.getElem?_map, hx]; rfl)
      rwa [add_off] at h
    have hxm := List.mem_of_getElem? hx
    have x2 : W3.cell? ⟨gb, 2, none⟩ = some (.slice (some ⟨gc, 0, none⟩) cs.length cc) := hS3.box.at_ 2
    have c30 : W3.cell? ⟨g3, 0, none⟩ = some (.int .i64 c.kind) := h33.at_ 0
    have hkt := HKT.out.1
    have hkind := HKT.out.2
    have hi2 : (i : Int) < (cs.length : Int) := by omega
    have hi0 : (0 : Int) ≤ (i : Int) := by omega
    have HX := Veil.mk (And.intro hx hxm)
    have HS3 := Veil.mk hS3
    have HB3 := Veil.mk hBc3
    clear hx hxm hS3 h33 hBc3 HS HBc HKT H3 H5 H6 HQ HBW
    obtain ⟨nk, nv, nf, ok, hN⟩ := next_both HS3.out hdn hcs (by omega) HX.out.1
    have HN := Veil.mk hN
    clear hN
    go_wp2_with (first | (go_at_call 42; ((with_reducible refine HN.out.mono ?_); rintro e w4 ⟨rfl, ⟨-, -, nb⟩, n2, n3, n4, hR⟩; clear x2 rc; have HR := Veil.mk hR; have HN3 := Veil.mk (And.intro n3 n4); have HNB := Veil.mk (And.intro nb n2); clear hR n3 n4 nb n2)))
    have hb5 : Below w4.heap.size w4 ((w4.alloc (.cells #[.int .i64 nk.1, .int .i64 nk.2.1, .string nk.2.2] 82)).alloc (.cells #[.int .i64 nv.1, .int .i64 nv.2.1, .string nv.2.2] 82)) := ((Below.refl _ _).alloc (Nat.le_refl _) _).alloc (by simp) _
    have bk5 : Box ((w4.alloc (.cells #[.int .i64 nk.1, .int .i64 nk.2.1, .string nk.2.2] 82)).alloc (.cells #[.int .i64 nv.1, .int .i64 nv.2.1, .string nv.2.2] 82)) w4.heap.size 82 #[.int .i64 nk.1, .int .i64 nk.2.1, .string nk.2.2] := (Box.new w4 _ _).more _
    have bv5 : Box ((w4.alloc (.cells #[.int .i64 nk.1, .int .i64 nk.2.1, .string nk.2.2] 82)).alloc (.cells #[.int .i64 nv.1, .int .i64 nv.2.1, .string nv.2.2] 82)) (w4.heap.size + 1) 82 #[.int .i64 nv.1, .int .i64 nv.2.1, .string nv.2.2] := by
      have h := Box.new (w4.alloc (.cells #[.int .i64 nk.1, .int .i64 nk.2.1, .string nk.2.2] 82)) 82 #[.int .i64 nv.1, .int .i64 nv.2.1, .string nv.2.2]
      rwa [show (w4.alloc (.cells #[.int .i64 nk.1, .int .i64 nk.2.1, .string nk.2.2] 82)).heap.size = w4.heap.size + 1 from by simp] at h
    generalize (w4.alloc (.cells #[.int .i64 nk.1, .int .i64 nk.2.1, .string nk.2.2] 82)).alloc (.cells #[.int .i64 nv.1, .int .i64 nv.2.1, .string nv.2.2] 82) = W5 at hb5 bk5 bv5 ⊢
    obtain ⟨h12, hh12⟩ : ∃ n, w4.heap.size + 1 = n := ⟨_, rfl⟩
    rw [hh12] at bv5 ⊢
    obtain ⟨g12, hg12⟩ : ∃ n, w4.heap.size = n := ⟨_, rfl⟩
    rw [hg12] at bk5 ⊢
    have HR2 : Veil (∀ w2', Below W5.heap.size W5 w2' → Calls Try.prog 65 #[.pointer (some ⟨gm, 0, none⟩), .pointer (some ⟨x.d, 0, none⟩)] w2' (RBothP W3 B gb t gm l cl vl (.slice (some ⟨gc, 0, none⟩) cs.length cc) (.slice (some ⟨gd, 0, none⟩) cs.length dc) i cs x nk nv nf ok w2')) := ⟨fun w2' hb => HR.out w2' (hb5.trans (hb.mono hb5.size))⟩
    have nb5 := HNB.out.1.on hb5 HNB.out.1.lt
    have row5 : W5.cell? ⟨gd, i, none⟩ = some (.pointer (some ⟨x.d, 0, none⟩)) := by
      have h := HNB.out.2 gd _ _ rfl
      rw [hb5.cell (World.block_lt_of_cell? w4 _ h)]
      exact h
    have xm : W5.cell? ⟨gb, 1, none⟩ = some (.pointer (some ⟨gm, 0, none⟩)) := nb5.at_ 1
    have x3 : W5.cell? ⟨gb, 3, none⟩ = some (.slice (some ⟨gd, 0, none⟩) cs.length dc) := nb5.at_ 3
    go_cut [16, 17] (fun s16 s17 wx => ∃ (ge : Nat) (y : Re), s16 = .pointer (some ⟨ge, 0, none⟩) ∧ s17 = .bool ok ∧ (y.key = nk ∧ y.val = nv ∧ y.fl = nf) ∧ Box wx ge 84 #[.int .i64 y.key.1, .int .i64 y.key.2.1, .string y.key.2.2, .int .i64 y.val.1, .int .i64 y.val.2.1, .string y.val.2.2, .int .i64 y.fl, .bool y.gone] ∧ Box wx g12 82 #[.int .i64 nk.1, .int .i64 nk.2.1, .string nk.2.2] ∧ Box wx h12 82 #[.int .i64 nv.1, .int .i64 nv.2.1, .string nv.2.2] ∧ ∃ F' O' x', BS wx B gb t gm F' O' l cl vl (.slice (some ⟨gc, 0, none⟩) cs.length cc) (.slice (some ⟨gd, 0, none⟩) cs.length dc) (cs.set i x') ∧ Dn (cs.set i x') ∧ x'.c = x.c ∧ x'.d = x.d ∧ Below B W3 wx)
    case first =>
      have hbD : Below W5.heap.size W5 W5.drew := (Below.refl _ _).drew
      have hbA : Below W5.heap.size W5 (W5.alloc (.cells #[.int .i64 0, .int .i64 0, .string ⟨#[]⟩, .int .i64 0, .int .i64 0, .string ⟨#[]⟩, .int .i64 0, .bool false] 84)).drew := ((Below.refl _ _).alloc (Nat.le_refl _) _).drew
      have nn1 := World.new_ne W5 _ xm
      have nn3 := World.new_ne W5 _ x3
      have nnr := World.new_ne W5 _ row5
      have hset := HX.out.1
      have hxlt : x.d < w4.heap.size := by obtain ⟨cs0, fr0, h0⟩ := HN3.out.1; exact (Array.getElem?_eq_some_iff.1 h0).1
      have hsz1 := hb5.size
      have hsz2 := HN3.out.2
      have hxd : W5.heap.size ≠ x.d := fun e => by obtain ⟨cs0, fr0, h0⟩ := HN3.out.1; have h1 := (Array.getElem?_eq_some_iff.1 h0).1; have h2 := hb5.size; omega
      go_region_held3 (fun w' => w'.cell? ⟨gb, 1, none⟩ = some (.pointer (some ⟨gm, 0, none⟩)) ∧ w'.cell? ⟨gb, 3, none⟩ = some (.slice (some ⟨gd, 0, none⟩) cs.length dc) ∧ w'.cell? ⟨gd, i, none⟩ = some (.pointer (some ⟨x.d, 0, none⟩))) (go_keep) (first | (go_at_call 65; ((with_reducible refine (HR2.out _ hbD).mono ?_); rintro e w6 ⟨y, rfl, hy', F5, O5, x5, hB5, hdn5, hc5, hd5, hbb5, ht5⟩; have HY := Veil.mk hy'; clear hy'; have z1 := hB5.box.at_ 1; have z3 := hB5.box.at_ 3; have zr := nrow hB5 hset hd5; have hwas := hbD; have be6 := hB5.box)) | (go_at_call 65; ((with_reducible refine (HR2.out _ hbA).mono ?_); rintro e w6 ⟨y, rfl, hy', F5, O5, x5, hB5, hdn5, hc5, hd5, hbb5, ht5⟩; have HY := Veil.mk hy'; clear hy'; have z1 := hB5.box.at_ 1; have z3 := hB5.box.at_ 3; have zr := nrow hB5 hset hd5; have hwas := hbA; have be6 := (show Box (W5.alloc (.cells #[.int .i64 0, .int .i64 0, .string ⟨#[]⟩, .int .i64 0, .int .i64 0, .string ⟨#[]⟩, .int .i64 0, .bool false] 84)).drew W5.heap.size 84 #[.int .i64 0, .int .i64 0, .string ⟨#[]⟩, .int .i64 0, .int .i64 0, .string ⟨#[]⟩, .int .i64 0, .bool false] from Box.new W5 _ _).touch ht5 (fun e => hxd e); have fe0 := be6.free 0; have fe1 := be6.free 1; have fe2 := be6.free 2; have fe3 := be6.free 3; have fe4 := be6.free 4; have fe5 := be6.free 5; have fe6 := be6.free 6; have fe7 := be6.free 7; have ye0 := be6.at_ 0; have ye1 := be6.at_ 1; have ye2 := be6.at_ 2; have ye3 := be6.at_ 3; have ye4 := be6.at_ 4; have ye5 := be6.at_ 5; have ye6 := be6.at_ 6; have ye7 := be6.at_ 7)))
      · have bk6 := (bk5.on hwas bk5.lt).touch ht5 (fun e => by omega)
        have bv6 := (bv5.on hwas bv5.lt).touch ht5 (fun e => by omega)
        go_wp2
        go_meet
        exact ⟨_, y, rfl, rfl, HY.out, Box.new w6 _ _, bk6.more _, bv6.more _, F5, O5, x5, hB5.on ((Below.refl _ _).alloc (Nat.le_refl _) _), hdn5, hc5, hd5, hbb5.trans (((Below.refl w6.heap.size w6).alloc (Nat.le_refl _) _).mono hB5.tf.le)⟩
      · have bk6 := (bk5.on hwas bk5.lt).touch ht5 (fun e => by omega)
        have bv6 := (bv5.on hwas bv5.lt).touch ht5 (fun e => by omega)
        have hnrf : ¬ RF gm vl W5.heap.size := fun hk => by have := (HS3.out.rt.lt hk).2; omega
        have htq := (((((((((Touch.refl (fun k => k = W5.heap.size) w6).on2 rfl 0 (.int .i64 y.key.1)).on2 rfl 1 (.int .i64 y.key.2.1)).on2 rfl 2 (.string y.key.2.2)).on2 rfl 3 (.int .i64 y.val.1)).on2 rfl 4 (.int .i64 y.val.2.1)).on2 rfl 5 (.string y.val.2.2)).on2 rfl 6 (.int .i64 y.fl)).on2 rfl 7 (.bool y.gone))
        have hbe := ((((((((be6.put 0 (.int .i64 y.key.1)).put 1 (.int .i64 y.key.2.1)).put 2 (.string y.key.2.2)).put 3 (.int .i64 y.val.1)).put 4 (.int .i64 y.val.2.1)).put 5 (.string y.val.2.2)).put 6 (.int .i64 y.fl)).put 7 (.bool y.gone))
        have hnk := bk5.lt
        have hnv := bv5.lt
        have HBE := Veil.mk hbe
        have HFT := Veil.mk (And.intro (hB5.ent htq be6.lab hnrf) (And.intro (bk6.touch htq (fun e => by omega)) (And.intro (bv6.touch htq (fun e => by omega)) (hbb5.trans (htq.below hB5.tf.le (fun k hk => by omega))))))
        clear htq hbe hnk hnv bk6 bv6
        go_wp2
        go_meet
        exact ⟨_, y, rfl, rfl, HY.out, HBE.out, HFT.out.2.1, HFT.out.2.2.1, F5, O5, x5, HFT.out.1, hdn5, hc5, hd5, HFT.out.2.2.2⟩
    case rest =>
      obtain ⟨ge, y, rfl, rfl, ⟨rfl, rfl, rfl⟩, bE, bK, bV, F5, O5, x5, hB5, hdn5, hc5, hd5, hbb5⟩ := hcut
      clear xm x3 row5 nb5 bk5 bv5 hb5
      have hx5 : (cs.set i x5)[i]? = some x5 := List.getElem?_set_self (List.getElem?_eq_some_iff.1 HX.out.1).1
      have x2 : wc.cell? ⟨gb, 2, none⟩ = some (.slice (some ⟨gc, 0, none⟩) cs.length cc) := hB5.box.at_ 2
      have x3 : wc.cell? ⟨gb, 3, none⟩ = some (.slice (some ⟨gd, 0, none⟩) cs.length dc) := hB5.box.at_ 3
      have row5 := nrow hB5 HX.out.1 hd5
      have rc5 : wc.cell? ⟨gc, i, none⟩ = some (.pointer (some ⟨x.c, 0, none⟩)) := by
        have h := hB5.cp.rc.cells (g := gc) rfl i (.pointer (some ⟨x.c, 0, none⟩)) (by rw [List.getElem?_map, hx5, ← hc5]; rfl)
        rwa [add_off] at h
      have xsh : wc.cell? ⟨x.d, 2, none⟩ = some (.bool x5.shut) := by
        have h := (hB5.cp.bd x5 (List.mem_of_getElem? hx5)).2.at_ 2
        rwa [hd5] at h
      have hop : ∀ n, Calls Try.prog 43 #[.pointer (some ⟨x.c, 0, none⟩)] (wc.drewN n) fun e w' => e = .returned (.bool (!x5.shut)) ∧ w' = wc.drewN n := fun n => by
        rw [← hc5]
        exact open_both (hB5.on (below_drewN (Below.refl _ wc) n)) hx5
      have k0 := bK.at_ 0
      have k1 := bK.at_ 1
      have k2 := bK.at_ 2
      have v0 := bV.at_ 0
      have v1 := bV.at_ 1
      have v2 := bV.at_ 2
      have e0 := bE.at_ 0
      have e1 := bE.at_ 1
      have e2 := bE.at_ 2
      have e3 := bE.at_ 3
      have e4 := bE.at_ 4
      have e5 := bE.at_ 5
      have e6 := bE.at_ 6
      have HFIN : Veil (∀ n, BS (wc.drewN n) B gb t gm F5 O5 l cl vl (.slice (some ⟨gc, 0, none⟩) cs.length cc) (.slice (some ⟨gd, 0, none⟩) cs.length dc) (cs.set i x5) ∧ Below B w (wc.drewN n)) := ⟨fun n => by
        have hd := below_drewN (Below.refl wc.heap.size wc) n
        exact ⟨hB5.on hd, (HB3.out.mono hBs).trans (hbb5.trans (hd.mono hB5.tf.le))⟩⟩
      have HD5 := Veil.mk hdn5
      obtain ⟨sh, hsh⟩ : ∃ s, x5.shut = s := ⟨_, rfl⟩
      rw [hsh] at xsh
      rw [hsh] at hop
      have HOP := Veil.mk hop
      have hcl5 : (cs.set i x5).length = cs.length := by rw [List.length_set]
      have HCL := Veil.mk hcl5
      clear hop hsh hB5 bE bK bV hdn5 hc5 hd5 hbb5 hx5 hcl5 c30 hkt hkind HR HR2 HN HN3 HNB HS3 hg12 hh12
      have HI := Veil.mk hi2
      cases ok <;> cases sh
      all_goals
        as_aux_lemma =>
          go_upto_region 30 with (fail)
          go_quiet (first | (go_at_call 43; exact Calls.quiet_of_same (HOP.out _)) | (go_at_call 43; exact Calls.quiet_add_same (HOP.out _)))
          have HBD := Veil.mk (HFIN.out nq)
          generalize wc.drewN nq = w8 at HBD ⊢
          have HSM := Veil.mk (same_any _ B gb t gm _ _ l cl _ _ _ (cs.set i x5) (by omega) (by rw [HCL.out]; omega) HBD.out.1)
          clear x2 x3 row5 rc5 xsh k0 k1 k2 v0 v1 v2 e0 e1 e2 e3 e4 e5 e6
          go_wp2_with (first | (go_at_call 66; ((with_reducible refine HSM.out.mono ?_); rintro e w9 ⟨rfl, hb9⟩)))
          go_ret
          exact ⟨rfl, F5, O5, l, cl, _, _, _, cs.set i x5, HBD.out.1.on hb9, HD5.out, .inl (by rw [HCL.out]; exact Nat.le_refl _), by omega, Int.le_refl _, by omega, HBD.out.2.trans (hb9.mono HBD.out.1.tf.le)⟩
end Go.Proofs.Ythlhchaapdhbfaa
