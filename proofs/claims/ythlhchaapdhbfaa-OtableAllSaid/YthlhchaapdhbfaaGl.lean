/- The law's pair: play at Delete. -/
import Derived.Test.YthlhchaapdhbfaaGk
namespace Go.Proofs.Ythlhchaapdhbfaa
open Go Go.RowKit

set_option maxHeartbeats 1000000 in
set_option maxRecDepth 100000 in
theorem play_del (B gb t gm : Nat) (F : Nat → Prop) (O : Ob) (l : List Re) (cl : Int) (vl vc vd : Value) (cs : List Cu) (hl : l.length < 20000) (hcs : cs.length < 900) (_ : 0 ≤ cl) (_ : cl < 10000) (c : CallD) (hkind : (c.kind.tmod 7 + 7) % 7 = 1) (h7 : 0 < c.kind.tmod 7 + 7) (h8 : c.kind.tmod 7 < 7) (hlen : c.len ≤ 100) (hlt : ∀ u ∈ c.l, u < 65536) (w : World) (hnum : W.Nums .u16 w c.a c.len c.l) (h : BS w B gb t gm F O l cl vl vc vd cs) :
    Calls Try.prog 35 #[.pointer (some ⟨gb, 0, none⟩), callV c] w (PlayQ B gb t gm l cl vc vd cs w) := by
  have hkt : (c.kind.tmod 7 + 7).tmod 7 = 1 := by rw [Int.tmod_eq_emod_of_nonneg (by omega)]; exact hkind
  obtain ⟨m, hm, hm2⟩ := mask 16 (by omega) c.val
  rw [show ((2 ^ 16 - 1 : Nat) : Int) = 65535 from rfl] at hm
  obtain ⟨q, hq, hq2⟩ := mask 4 (by omega) c.n
  rw [show ((2 ^ 4 - 1 : Nat) : Int) = 15 from rfl] at hq
  obtain ⟨W, hW⟩ : ∃ W, W = w.alloc (.cells (callC c) 79) := ⟨_, rfl⟩
  have hBW : Below w.heap.size w W := by rw [hW]; exact (Below.refl _ _).alloc (Nat.le_refl _) _
  obtain ⟨g3, hg3⟩ : ∃ n, w.heap.size = n := ⟨_, rfl⟩
  have b3 : Box W g3 79 (callC c) := by rw [hW, ← hg3]; exact Box.new w _ _
  have hS := h.on hBW
  have HW := Veil.mk (And.intro hW hg3)
  have HS0 := Veil.mk hS
  have HC3 := Veil.mk b3
  have HM := Veil.mk hm
  have HQ := Veil.mk hq
  have HKT := Veil.mk (And.intro hkt hkind)
  have HNW := Veil.mk (hnum.on hBW)
  have HV : Veil (∀ w', Below W.heap.size W w' → Calls Try.prog 44 #[seedV c.kk c.kn c.a c.len c.cap] w' (SeedPost w')) := ⟨fun w' hb => seed_val c.kk c.kn c.a c.len c.cap c.l hlen hlt w' (HNW.out.on hb)⟩
  have hBs : B ≤ w.heap.size := h.tf.le
  have HBW := Veil.mk hBW
  clear hW hg3 hS b3 hm hq hkt hkind hBW hnum hlt h
  go_enter Try.func35, Try.ntmps35
  go_upto_region 1 with (fail)
  rw [← HW.out.1, HW.out.2]
  clear HW
  go_cut [5, 6] (fun s5 s6 wx => PlayP W (m : Int) s5 s6 wx)
  case first =>
    refine wp_region_gen (playK g3 (seedV c.kk c.kn c.a c.len c.cap) c.val (m : Int)) playS (List.replicate 11 undef) (by kernel_rfl) rfl rfl (by simp only [puts, setAll, List.replicate, List.set_cons_zero, List.set_cons_succ, List.setIfInBounds_toArray]) ?_ (by kernel_rfl) ?_
    · refine Steps.cons rfl (fun bb aa w' hbs hb0 hbp hI K hK => ?_) ?_
      · obtain ⟨us, hus, rfl, hI⟩ := hI
        obtain ⟨u0, u1, u2, u3, u4, u5, u6, u7, u8, u9, u10, rfl⟩ := len11 hus
        have hch := hI.below
        skip
        have HI := Veil.mk hI
        clear hI
        simp only [puts, setAll, List.setIfInBounds_toArray, List.set_cons_zero, List.set_cons_succ]
        go_simp
        exact hK _ _ (gen_val HI.out hus hbs 0 _ _ (by show 0 < 11; decide) (playK_fit _ _ _ _) rfl hb0 rfl (Below.refl _ _) (by simp only [puts, setAll, List.set_cons_zero, List.set_cons_succ, List.setIfInBounds_toArray]))
      refine Steps.cons rfl (fun bb aa w' hbs hb0 hbp hI K hK => ?_) ?_
      · obtain ⟨us, hus, rfl, hI⟩ := hI
        obtain ⟨u0, u1, u2, u3, u4, u5, u6, u7, u8, u9, u10, rfl⟩ := len11 hus
        have e0 : u0 = .pointer (some ⟨g3, 1, none⟩) := hI.val 0 _ rfl (gen_after 0 (by kernel_rfl) hbp)
        subst e0
        have hch := hI.below
        have q := HC3.out.on hch HC3.out.lt; have c1 : w'.cell? ⟨g3, 1, none⟩ = some (.int .i64 c.kk) := q.at_ 1; have c2 : w'.cell? ⟨g3, 2, none⟩ = some (.int .i64 c.kn) := q.at_ 2; have c3 : w'.cell? ⟨g3, 3, none⟩ = some (.slice c.a c.len c.cap) := q.at_ 3; clear q
        have HI := Veil.mk hI
        clear hI
        simp only [puts, setAll, List.setIfInBounds_toArray, List.set_cons_zero, List.set_cons_succ]
        go_simp
        exact hK _ _ (gen_val HI.out hus hbs 1 _ _ (by show 1 < 11; decide) (playK_fit _ _ _ _) rfl hb0 rfl (Below.refl _ _) (by simp only [puts, setAll, List.set_cons_zero, List.set_cons_succ, List.setIfInBounds_toArray]))
      refine Steps.cons rfl (fun bb aa w' hbs hb0 hbp hI K hK => ?_) ?_
      · obtain ⟨us, hus, rfl, hI⟩ := hI
        obtain ⟨u0, u1, u2, u3, u4, u5, u6, u7, u8, u9, u10, rfl⟩ := len11 hus
        have e1 : u1 = (seedV c.kk c.kn c.a c.len c.cap) := hI.val 1 _ rfl (gen_after 1 (by kernel_rfl) hbp)
        subst e1
        have hch := hI.below
        have HI := Veil.mk hI
        clear hI
        simp only [puts, setAll, List.setIfInBounds_toArray, List.set_cons_zero, List.set_cons_succ]
        go_simp
        refine (HV.out w' hch).mono ?_
        intro e w2 hp
        obtain ⟨k1, n1, s1, wv1, rfl, hb2⟩ := hp
        go_simp
        exact hK _ _ (gen_val HI.out hus hbs 2 _ _ (by show 2 < 11; decide) (playK_fit _ _ _ _) rfl hb0 ⟨(k1, n1, s1), wv1, rfl⟩ hb2 (by simp only [puts, setAll, List.set_cons_zero, List.set_cons_succ, List.setIfInBounds_toArray]))
      refine Steps.cons rfl (fun bb aa w' hbs hb0 hbp hI K hK => ?_) ?_
      · obtain ⟨us, hus, rfl, hI⟩ := hI
        obtain ⟨u0, u1, u2, u3, u4, u5, u6, u7, u8, u9, u10, rfl⟩ := len11 hus
        have hch := hI.below
        skip
        have HI := Veil.mk hI
        clear hI
        simp only [puts, setAll, List.setIfInBounds_toArray, List.set_cons_zero, List.set_cons_succ]
        go_simp
        exact hK _ _ (gen_val HI.out hus hbs 3 _ _ (by show 3 < 11; decide) (playK_fit _ _ _ _) rfl hb0 rfl (Below.refl _ _) (by simp only [puts, setAll, List.set_cons_zero, List.set_cons_succ, List.setIfInBounds_toArray]))
      refine Steps.cons rfl (fun bb aa w' hbs hb0 hbp hI K hK => ?_) ?_
      · obtain ⟨us, hus, rfl, hI⟩ := hI
        obtain ⟨u0, u1, u2, u3, u4, u5, u6, u7, u8, u9, u10, rfl⟩ := len11 hus
        have e3 : u3 = .pointer (some ⟨g3, 4, none⟩) := hI.val 3 _ rfl (gen_after 3 (by kernel_rfl) hbp)
        subst e3
        have hch := hI.below
        have q := HC3.out.on hch HC3.out.lt; have c4 : w'.cell? ⟨g3, 4, none⟩ = some (.int .i64 c.val) := q.at_ 4; clear q
        have HI := Veil.mk hI
        clear hI
        simp only [puts, setAll, List.setIfInBounds_toArray, List.set_cons_zero, List.set_cons_succ]
        go_simp
        exact hK _ _ (gen_val HI.out hus hbs 4 _ _ (by show 4 < 11; decide) (playK_fit _ _ _ _) rfl hb0 rfl (Below.refl _ _) (by simp only [puts, setAll, List.set_cons_zero, List.set_cons_succ, List.setIfInBounds_toArray]))
      refine Steps.cons rfl (fun bb aa w' hbs hb0 hbp hI K hK => ?_) ?_
      · obtain ⟨us, hus, rfl, hI⟩ := hI
        obtain ⟨u0, u1, u2, u3, u4, u5, u6, u7, u8, u9, u10, rfl⟩ := len11 hus
        have e4 : u4 = .int .i64 c.val := hI.val 4 _ rfl (gen_after 4 (by kernel_rfl) hbp)
        subst e4
        have hch := hI.below
        have hm := HM.out
        have HI := Veil.mk hI
        clear hI
        simp only [puts, setAll, List.setIfInBounds_toArray, List.set_cons_zero, List.set_cons_succ]
        go_simp
        exact hK _ _ (gen_val HI.out hus hbs 5 _ _ (by show 5 < 11; decide) (playK_fit _ _ _ _) rfl hb0 rfl (Below.refl _ _) (by simp only [puts, setAll, List.set_cons_zero, List.set_cons_succ, List.setIfInBounds_toArray]))
      refine Steps.cons rfl (fun bb aa w' hbs hb0 hbp hI K hK => ?_) ?_
      · obtain ⟨us, hus, rfl, hI⟩ := hI
        obtain ⟨u0, u1, u2, u3, u4, u5, u6, u7, u8, u9, u10, rfl⟩ := len11 hus
        have e5 : u5 = .int .i64 (m : Int) := hI.val 5 _ rfl (gen_after 5 (by kernel_rfl) hbp)
        subst e5
        have hch := hI.below
        skip
        have HI := Veil.mk hI
        clear hI
        simp only [puts, setAll, List.setIfInBounds_toArray, List.set_cons_zero, List.set_cons_succ]
        go_simp
        exact hK _ _ (gen_val HI.out hus hbs 6 _ _ (by show 6 < 11; decide) (playK_fit _ _ _ _) rfl hb0 rfl (Below.refl _ _) (by simp only [puts, setAll, List.set_cons_zero, List.set_cons_succ, List.setIfInBounds_toArray]))
      refine Steps.cons rfl (fun bb aa w' hbs hb0 hbp hI K hK => ?_) ?_
      · obtain ⟨us, hus, rfl, hI⟩ := hI
        obtain ⟨u0, u1, u2, u3, u4, u5, u6, u7, u8, u9, u10, rfl⟩ := len11 hus
        have hch := hI.below
        have HI := Veil.mk hI
        clear hI
        simp only [puts, setAll, List.setIfInBounds_toArray, List.set_cons_zero, List.set_cons_succ]
        go_simp
        exact hK _ _ (gen_box HI.out hus hbs 7 _ _ _ _ (by show 7 < 11; decide) (playK_fit _ _ _ _) rfl hb0 (by simp only [puts, setAll, List.set_cons_zero, List.set_cons_succ, List.setIfInBounds_toArray]))
      refine Steps.cons rfl (fun bb aa w' hbs hb0 hbp hI K hK => ?_) ?_
      · obtain ⟨us, hus, rfl, hI⟩ := hI
        obtain ⟨u0, u1, u2, u3, u4, u5, u6, u7, u8, u9, u10, rfl⟩ := len11 hus
        have hch := hI.below
        have HI := Veil.mk hI
        clear hI
        simp only [puts, setAll, List.setIfInBounds_toArray, List.set_cons_zero, List.set_cons_succ]
        go_simp
        exact hK _ _ (gen_box HI.out hus hbs 8 _ _ _ _ (by show 8 < 11; decide) (playK_fit _ _ _ _) rfl hb0 (by simp only [puts, setAll, List.set_cons_zero, List.set_cons_succ, List.setIfInBounds_toArray]))
      refine Steps.cons rfl (fun bb aa w' hbs hb0 hbp hI K hK => ?_) ?_
      · obtain ⟨us, hus, rfl, hI⟩ := hI
        obtain ⟨u0, u1, u2, u3, u4, u5, u6, u7, u8, u9, u10, rfl⟩ := len11 hus
        have hch := hI.below
        have hq1 := gen_after 7 (by kernel_rfl) hbp
        have hq2 := gen_after 2 (by kernel_rfl) hbp
        have hq := gen_sto hI hus hbs 9 7 2 _ _ (by show 9 < 11; decide) (playK_fit _ _ _ _) rfl rfl hb0 hq1 hq2
        have hs : ∃ x : Vt, WV x.1 x.2.1 x.2.2 ∧ u2 = valV x := hI.val 2 _ rfl hq2
        clear hI
        simp only [puts, setAll, List.setIfInBounds_toArray, List.set_cons_zero, List.set_cons_succ]
        obtain ⟨g, hg, hx, hJ⟩ := hq
        have e7 : u7 = .pointer (some ⟨g, 0, none⟩) := hg
        subst e7
        clear hg
        obtain ⟨⟨k1, n1, s1⟩, wv1, rfl⟩ := hs
        have x0 : w'.cell? ⟨g, 0, none⟩ = some (.int .i64 0) := hx.at_ 0
        have x1 : w'.cell? ⟨g, 1, none⟩ = some (.int .i64 0) := hx.at_ 1
        have x2 : w'.cell? ⟨g, 2, none⟩ = some (.string ⟨#[]⟩) := hx.at_ 2
        have f0 := hx.free 0
        have f1 := hx.free 1
        have f2 := hx.free 2
        have HJ := Veil.mk hJ
        have HX := Veil.mk hx
        clear hJ hx
        go_simp
        exact hK _ _ (HJ.out _ _ _ _ (((HX.out.put 0 _).put 1 _).put 2 _) (touch3 _ _ _ _ _) (by simp only [puts, setAll, List.set_cons_zero, List.set_cons_succ, List.setIfInBounds_toArray]))
      refine Steps.cons rfl (fun bb aa w' hbs hb0 hbp hI K hK => ?_) ?_
      · obtain ⟨us, hus, rfl, hI⟩ := hI
        obtain ⟨u0, u1, u2, u3, u4, u5, u6, u7, u8, u9, u10, rfl⟩ := len11 hus
        have hch := hI.below
        have hq1 := gen_after 8 (by kernel_rfl) hbp
        have hq2 := gen_after 6 (by kernel_rfl) hbp
        have hq := gen_sto hI hus hbs 10 8 6 _ _ (by show 10 < 11; decide) (playK_fit _ _ _ _) rfl rfl hb0 hq1 hq2
        have hs : u6 = .agg #[.int .i64 3, .int .i64 (m : Int), .string ⟨#[]⟩] := hI.val 6 _ rfl hq2
        clear hI
        simp only [puts, setAll, List.setIfInBounds_toArray, List.set_cons_zero, List.set_cons_succ]
        obtain ⟨g, hg, hx, hJ⟩ := hq
        have e8 : u8 = .pointer (some ⟨g, 0, none⟩) := hg
        subst e8
        clear hg
        subst hs
        have x0 : w'.cell? ⟨g, 0, none⟩ = some (.int .i64 0) := hx.at_ 0
        have x1 : w'.cell? ⟨g, 1, none⟩ = some (.int .i64 0) := hx.at_ 1
        have x2 : w'.cell? ⟨g, 2, none⟩ = some (.string ⟨#[]⟩) := hx.at_ 2
        have f0 := hx.free 0
        have f1 := hx.free 1
        have f2 := hx.free 2
        have HJ := Veil.mk hJ
        have HX := Veil.mk hx
        clear hJ hx
        go_simp
        exact hK _ _ (HJ.out _ _ _ _ (((HX.out.put 0 _).put 1 _).put 2 _) (touch3 _ _ _ _ _) (by simp only [puts, setAll, List.set_cons_zero, List.set_cons_succ, List.setIfInBounds_toArray]))
      exact Steps.nil
    · intro us w5 hus d hd hJ
      obtain ⟨u0, u1, u2, u3, u4, u5, u6, u7, u8, u9, u10, rfl⟩ := len11 hus
      have p2 : ∃ x : Vt, WV x.1 x.2.1 x.2.2 ∧ u2 = valV x := hJ.val 2 _ rfl (hd 2 (by show 2 < 11; decide))
      have p6 : u6 = .agg #[.int .i64 3, .int .i64 (m : Int), .string ⟨#[]⟩] := hJ.val 6 _ rfl (hd 6 (by show 6 < 11; decide))
      have b7 := hJ.box 7 _ _ _ _ rfl (hd 7 (by show 7 < 11; decide))
      have b8 := hJ.box 8 _ _ _ _ rfl (hd 8 (by show 8 < 11; decide))
      rw [hd 9 (by show 9 < 11; decide)] at b7
      rw [hd 10 (by show 10 < 11; decide)] at b8
      have hbl := hJ.below
      clear hJ hd
      simp only [puts, setAll, List.setIfInBounds_toArray, List.set_cons_zero, List.set_cons_succ]
      have hP : PlayP W (m : Int) u7 u8 w5 := by
        obtain ⟨x, wx, e2⟩ := p2
        obtain ⟨ga, e7, -, x7⟩ := b7
        obtain ⟨gz, e8, -, x8⟩ := b8
        have f2 : uget [u0, u1, u2, u3, u4, u5, u6, u7, u8, u9, u10] 2 = valV x := e2
        have f6 : uget [u0, u1, u2, u3, u4, u5, u6, u7, u8, u9, u10] 6 = .agg #[.int .i64 3, .int .i64 (m : Int), .string ⟨#[]⟩] := p6
        rw [f2] at x7
        rw [f6] at x8
        exact ⟨ga, gz, x, e7, e8, wx, x7, x8, hbl⟩
      have HP := Veil.mk hP
      clear hP p2 p6 b7 b8 hbl
      go_wp2
      go_meet
      exact HP.out
  case rest =>
  obtain ⟨g5, g6, ⟨xk, xn, xs⟩, rfl, rfl, wx, b5, b6, hbw⟩ := hcut
  replace b5 : Box wc g5 82 #[.int .i64 xk, .int .i64 xn, .string xs] := b5
  replace b6 : Box wc g6 82 #[.int .i64 3, .int .i64 (m : Int), .string ⟨#[]⟩] := b6
  have HZ := Veil.mk (show xs.size ≤ 1000 from Nat.le_trans wx.size (by decide))
  have hS := HS0.out.on hbw
  have hc3 := HC3.out.on hbw HC3.out.lt
  have hBc : Below w.heap.size w wc := HBW.out.trans (hbw.mono HBW.out.size)
  clear wx HV HNW HS0 HC3 HM hbw
  have HS := Veil.mk hS
  have H5 := Veil.mk b5
  have H6 := Veil.mk b6
  have H3 := Veil.mk hc3
  have HBc := Veil.mk hBc
  have c30 : wc.cell? ⟨g3, 0, none⟩ = some (.int .i64 c.kind) := hc3.at_ 0
  have hkt := HKT.out.1
  have hkind := HKT.out.2
  clear hS b5 b6 hc3 hBc HKT
  go_upto_region 3 with (fail)
  clear hkt hkind c30
  have hln := HS.out.lens
  have HDel : Veil (∀ w', Below wc.heap.size wc w' → Calls Try.prog 40 #[.pointer (some ⟨t, 0, none⟩), valV (xk, xn, xs)] w' (DelP B t F O (keyT (xk, xn, xs)) w')) := ⟨fun w' hb => del_tf (HS.out.tf.on hb) (by omega) (by omega) (xk, xn, xs) HZ.out⟩
  have hl9 : l.length < 90000 := by omega
  clear hln
  go_upto_region 7 with (fail)
  have hbD : Below wc.heap.size wc wc.drew := (Below.refl _ _).drew
  have x0 : wc.cell? ⟨gb, 0, none⟩ = some (.pointer (some ⟨t, 0, none⟩)) := HS.out.box.at_ 0
  have xm : wc.cell? ⟨gb, 1, none⟩ = some (.pointer (some ⟨gm, 0, none⟩)) := HS.out.box.at_ 1
  have x1 := H5.out.at_ 0
  have x2 := H5.out.at_ 1
  have x3 := H5.out.at_ 2
  go_region_held3 (fun w' => w'.cell? ⟨gb, 0, none⟩ = some (.pointer (some ⟨t, 0, none⟩)) ∧ w'.cell? ⟨gb, 1, none⟩ = some (.pointer (some ⟨gm, 0, none⟩)) ∧ w'.cell? ⟨g5, 0, none⟩ = some (.int .i64 xk) ∧ w'.cell? ⟨g5, 1, none⟩ = some (.int .i64 xn) ∧ w'.cell? ⟨g5, 2, none⟩ = some (.string xs)) (go_keep) (first | (go_at_call 40; ((with_reducible refine (HDel.out _ hbD).mono ?_); rintro e w4 ⟨r, rfl, hr, F2, hT2, hFs2⟩; have hmid := (HS.out.on hbD).mid hFs2; have rt4 := hmid.1; have bx4 := hmid.2; have z0 := bx4.at_ 0; have zm := bx4.at_ 1; have k5 := hFs2.keep (HS.out.tf.on hbD) (H5.out.on hbD H5.out.lt) (by decide); have z1 := k5.at_ 0; have z2 := k5.at_ 1; have z3 := k5.at_ 2)) | (go_at_call 62; ((with_reducible refine (rdel_any B gm l cl vl hl9 (xk, xn, xs) _ rt4).mono ?_); rintro e w5 ⟨r2, l', rfl, hDL, hRPo⟩; obtain rfl : r = r2 := (both_del hDL hr HS.out.uq HS.out.live HS.out.curs).1; have ht := hRPo; obtain ⟨_, _, ht, _⟩ := ht; have bx5 := rt4.keep ht bx4 (by decide); have k55 := rt4.keep ht k5 (by decide); have v0 := bx5.at_ 0; have vm := bx5.at_ 1; have v1 := k55.at_ 0; have v2 := k55.at_ 1; have v3 := k55.at_ 2)))
  all_goals
    obtain ⟨_, m1, m2, m3, m4⟩ := both_del hDL hr HS.out.uq HS.out.live HS.out.curs
    obtain ⟨⟨vl', hF⟩, hBB⟩ := BS.both (HS.out.on hbD) hT2 hFs2 (Below.refl _ _) hRPo m1 m2 m3 (fun x hx hc => by rw [m4]; exact HS.out.ats x hx hc) HS.out.clrs
    have HF := Veil.mk hF
    have HSM := Veil.mk (same_any _ B gb t gm _ _ l' cl vl' vc vd cs (by omega) (by omega) hF)
    have HBB := Veil.mk ((HBc.out.mono hBs).trans ((hbD.mono (Nat.le_trans hBs HBc.out.size)).trans hBB))
    have HM4 := Veil.mk m4
    have nq : (r != r) = false := by cases r <;> rfl
    clear m1 m2 m3 m4 hF hBB hDL hRPo hr hT2 hFs2 rt4 bx4 k5 hmid x0 xm x1 x2 x3 z0 zm z1 z2 z3 v0 vm v1 v2 v3 bx5 k55 ht
    go_wp2_with (first | (go_at_call 66; ((with_reducible refine HSM.out.mono ?_); rintro e w9 ⟨rfl, hb9⟩)))
    go_ret
    exact ⟨rfl, _, _, l', cl, vl', HF.out.on hb9, by rw [HM4.out]; omega, Int.le_refl _, by omega, HBB.out.trans (hb9.mono HF.out.tf.le)⟩
end Go.Proofs.Ythlhchaapdhbfaa
