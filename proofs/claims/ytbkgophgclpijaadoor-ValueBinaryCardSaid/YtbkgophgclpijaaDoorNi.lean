/- ValueBinary: the contracts of minus, times, slash. -/
import Derived.Test.YtbkgophgclpijaaDoorNa
import Derived.Test.YtbkgophgclpijaaDoorHc
namespace Go.Proofs.YtbkgophgclpijaaDoor
open Go Go.RowKit

set_option maxRecDepth 1000000 in
set_option maxHeartbeats 8000000 in
theorem rbin_sub (x y : Vt) (hx : WV x.1 x.2.1 x.2.2) (hy : WV y.1 y.2.1 y.2.2) (w : World) :
    Calls Tryd.prog 13 #[.string ⟨#[45]⟩, valV x, valV y] w fun e w' => e = .returned (.tuple #[valV (calcN (some .sub) x y).1, .int .i64 (calcN (some .sub) x y).2]) ∧ Below w.heap.size w w' := by
  have N1 := Veil.mk (rnumber_any x hx)
  have N2 := Veil.mk (rnumber_any y hy)
  have M1 := Veil.mk (number_num hx)
  have M2 := Veil.mk (number_num hy)
  obtain ⟨W0, hW⟩ : ∃ v, v = tri w x y := ⟨_, rfl⟩
  have hB : Below w.heap.size w W0 := hW ▸ tri_below w x y
  have b1 := tri_x w x y
  have b2' := tri_y w x y
  have b3 := tri_r w x y
  rw [← hW] at b1 b2' b3
  have hw0 := hW.symm
  unfold tri two at hw0
  clear hW
  unfold calcN
  clear hx hy
  obtain ⟨nx, hnx⟩ : ∃ p, p = numberT x := ⟨_, rfl⟩
  obtain ⟨ny, hny⟩ : ∃ p, p = numberT y := ⟨_, rfl⟩
  rw [← hnx] at N1 M1 ⊢
  rw [← hny] at N2 M2 ⊢
  clear hnx hny
  obtain ⟨⟨nk, nn, ns⟩, st⟩ := nx
  obtain ⟨⟨mk, mn, ms⟩, tt⟩ := ny
  obtain ⟨xk, xn, xs⟩ := x
  obtain ⟨yk, yn, ys⟩ := y
  simp only at N1 N2 M1 M2 b1 b2' b3 hw0 ⊢
  have HW := Lib.hid hw0
  clear hw0
  have p0 : W0.cell? ⟨w.heap.size, 0, none⟩ = some (.int .i64 xk) := b1.at_ 0
  have p1 : W0.cell? ⟨w.heap.size, 1, none⟩ = some (.int .i64 xn) := b1.at_ 1
  have p2 : W0.cell? ⟨w.heap.size, 2, none⟩ = some (.string xs) := b1.at_ 2
  have q0 : W0.cell? ⟨w.heap.size + 1, 0, none⟩ = some (.int .i64 yk) := b2'.at_ 0
  have q1 : W0.cell? ⟨w.heap.size + 1, 1, none⟩ = some (.int .i64 yn) := b2'.at_ 1
  have q2 : W0.cell? ⟨w.heap.size + 1, 2, none⟩ = some (.string ys) := b2'.at_ 2
  have B2 := Veil.mk b2'
  have B3 := Veil.mk b3
  clear b1 b2' b3
  by_cases h0 : st = 0
  case neg =>
    have h0b : (st != 0) = true := by simpa using h0
    have h0c : (st == 0) = false := by simpa using h0
    rw [if_neg h0]
    clear h0 M1 M2 N2
    skip
    go_enter Tryd.func13, Tryd.ntmps13
    go_upto_region 1 with (fail)
    rw [HW.out]
    go_upto_region 17 with (fail)
    go_cut [13, 14] (fun sa sb wx => ∃ g : Nat, sa = .pointer (some ⟨g, 0, none⟩) ∧ sb = .int .i64 st ∧ Box wx g 27 #[.int .i64 nk, .int .i64 nn, .string ns] ∧ Below W0.heap.size W0 wx)
    case first =>
      go_wp2_with (first | (go_at_call 22; ((with_reducible refine (N1.out _).mono ?_); rintro e w2 ⟨rfl, hb2⟩)))
      go_meet
      exact ⟨w2.heap.size, rfl, rfl, Box.new _ _ _, hb2.alloc hb2.size _⟩
    case rest =>
    obtain ⟨g13, rfl, rfl, bq13, hb13⟩ := hcut
    obtain ⟨w3, hw13⟩ : ∃ v, v = wc := ⟨_, rfl⟩
    rw [← hw13] at hb13 bq13 ⊢
    clear hw13
    replace B2 := Veil.mk (B2.out.on hb13 B2.out.lt)
    replace B3 := Veil.mk (B3.out.on hb13 B3.out.lt)
    have HB13 := Veil.mk (hB.trans (hb13.mono hB.size))
    have Q13 := Veil.mk bq13
    clear bq13 hb13
    have z0 : w3.cell? ⟨w.heap.size + 1 + 1, 0, none⟩ = some (.int .i64 0) := B3.out.at_ 0
    have z1 : w3.cell? ⟨w.heap.size + 1 + 1, 1, none⟩ = some (.int .i64 0) := B3.out.at_ 1
    have z2 : w3.cell? ⟨w.heap.size + 1 + 1, 2, none⟩ = some (.string ⟨#[]⟩) := B3.out.at_ 2
    have f0 := B3.out.free 0
    have f1 := B3.out.free 1
    have f2 := B3.out.free 2
    go_wp2
    refine bodyPost_ret (v := .tuple #[W.V 0 0 W.e0, .int .i64 st]) (by simp [results, Tryd.results13, go_sem, z0, z1, z2]) rfl ⟨rfl, ?_⟩
    exact (((HB13.out).setCell (p := ⟨w.heap.size + 1 + 1, 0, none⟩) (by show w.heap.size ≤ w.heap.size + 1 + 1; omega) _).setCell (p := ⟨w.heap.size + 1 + 1, 1, none⟩) (by show w.heap.size ≤ w.heap.size + 1 + 1; omega) _).setCell (p := ⟨w.heap.size + 1 + 1, 2, none⟩) (by show w.heap.size ≤ w.heap.size + 1 + 1; omega) _
  subst h0
  rw [if_pos rfl]
  obtain ⟨hn1, rfl⟩ := M1.out rfl
  clear M1
  by_cases h0 : tt = 0
  case neg =>
    have h0b : (tt != 0) = true := by simpa using h0
    have h0c : (tt == 0) = false := by simpa using h0
    rw [if_neg h0]
    clear h0 M2
    skip
    go_enter Tryd.func13, Tryd.ntmps13
    go_upto_region 1 with (fail)
    rw [HW.out]
    go_upto_region 17 with (fail)
    go_cut [13, 14] (fun sa sb wx => ∃ g : Nat, sa = .pointer (some ⟨g, 0, none⟩) ∧ sb = .int .i64 0 ∧ Box wx g 27 #[.int .i64 nk, .int .i64 nn, .string W.e0] ∧ Below W0.heap.size W0 wx)
    case first =>
      go_wp2_with (first | (go_at_call 22; ((with_reducible refine (N1.out _).mono ?_); rintro e w2 ⟨rfl, hb2⟩)))
      go_meet
      exact ⟨w2.heap.size, rfl, rfl, Box.new _ _ _, hb2.alloc hb2.size _⟩
    case rest =>
    obtain ⟨g13, rfl, rfl, bq13, hb13⟩ := hcut
    obtain ⟨w3, hw13⟩ : ∃ v, v = wc := ⟨_, rfl⟩
    rw [← hw13] at hb13 bq13 ⊢
    clear hw13
    replace B2 := Veil.mk (B2.out.on hb13 B2.out.lt)
    replace B3 := Veil.mk (B3.out.on hb13 B3.out.lt)
    have HB13 := Veil.mk (hB.trans (hb13.mono hB.size))
    have Q13 := Veil.mk bq13
    clear bq13 hb13
    have q0 : w3.cell? ⟨w.heap.size + 1, 0, none⟩ = some (.int .i64 yk) := B2.out.at_ 0
    have q1 : w3.cell? ⟨w.heap.size + 1, 1, none⟩ = some (.int .i64 yn) := B2.out.at_ 1
    have q2 : w3.cell? ⟨w.heap.size + 1, 2, none⟩ = some (.string ys) := B2.out.at_ 2
    go_upto_region 20 with (fail)
    go_cut [15, 14] (fun sa sb wx => ∃ g : Nat, sa = .pointer (some ⟨g, 0, none⟩) ∧ sb = .int .i64 tt ∧ Box wx g 27 #[.int .i64 mk, .int .i64 mn, .string ms] ∧ Below w3.heap.size w3 wx)
    case first =>
      go_wp2_with (first | (go_at_call 22; ((with_reducible refine (N2.out _).mono ?_); rintro e w2 ⟨rfl, hb2⟩)))
      go_meet
      exact ⟨w2.heap.size, rfl, rfl, Box.new _ _ _, hb2.alloc hb2.size _⟩
    case rest =>
    obtain ⟨g15, rfl, rfl, bq15, hb15⟩ := hcut
    obtain ⟨w4, hw15⟩ : ∃ v, v = wc := ⟨_, rfl⟩
    rw [← hw15] at hb15 bq15 ⊢
    clear hw15
    replace B3 := Veil.mk (B3.out.on hb15 B3.out.lt)
    have HB15 := Veil.mk (HB13.out.trans (hb15.mono HB13.out.size))
    have Q15 := Veil.mk bq15
    clear bq15 hb15
    have z0 : w4.cell? ⟨w.heap.size + 1 + 1, 0, none⟩ = some (.int .i64 0) := B3.out.at_ 0
    have z1 : w4.cell? ⟨w.heap.size + 1 + 1, 1, none⟩ = some (.int .i64 0) := B3.out.at_ 1
    have z2 : w4.cell? ⟨w.heap.size + 1 + 1, 2, none⟩ = some (.string ⟨#[]⟩) := B3.out.at_ 2
    have f0 := B3.out.free 0
    have f1 := B3.out.free 1
    have f2 := B3.out.free 2
    go_wp2
    refine bodyPost_ret (v := .tuple #[W.V 0 0 W.e0, .int .i64 tt]) (by simp [results, Tryd.results13, go_sem, z0, z1, z2]) rfl ⟨rfl, ?_⟩
    exact (((HB15.out).setCell (p := ⟨w.heap.size + 1 + 1, 0, none⟩) (by show w.heap.size ≤ w.heap.size + 1 + 1; omega) _).setCell (p := ⟨w.heap.size + 1 + 1, 1, none⟩) (by show w.heap.size ≤ w.heap.size + 1 + 1; omega) _).setCell (p := ⟨w.heap.size + 1 + 1, 2, none⟩) (by show w.heap.size ≤ w.heap.size + 1 + 1; omega) _
  subst h0
  rw [if_pos rfl]
  obtain ⟨hn2, rfl⟩ := M2.out rfl
  clear M2
  have O1 : Veil (∀ wx, Calls Tryd.prog 43 #[W.V nk nn W.e0] wx fun e w' => e = .returned (M.nvN nk nn) ∧ Below wx.heap.size wx w') := ⟨fun wx => M.of_any hn1 wx⟩
  have O2 : Veil (∀ wx, Calls Tryd.prog 43 #[W.V mk mn W.e0] wx fun e w' => e = .returned (M.nvN mk mn) ∧ Below wx.heap.size wx w') := ⟨fun wx => M.of_any hn2 wx⟩
  have C1 : Veil (∀ wx, Calls Tryd.prog 44 #[.string ⟨#[45]⟩, M.nvN nk nn, M.nvN mk mn] wx fun e w' => e = .returned (.tuple #[valV (reckT (some .sub) nk nn mk mn).1, .int .i64 (reckT (some .sub) nk nn mk mn).2]) ∧ Below wx.heap.size wx w') := ⟨fun wx => reckon_any (some .sub) nk nn mk mn hn1 hn2 wx⟩
  obtain ⟨q, hq⟩ : ∃ q, q = reckT (some .sub) nk nn mk mn := ⟨_, rfl⟩
  rw [← hq] at C1 ⊢
  clear hq
  obtain ⟨⟨qk, qn, qs⟩, qt⟩ := q
  simp only at C1
  unfold M.nvN at O1 O2 C1
  obtain ⟨ra, h1⟩ : ∃ v, v = M.rK nk := ⟨_, rfl⟩
  obtain ⟨rm, h2⟩ : ∃ v, v = M.negB nk nn := ⟨_, rfl⟩
  obtain ⟨rs, h3⟩ : ∃ v, v = M.rS nk nn := ⟨_, rfl⟩
  obtain ⟨sa, h4⟩ : ∃ v, v = M.rK mk := ⟨_, rfl⟩
  obtain ⟨sm, h5⟩ : ∃ v, v = M.negB mk mn := ⟨_, rfl⟩
  obtain ⟨ss, h6⟩ : ∃ v, v = M.rS mk mn := ⟨_, rfl⟩
  rw [← h1, ← h2, ← h3] at O1 C1
  rw [← h4, ← h5, ← h6] at O2 C1
  clear h1 h2 h3 h4 h5 h6 hn1 hn2
  ·
    go_enter Tryd.func13, Tryd.ntmps13
    go_upto_region 1 with (fail)
    rw [HW.out]
    go_upto_region 17 with (fail)
    go_cut [13, 14] (fun sa sb wx => ∃ g : Nat, sa = .pointer (some ⟨g, 0, none⟩) ∧ sb = .int .i64 0 ∧ Box wx g 27 #[.int .i64 nk, .int .i64 nn, .string W.e0] ∧ Below W0.heap.size W0 wx)
    case first =>
      go_wp2_with (first | (go_at_call 22; ((with_reducible refine (N1.out _).mono ?_); rintro e w2 ⟨rfl, hb2⟩)))
      go_meet
      exact ⟨w2.heap.size, rfl, rfl, Box.new _ _ _, hb2.alloc hb2.size _⟩
    case rest =>
    obtain ⟨g13, rfl, rfl, bq13, hb13⟩ := hcut
    obtain ⟨w3, hw13⟩ : ∃ v, v = wc := ⟨_, rfl⟩
    rw [← hw13] at hb13 bq13 ⊢
    clear hw13
    replace B2 := Veil.mk (B2.out.on hb13 B2.out.lt)
    replace B3 := Veil.mk (B3.out.on hb13 B3.out.lt)
    have HB13 := Veil.mk (hB.trans (hb13.mono hB.size))
    have Q13 := Veil.mk bq13
    clear bq13 hb13
    have q0 : w3.cell? ⟨w.heap.size + 1, 0, none⟩ = some (.int .i64 yk) := B2.out.at_ 0
    have q1 : w3.cell? ⟨w.heap.size + 1, 1, none⟩ = some (.int .i64 yn) := B2.out.at_ 1
    have q2 : w3.cell? ⟨w.heap.size + 1, 2, none⟩ = some (.string ys) := B2.out.at_ 2
    go_upto_region 20 with (fail)
    go_cut [15, 14] (fun sa sb wx => ∃ g : Nat, sa = .pointer (some ⟨g, 0, none⟩) ∧ sb = .int .i64 0 ∧ Box wx g 27 #[.int .i64 mk, .int .i64 mn, .string W.e0] ∧ Below w3.heap.size w3 wx)
    case first =>
      go_wp2_with (first | (go_at_call 22; ((with_reducible refine (N2.out _).mono ?_); rintro e w2 ⟨rfl, hb2⟩)))
      go_meet
      exact ⟨w2.heap.size, rfl, rfl, Box.new _ _ _, hb2.alloc hb2.size _⟩
    case rest =>
    obtain ⟨g15, rfl, rfl, bq15, hb15⟩ := hcut
    obtain ⟨w4, hw15⟩ : ∃ v, v = wc := ⟨_, rfl⟩
    rw [← hw15] at hb15 bq15 ⊢
    clear hw15
    replace B3 := Veil.mk (B3.out.on hb15 B3.out.lt)
    replace Q13 := Veil.mk (Q13.out.on hb15 Q13.out.lt)
    have HB15 := Veil.mk (HB13.out.trans (hb15.mono HB13.out.size))
    have Q15 := Veil.mk bq15
    clear bq15 hb15
    clear q0 q1 q2 p0 p1 p2 N1 N2 B2
    go_upto_region 23 with (fail)
    refine Q.wp_region_pair 73 #[.int .u8 0, .bool false, .int .i64 0] #[.int .u8 ra, .bool rm, .int .i64 rs] #[.int .u8 sa, .bool sm, .int .i64 ss] (W.V nk nn W.e0) (W.V mk mn W.e0) (M.nv ra rm rs) (M.nv sa sm ss) 122 123 124 125 16 17 (by kernel_rfl) rfl ⟨_, _, _, _, _, _, rfl⟩ ?_ (by kernel_rfl) ?_
    · refine Steps.cons rfl (fun bb aa w' hbs hb0 hbp hI K hK => ?_) ?_
      · obtain ⟨u0, u1, u2, u3, u4, u5, rfl, hI⟩ := hI
        have e0 := Q13.out.on hI.1 Q13.out.lt; have e1 := Q15.out.on hI.1 Q15.out.lt; have c0 : w'.cell? ⟨g13, 0, none⟩ = some (.int .i64 nk) := e0.at_ 0; have c1 : w'.cell? ⟨g13, 1, none⟩ = some (.int .i64 nn) := e0.at_ 1; have c2 : w'.cell? ⟨g13, 2, none⟩ = some (.string W.e0) := e0.at_ 2; have d0 : w'.cell? ⟨g15, 0, none⟩ = some (.int .i64 mk) := e1.at_ 0; have d1 : w'.cell? ⟨g15, 1, none⟩ = some (.int .i64 mn) := e1.at_ 1; have d2 : w'.cell? ⟨g15, 2, none⟩ = some (.string W.e0) := e1.at_ 2
        simp only [put6, List.setIfInBounds_toArray, List.set_cons_zero, List.set_cons_succ]
        go_simp
        exact hK _ _ (Q.PInv.mk (Q.PW.load0 hI hbs) (by simp only [put6, List.setIfInBounds_toArray, List.set_cons_zero, List.set_cons_succ]))
      refine Steps.cons rfl (fun bb aa w' hbs hb0 hbp hI K hK => ?_) ?_
      · obtain ⟨u0, u1, u2, u3, u4, u5, rfl, hI⟩ := hI
        have hq := after_of 0 (by kernel_rfl) hbp
        have hu : u0 = (W.V nk nn W.e0) := hI.2.1 hq
        subst hu
        have HI := Veil.mk hI
        clear hI
        simp only [put6, List.setIfInBounds_toArray, List.set_cons_zero, List.set_cons_succ]
        go_simp
        refine (O1.out w').mono ?_
        rintro e w2 ⟨rfl, hb2⟩
        go_simp
        exact hK _ _ (Q.PInv.mk (Q.PW.call1 HI.out hbs hb0 hb2) (by simp only [put6, List.setIfInBounds_toArray, List.set_cons_zero, List.set_cons_succ]))
      refine Steps.cons rfl (fun bb aa w' hbs hb0 hbp hI K hK => ?_) ?_
      · obtain ⟨u0, u1, u2, u3, u4, u5, rfl, hI⟩ := hI
        have e0 := Q13.out.on hI.1 Q13.out.lt; have e1 := Q15.out.on hI.1 Q15.out.lt; have c0 : w'.cell? ⟨g13, 0, none⟩ = some (.int .i64 nk) := e0.at_ 0; have c1 : w'.cell? ⟨g13, 1, none⟩ = some (.int .i64 nn) := e0.at_ 1; have c2 : w'.cell? ⟨g13, 2, none⟩ = some (.string W.e0) := e0.at_ 2; have d0 : w'.cell? ⟨g15, 0, none⟩ = some (.int .i64 mk) := e1.at_ 0; have d1 : w'.cell? ⟨g15, 1, none⟩ = some (.int .i64 mn) := e1.at_ 1; have d2 : w'.cell? ⟨g15, 2, none⟩ = some (.string W.e0) := e1.at_ 2
        simp only [put6, List.setIfInBounds_toArray, List.set_cons_zero, List.set_cons_succ]
        go_simp
        exact hK _ _ (Q.PInv.mk (Q.PW.load2 hI hbs) (by simp only [put6, List.setIfInBounds_toArray, List.set_cons_zero, List.set_cons_succ]))
      refine Steps.cons rfl (fun bb aa w' hbs hb0 hbp hI K hK => ?_) ?_
      · obtain ⟨u0, u1, u2, u3, u4, u5, rfl, hI⟩ := hI
        have hq := after_of 2 (by kernel_rfl) hbp
        have hu : u2 = (W.V mk mn W.e0) := hI.2.2.1 hq
        subst hu
        have HI := Veil.mk hI
        clear hI
        simp only [put6, List.setIfInBounds_toArray, List.set_cons_zero, List.set_cons_succ]
        go_simp
        refine (O2.out w').mono ?_
        rintro e w2 ⟨rfl, hb2⟩
        go_simp
        exact hK _ _ (Q.PInv.mk (Q.PW.call3 HI.out hbs hb0 hb2) (by simp only [put6, List.setIfInBounds_toArray, List.set_cons_zero, List.set_cons_succ]))
      refine Steps.cons rfl (fun bb aa w' hbs hb0 hbp hI K hK => ?_) ?_
      · obtain ⟨u0, u1, u2, u3, u4, u5, rfl, hI⟩ := hI
        have HI := Veil.mk hI
        clear hI
        simp only [put6, List.setIfInBounds_toArray, List.set_cons_zero, List.set_cons_succ]
        go_simp
        exact hK _ _ (Q.PInv.mk (Q.PW.alloc4 HI.out hbs hb0) (by simp only [put6, List.setIfInBounds_toArray, List.set_cons_zero, List.set_cons_succ]))
      refine Steps.cons rfl (fun bb aa w' hbs hb0 hbp hI K hK => ?_) ?_
      · obtain ⟨u0, u1, u2, u3, u4, u5, rfl, hI⟩ := hI
        have HI := Veil.mk hI
        clear hI
        simp only [put6, List.setIfInBounds_toArray, List.set_cons_zero, List.set_cons_succ]
        go_simp
        exact hK _ _ (Q.PInv.mk (Q.PW.alloc5 HI.out hbs hb0) (by simp only [put6, List.setIfInBounds_toArray, List.set_cons_zero, List.set_cons_succ]))
      refine Steps.cons rfl (fun bb aa w' hbs hb0 hbp hI K hK => ?_) ?_
      · obtain ⟨u0, u1, u2, u3, u4, u5, rfl, hI⟩ := hI
        have q1 := after_of 1 (by kernel_rfl) hbp
        have q2 := after_of 4 (by kernel_rfl) hbp
        have hq := Q.PW.at4 hI hbs hb0 q1 q2
        clear hI q1 q2 hbp
        simp only [put6, List.setIfInBounds_toArray, List.set_cons_zero, List.set_cons_succ]
        obtain ⟨g, e1, e2, hx, hJ⟩ := hq
        subst e1
        subst e2
        have x0 : w'.cell? ⟨g, 0, none⟩ = some (.int .u8 0) := hx.at_ 0
        have x1 : w'.cell? ⟨g, 1, none⟩ = some (.bool false) := hx.at_ 1
        have x2 : w'.cell? ⟨g, 2, none⟩ = some (.int .i64 0) := hx.at_ 2
        have f0 := hx.free 0
        have f1 := hx.free 1
        have f2 := hx.free 2
        have HJ := Veil.mk hJ
        clear hJ hx
        go_simp
        exact hK _ _ (Q.PInv.mk HJ.out (by simp only [put6, List.setIfInBounds_toArray, List.set_cons_zero, List.set_cons_succ]))
      refine Steps.cons rfl (fun bb aa w' hbs hb0 hbp hI K hK => ?_) ?_
      · obtain ⟨u0, u1, u2, u3, u4, u5, rfl, hI⟩ := hI
        have q1 := after_of 3 (by kernel_rfl) hbp
        have q2 := after_of 5 (by kernel_rfl) hbp
        have hq := Q.PW.at5 hI hbs hb0 q1 q2
        clear hI q1 q2 hbp
        simp only [put6, List.setIfInBounds_toArray, List.set_cons_zero, List.set_cons_succ]
        obtain ⟨g, e1, e2, hx, hJ⟩ := hq
        subst e1
        subst e2
        have x0 : w'.cell? ⟨g, 0, none⟩ = some (.int .u8 0) := hx.at_ 0
        have x1 : w'.cell? ⟨g, 1, none⟩ = some (.bool false) := hx.at_ 1
        have x2 : w'.cell? ⟨g, 2, none⟩ = some (.int .i64 0) := hx.at_ 2
        have f0 := hx.free 0
        have f1 := hx.free 1
        have f2 := hx.free 2
        have HJ := Veil.mk hJ
        clear hJ hx
        go_simp
        exact hK _ _ (Q.PInv.mk HJ.out (by simp only [put6, List.setIfInBounds_toArray, List.set_cons_zero, List.set_cons_succ]))
      exact Steps.nil
    intro g1 g2 w5 hne bx by_ hb5 k1 k2
    simp only [put6, List.setIfInBounds_toArray, List.set_cons_zero, List.set_cons_succ]
    have HB5 := Veil.mk (HB15.out.trans (hb5.mono HB15.out.size))
    replace B3 := Veil.mk (B3.out.on hb5 B3.out.lt)
    have p0 : w5.cell? ⟨g1, 0, none⟩ = some (.int .u8 ra) := bx.at_ 0
    have p1 : w5.cell? ⟨g1, 1, none⟩ = some (.bool rm) := bx.at_ 1
    have p2 : w5.cell? ⟨g1, 2, none⟩ = some (.int .i64 rs) := bx.at_ 2
    have q0 : w5.cell? ⟨g2, 0, none⟩ = some (.int .u8 sa) := by_.at_ 0
    have q1 : w5.cell? ⟨g2, 1, none⟩ = some (.bool sm) := by_.at_ 1
    have q2 : w5.cell? ⟨g2, 2, none⟩ = some (.int .i64 ss) := by_.at_ 2
    clear bx by_ hb5 k1 k2 O1 O2 HB15 HB13 Q13 Q15 hne
    go_wp2_with (first | (go_at_call 44; ((with_reducible refine (C1.out _).mono ?_); rintro e w6 ⟨rfl, hb6⟩; have z0 : w6.cell? ⟨w.heap.size + 1 + 1, 0, none⟩ = some (.int .i64 0) := (B3.out.on hb6 B3.out.lt).at_ 0; have z1 : w6.cell? ⟨w.heap.size + 1 + 1, 1, none⟩ = some (.int .i64 0) := (B3.out.on hb6 B3.out.lt).at_ 1; have z2 : w6.cell? ⟨w.heap.size + 1 + 1, 2, none⟩ = some (.string ⟨#[]⟩) := (B3.out.on hb6 B3.out.lt).at_ 2; have f0 := (B3.out.on hb6 B3.out.lt).free 0; have f1 := (B3.out.on hb6 B3.out.lt).free 1; have f2 := (B3.out.on hb6 B3.out.lt).free 2)))
    refine bodyPost_ret (v := .tuple #[W.V qk qn qs, .int .i64 qt]) (by simp [results, Tryd.results13, go_sem, z0, z1, z2]) rfl ⟨rfl, ?_⟩
    exact (((HB5.out.trans (hb6.mono HB5.out.size)).setCell (p := ⟨w.heap.size + 1 + 1, 0, none⟩) (by show w.heap.size ≤ w.heap.size + 1 + 1; omega) _).setCell (p := ⟨w.heap.size + 1 + 1, 1, none⟩) (by show w.heap.size ≤ w.heap.size + 1 + 1; omega) _).setCell (p := ⟨w.heap.size + 1 + 1, 2, none⟩) (by show w.heap.size ≤ w.heap.size + 1 + 1; omega) _
set_option maxRecDepth 1000000 in
set_option maxHeartbeats 8000000 in
theorem rbin_add (x y : Vt) (hx : WV x.1 x.2.1 x.2.2) (hy : WV y.1 y.2.1 y.2.2) (h : ¬ (x.1 = 7 ∨ y.1 = 7)) (w : World) :
    Calls Tryd.prog 13 #[.string ⟨#[43]⟩, valV x, valV y] w fun e w' => e = .returned (.tuple #[valV (calcN (some .add) x y).1, .int .i64 (calcN (some .add) x y).2]) ∧ Below w.heap.size w w' := by
  have N1 := Veil.mk (rnumber_any x hx)
  have N2 := Veil.mk (rnumber_any y hy)
  have M1 := Veil.mk (number_num hx)
  have M2 := Veil.mk (number_num hy)
  obtain ⟨W0, hW⟩ : ∃ v, v = tri w x y := ⟨_, rfl⟩
  have hB : Below w.heap.size w W0 := hW ▸ tri_below w x y
  have b1 := tri_x w x y
  have b2' := tri_y w x y
  have b3 := tri_r w x y
  rw [← hW] at b1 b2' b3
  have hw0 := hW.symm
  unfold tri two at hw0
  clear hW
  unfold calcN
  clear hx hy
  obtain ⟨nx, hnx⟩ : ∃ p, p = numberT x := ⟨_, rfl⟩
  obtain ⟨ny, hny⟩ : ∃ p, p = numberT y := ⟨_, rfl⟩
  rw [← hnx] at N1 M1 ⊢
  rw [← hny] at N2 M2 ⊢
  clear hnx hny
  obtain ⟨⟨nk, nn, ns⟩, st⟩ := nx
  obtain ⟨⟨mk, mn, ms⟩, tt⟩ := ny
  obtain ⟨xk, xn, xs⟩ := x
  obtain ⟨yk, yn, ys⟩ := y
  simp only at h N1 N2 M1 M2 b1 b2' b3 hw0 ⊢
  have HW := Lib.hid hw0
  clear hw0
  have p0 : W0.cell? ⟨w.heap.size, 0, none⟩ = some (.int .i64 xk) := b1.at_ 0
  have p1 : W0.cell? ⟨w.heap.size, 1, none⟩ = some (.int .i64 xn) := b1.at_ 1
  have p2 : W0.cell? ⟨w.heap.size, 2, none⟩ = some (.string xs) := b1.at_ 2
  have q0 : W0.cell? ⟨w.heap.size + 1, 0, none⟩ = some (.int .i64 yk) := b2'.at_ 0
  have q1 : W0.cell? ⟨w.heap.size + 1, 1, none⟩ = some (.int .i64 yn) := b2'.at_ 1
  have q2 : W0.cell? ⟨w.heap.size + 1, 2, none⟩ = some (.string ys) := b2'.at_ 2
  have B2 := Veil.mk b2'
  have B3 := Veil.mk b3
  clear b1 b2' b3
  have hx7 : (xk == 7) = false := by
    have : ¬ xk = 7 := fun e => h (.inl e)
    simpa using this
  have hy7 : (yk == 7) = false := by
    have : ¬ yk = 7 := fun e => h (.inr e)
    simpa using this
  clear h
  by_cases h0 : st = 0
  case neg =>
    have h0b : (st != 0) = true := by simpa using h0
    have h0c : (st == 0) = false := by simpa using h0
    rw [if_neg h0]
    clear h0 M1 M2 N2
    skip
    go_enter Tryd.func13, Tryd.ntmps13
    go_upto_region 1 with (fail)
    rw [HW.out]
    go_upto_region 17 with (fail)
    go_cut [13, 14] (fun sa sb wx => ∃ g : Nat, sa = .pointer (some ⟨g, 0, none⟩) ∧ sb = .int .i64 st ∧ Box wx g 27 #[.int .i64 nk, .int .i64 nn, .string ns] ∧ Below W0.heap.size W0 wx)
    case first =>
      go_wp2_with (first | (go_at_call 22; ((with_reducible refine (N1.out _).mono ?_); rintro e w2 ⟨rfl, hb2⟩)))
      go_meet
      exact ⟨w2.heap.size, rfl, rfl, Box.new _ _ _, hb2.alloc hb2.size _⟩
    case rest =>
    obtain ⟨g13, rfl, rfl, bq13, hb13⟩ := hcut
    obtain ⟨w3, hw13⟩ : ∃ v, v = wc := ⟨_, rfl⟩
    rw [← hw13] at hb13 bq13 ⊢
    clear hw13
    replace B2 := Veil.mk (B2.out.on hb13 B2.out.lt)
    replace B3 := Veil.mk (B3.out.on hb13 B3.out.lt)
    have HB13 := Veil.mk (hB.trans (hb13.mono hB.size))
    have Q13 := Veil.mk bq13
    clear bq13 hb13
    have z0 : w3.cell? ⟨w.heap.size + 1 + 1, 0, none⟩ = some (.int .i64 0) := B3.out.at_ 0
    have z1 : w3.cell? ⟨w.heap.size + 1 + 1, 1, none⟩ = some (.int .i64 0) := B3.out.at_ 1
    have z2 : w3.cell? ⟨w.heap.size + 1 + 1, 2, none⟩ = some (.string ⟨#[]⟩) := B3.out.at_ 2
    have f0 := B3.out.free 0
    have f1 := B3.out.free 1
    have f2 := B3.out.free 2
    go_wp2
    refine bodyPost_ret (v := .tuple #[W.V 0 0 W.e0, .int .i64 st]) (by simp [results, Tryd.results13, go_sem, z0, z1, z2]) rfl ⟨rfl, ?_⟩
    exact (((HB13.out).setCell (p := ⟨w.heap.size + 1 + 1, 0, none⟩) (by show w.heap.size ≤ w.heap.size + 1 + 1; omega) _).setCell (p := ⟨w.heap.size + 1 + 1, 1, none⟩) (by show w.heap.size ≤ w.heap.size + 1 + 1; omega) _).setCell (p := ⟨w.heap.size + 1 + 1, 2, none⟩) (by show w.heap.size ≤ w.heap.size + 1 + 1; omega) _
  subst h0
  rw [if_pos rfl]
  obtain ⟨hn1, rfl⟩ := M1.out rfl
  clear M1
  by_cases h0 : tt = 0
  case neg =>
    have h0b : (tt != 0) = true := by simpa using h0
    have h0c : (tt == 0) = false := by simpa using h0
    rw [if_neg h0]
    clear h0 M2
    skip
    go_enter Tryd.func13, Tryd.ntmps13
    go_upto_region 1 with (fail)
    rw [HW.out]
    go_upto_region 17 with (fail)
    go_cut [13, 14] (fun sa sb wx => ∃ g : Nat, sa = .pointer (some ⟨g, 0, none⟩) ∧ sb = .int .i64 0 ∧ Box wx g 27 #[.int .i64 nk, .int .i64 nn, .string W.e0] ∧ Below W0.heap.size W0 wx)
    case first =>
      go_wp2_with (first | (go_at_call 22; ((with_reducible refine (N1.out _).mono ?_); rintro e w2 ⟨rfl, hb2⟩)))
      go_meet
      exact ⟨w2.heap.size, rfl, rfl, Box.new _ _ _, hb2.alloc hb2.size _⟩
    case rest =>
    obtain ⟨g13, rfl, rfl, bq13, hb13⟩ := hcut
    obtain ⟨w3, hw13⟩ : ∃ v, v = wc := ⟨_, rfl⟩
    rw [← hw13] at hb13 bq13 ⊢
    clear hw13
    replace B2 := Veil.mk (B2.out.on hb13 B2.out.lt)
    replace B3 := Veil.mk (B3.out.on hb13 B3.out.lt)
    have HB13 := Veil.mk (hB.trans (hb13.mono hB.size))
    have Q13 := Veil.mk bq13
    clear bq13 hb13
    have q0 : w3.cell? ⟨w.heap.size + 1, 0, none⟩ = some (.int .i64 yk) := B2.out.at_ 0
    have q1 : w3.cell? ⟨w.heap.size + 1, 1, none⟩ = some (.int .i64 yn) := B2.out.at_ 1
    have q2 : w3.cell? ⟨w.heap.size + 1, 2, none⟩ = some (.string ys) := B2.out.at_ 2
    go_upto_region 20 with (fail)
    go_cut [15, 14] (fun sa sb wx => ∃ g : Nat, sa = .pointer (some ⟨g, 0, none⟩) ∧ sb = .int .i64 tt ∧ Box wx g 27 #[.int .i64 mk, .int .i64 mn, .string ms] ∧ Below w3.heap.size w3 wx)
    case first =>
      go_wp2_with (first | (go_at_call 22; ((with_reducible refine (N2.out _).mono ?_); rintro e w2 ⟨rfl, hb2⟩)))
      go_meet
      exact ⟨w2.heap.size, rfl, rfl, Box.new _ _ _, hb2.alloc hb2.size _⟩
    case rest =>
    obtain ⟨g15, rfl, rfl, bq15, hb15⟩ := hcut
    obtain ⟨w4, hw15⟩ : ∃ v, v = wc := ⟨_, rfl⟩
    rw [← hw15] at hb15 bq15 ⊢
    clear hw15
    replace B3 := Veil.mk (B3.out.on hb15 B3.out.lt)
    have HB15 := Veil.mk (HB13.out.trans (hb15.mono HB13.out.size))
    have Q15 := Veil.mk bq15
    clear bq15 hb15
    have z0 : w4.cell? ⟨w.heap.size + 1 + 1, 0, none⟩ = some (.int .i64 0) := B3.out.at_ 0
    have z1 : w4.cell? ⟨w.heap.size + 1 + 1, 1, none⟩ = some (.int .i64 0) := B3.out.at_ 1
    have z2 : w4.cell? ⟨w.heap.size + 1 + 1, 2, none⟩ = some (.string ⟨#[]⟩) := B3.out.at_ 2
    have f0 := B3.out.free 0
    have f1 := B3.out.free 1
    have f2 := B3.out.free 2
    go_wp2
    refine bodyPost_ret (v := .tuple #[W.V 0 0 W.e0, .int .i64 tt]) (by simp [results, Tryd.results13, go_sem, z0, z1, z2]) rfl ⟨rfl, ?_⟩
    exact (((HB15.out).setCell (p := ⟨w.heap.size + 1 + 1, 0, none⟩) (by show w.heap.size ≤ w.heap.size + 1 + 1; omega) _).setCell (p := ⟨w.heap.size + 1 + 1, 1, none⟩) (by show w.heap.size ≤ w.heap.size + 1 + 1; omega) _).setCell (p := ⟨w.heap.size + 1 + 1, 2, none⟩) (by show w.heap.size ≤ w.heap.size + 1 + 1; omega) _
  subst h0
  rw [if_pos rfl]
  obtain ⟨hn2, rfl⟩ := M2.out rfl
  clear M2
  have O1 : Veil (∀ wx, Calls Tryd.prog 43 #[W.V nk nn W.e0] wx fun e w' => e = .returned (M.nvN nk nn) ∧ Below wx.heap.size wx w') := ⟨fun wx => M.of_any hn1 wx⟩
  have O2 : Veil (∀ wx, Calls Tryd.prog 43 #[W.V mk mn W.e0] wx fun e w' => e = .returned (M.nvN mk mn) ∧ Below wx.heap.size wx w') := ⟨fun wx => M.of_any hn2 wx⟩
  have C1 : Veil (∀ wx, Calls Tryd.prog 44 #[.string ⟨#[43]⟩, M.nvN nk nn, M.nvN mk mn] wx fun e w' => e = .returned (.tuple #[valV (reckT (some .add) nk nn mk mn).1, .int .i64 (reckT (some .add) nk nn mk mn).2]) ∧ Below wx.heap.size wx w') := ⟨fun wx => reckon_any (some .add) nk nn mk mn hn1 hn2 wx⟩
  obtain ⟨q, hq⟩ : ∃ q, q = reckT (some .add) nk nn mk mn := ⟨_, rfl⟩
  rw [← hq] at C1 ⊢
  clear hq
  obtain ⟨⟨qk, qn, qs⟩, qt⟩ := q
  simp only at C1
  unfold M.nvN at O1 O2 C1
  obtain ⟨ra, h1⟩ : ∃ v, v = M.rK nk := ⟨_, rfl⟩
  obtain ⟨rm, h2⟩ : ∃ v, v = M.negB nk nn := ⟨_, rfl⟩
  obtain ⟨rs, h3⟩ : ∃ v, v = M.rS nk nn := ⟨_, rfl⟩
  obtain ⟨sa, h4⟩ : ∃ v, v = M.rK mk := ⟨_, rfl⟩
  obtain ⟨sm, h5⟩ : ∃ v, v = M.negB mk mn := ⟨_, rfl⟩
  obtain ⟨ss, h6⟩ : ∃ v, v = M.rS mk mn := ⟨_, rfl⟩
  rw [← h1, ← h2, ← h3] at O1 C1
  rw [← h4, ← h5, ← h6] at O2 C1
  clear h1 h2 h3 h4 h5 h6 hn1 hn2
  ·
    go_enter Tryd.func13, Tryd.ntmps13
    go_upto_region 1 with (fail)
    rw [HW.out]
    go_upto_region 17 with (fail)
    go_cut [13, 14] (fun sa sb wx => ∃ g : Nat, sa = .pointer (some ⟨g, 0, none⟩) ∧ sb = .int .i64 0 ∧ Box wx g 27 #[.int .i64 nk, .int .i64 nn, .string W.e0] ∧ Below W0.heap.size W0 wx)
    case first =>
      go_wp2_with (first | (go_at_call 22; ((with_reducible refine (N1.out _).mono ?_); rintro e w2 ⟨rfl, hb2⟩)))
      go_meet
      exact ⟨w2.heap.size, rfl, rfl, Box.new _ _ _, hb2.alloc hb2.size _⟩
    case rest =>
    obtain ⟨g13, rfl, rfl, bq13, hb13⟩ := hcut
    obtain ⟨w3, hw13⟩ : ∃ v, v = wc := ⟨_, rfl⟩
    rw [← hw13] at hb13 bq13 ⊢
    clear hw13
    replace B2 := Veil.mk (B2.out.on hb13 B2.out.lt)
    replace B3 := Veil.mk (B3.out.on hb13 B3.out.lt)
    have HB13 := Veil.mk (hB.trans (hb13.mono hB.size))
    have Q13 := Veil.mk bq13
    clear bq13 hb13
    have q0 : w3.cell? ⟨w.heap.size + 1, 0, none⟩ = some (.int .i64 yk) := B2.out.at_ 0
    have q1 : w3.cell? ⟨w.heap.size + 1, 1, none⟩ = some (.int .i64 yn) := B2.out.at_ 1
    have q2 : w3.cell? ⟨w.heap.size + 1, 2, none⟩ = some (.string ys) := B2.out.at_ 2
    go_upto_region 20 with (fail)
    go_cut [15, 14] (fun sa sb wx => ∃ g : Nat, sa = .pointer (some ⟨g, 0, none⟩) ∧ sb = .int .i64 0 ∧ Box wx g 27 #[.int .i64 mk, .int .i64 mn, .string W.e0] ∧ Below w3.heap.size w3 wx)
    case first =>
      go_wp2_with (first | (go_at_call 22; ((with_reducible refine (N2.out _).mono ?_); rintro e w2 ⟨rfl, hb2⟩)))
      go_meet
      exact ⟨w2.heap.size, rfl, rfl, Box.new _ _ _, hb2.alloc hb2.size _⟩
    case rest =>
    obtain ⟨g15, rfl, rfl, bq15, hb15⟩ := hcut
    obtain ⟨w4, hw15⟩ : ∃ v, v = wc := ⟨_, rfl⟩
    rw [← hw15] at hb15 bq15 ⊢
    clear hw15
    replace B3 := Veil.mk (B3.out.on hb15 B3.out.lt)
    replace Q13 := Veil.mk (Q13.out.on hb15 Q13.out.lt)
    have HB15 := Veil.mk (HB13.out.trans (hb15.mono HB13.out.size))
    have Q15 := Veil.mk bq15
    clear bq15 hb15
    clear q0 q1 q2 p0 p1 p2 N1 N2 B2
    go_upto_region 23 with (fail)
    refine Q.wp_region_pair 73 #[.int .u8 0, .bool false, .int .i64 0] #[.int .u8 ra, .bool rm, .int .i64 rs] #[.int .u8 sa, .bool sm, .int .i64 ss] (W.V nk nn W.e0) (W.V mk mn W.e0) (M.nv ra rm rs) (M.nv sa sm ss) 122 123 124 125 16 17 (by kernel_rfl) rfl ⟨_, _, _, _, _, _, rfl⟩ ?_ (by kernel_rfl) ?_
    · refine Steps.cons rfl (fun bb aa w' hbs hb0 hbp hI K hK => ?_) ?_
      · obtain ⟨u0, u1, u2, u3, u4, u5, rfl, hI⟩ := hI
        have e0 := Q13.out.on hI.1 Q13.out.lt; have e1 := Q15.out.on hI.1 Q15.out.lt; have c0 : w'.cell? ⟨g13, 0, none⟩ = some (.int .i64 nk) := e0.at_ 0; have c1 : w'.cell? ⟨g13, 1, none⟩ = some (.int .i64 nn) := e0.at_ 1; have c2 : w'.cell? ⟨g13, 2, none⟩ = some (.string W.e0) := e0.at_ 2; have d0 : w'.cell? ⟨g15, 0, none⟩ = some (.int .i64 mk) := e1.at_ 0; have d1 : w'.cell? ⟨g15, 1, none⟩ = some (.int .i64 mn) := e1.at_ 1; have d2 : w'.cell? ⟨g15, 2, none⟩ = some (.string W.e0) := e1.at_ 2
        simp only [put6, List.setIfInBounds_toArray, List.set_cons_zero, List.set_cons_succ]
        go_simp
        exact hK _ _ (Q.PInv.mk (Q.PW.load0 hI hbs) (by simp only [put6, List.setIfInBounds_toArray, List.set_cons_zero, List.set_cons_succ]))
      refine Steps.cons rfl (fun bb aa w' hbs hb0 hbp hI K hK => ?_) ?_
      · obtain ⟨u0, u1, u2, u3, u4, u5, rfl, hI⟩ := hI
        have hq := after_of 0 (by kernel_rfl) hbp
        have hu : u0 = (W.V nk nn W.e0) := hI.2.1 hq
        subst hu
        have HI := Veil.mk hI
        clear hI
        simp only [put6, List.setIfInBounds_toArray, List.set_cons_zero, List.set_cons_succ]
        go_simp
        refine (O1.out w').mono ?_
        rintro e w2 ⟨rfl, hb2⟩
        go_simp
        exact hK _ _ (Q.PInv.mk (Q.PW.call1 HI.out hbs hb0 hb2) (by simp only [put6, List.setIfInBounds_toArray, List.set_cons_zero, List.set_cons_succ]))
      refine Steps.cons rfl (fun bb aa w' hbs hb0 hbp hI K hK => ?_) ?_
      · obtain ⟨u0, u1, u2, u3, u4, u5, rfl, hI⟩ := hI
        have e0 := Q13.out.on hI.1 Q13.out.lt; have e1 := Q15.out.on hI.1 Q15.out.lt; have c0 : w'.cell? ⟨g13, 0, none⟩ = some (.int .i64 nk) := e0.at_ 0; have c1 : w'.cell? ⟨g13, 1, none⟩ = some (.int .i64 nn) := e0.at_ 1; have c2 : w'.cell? ⟨g13, 2, none⟩ = some (.string W.e0) := e0.at_ 2; have d0 : w'.cell? ⟨g15, 0, none⟩ = some (.int .i64 mk) := e1.at_ 0; have d1 : w'.cell? ⟨g15, 1, none⟩ = some (.int .i64 mn) := e1.at_ 1; have d2 : w'.cell? ⟨g15, 2, none⟩ = some (.string W.e0) := e1.at_ 2
        simp only [put6, List.setIfInBounds_toArray, List.set_cons_zero, List.set_cons_succ]
        go_simp
        exact hK _ _ (Q.PInv.mk (Q.PW.load2 hI hbs) (by simp only [put6, List.setIfInBounds_toArray, List.set_cons_zero, List.set_cons_succ]))
      refine Steps.cons rfl (fun bb aa w' hbs hb0 hbp hI K hK => ?_) ?_
      · obtain ⟨u0, u1, u2, u3, u4, u5, rfl, hI⟩ := hI
        have hq := after_of 2 (by kernel_rfl) hbp
        have hu : u2 = (W.V mk mn W.e0) := hI.2.2.1 hq
        subst hu
        have HI := Veil.mk hI
        clear hI
        simp only [put6, List.setIfInBounds_toArray, List.set_cons_zero, List.set_cons_succ]
        go_simp
        refine (O2.out w').mono ?_
        rintro e w2 ⟨rfl, hb2⟩
        go_simp
        exact hK _ _ (Q.PInv.mk (Q.PW.call3 HI.out hbs hb0 hb2) (by simp only [put6, List.setIfInBounds_toArray, List.set_cons_zero, List.set_cons_succ]))
      refine Steps.cons rfl (fun bb aa w' hbs hb0 hbp hI K hK => ?_) ?_
      · obtain ⟨u0, u1, u2, u3, u4, u5, rfl, hI⟩ := hI
        have HI := Veil.mk hI
        clear hI
        simp only [put6, List.setIfInBounds_toArray, List.set_cons_zero, List.set_cons_succ]
        go_simp
        exact hK _ _ (Q.PInv.mk (Q.PW.alloc4 HI.out hbs hb0) (by simp only [put6, List.setIfInBounds_toArray, List.set_cons_zero, List.set_cons_succ]))
      refine Steps.cons rfl (fun bb aa w' hbs hb0 hbp hI K hK => ?_) ?_
      · obtain ⟨u0, u1, u2, u3, u4, u5, rfl, hI⟩ := hI
        have HI := Veil.mk hI
        clear hI
        simp only [put6, List.setIfInBounds_toArray, List.set_cons_zero, List.set_cons_succ]
        go_simp
        exact hK _ _ (Q.PInv.mk (Q.PW.alloc5 HI.out hbs hb0) (by simp only [put6, List.setIfInBounds_toArray, List.set_cons_zero, List.set_cons_succ]))
      refine Steps.cons rfl (fun bb aa w' hbs hb0 hbp hI K hK => ?_) ?_
      · obtain ⟨u0, u1, u2, u3, u4, u5, rfl, hI⟩ := hI
        have q1 := after_of 1 (by kernel_rfl) hbp
        have q2 := after_of 4 (by kernel_rfl) hbp
        have hq := Q.PW.at4 hI hbs hb0 q1 q2
        clear hI q1 q2 hbp
        simp only [put6, List.setIfInBounds_toArray, List.set_cons_zero, List.set_cons_succ]
        obtain ⟨g, e1, e2, hx, hJ⟩ := hq
        subst e1
        subst e2
        have x0 : w'.cell? ⟨g, 0, none⟩ = some (.int .u8 0) := hx.at_ 0
        have x1 : w'.cell? ⟨g, 1, none⟩ = some (.bool false) := hx.at_ 1
        have x2 : w'.cell? ⟨g, 2, none⟩ = some (.int .i64 0) := hx.at_ 2
        have f0 := hx.free 0
        have f1 := hx.free 1
        have f2 := hx.free 2
        have HJ := Veil.mk hJ
        clear hJ hx
        go_simp
        exact hK _ _ (Q.PInv.mk HJ.out (by simp only [put6, List.setIfInBounds_toArray, List.set_cons_zero, List.set_cons_succ]))
      refine Steps.cons rfl (fun bb aa w' hbs hb0 hbp hI K hK => ?_) ?_
      · obtain ⟨u0, u1, u2, u3, u4, u5, rfl, hI⟩ := hI
        have q1 := after_of 3 (by kernel_rfl) hbp
        have q2 := after_of 5 (by kernel_rfl) hbp
        have hq := Q.PW.at5 hI hbs hb0 q1 q2
        clear hI q1 q2 hbp
        simp only [put6, List.setIfInBounds_toArray, List.set_cons_zero, List.set_cons_succ]
        obtain ⟨g, e1, e2, hx, hJ⟩ := hq
        subst e1
        subst e2
        have x0 : w'.cell? ⟨g, 0, none⟩ = some (.int .u8 0) := hx.at_ 0
        have x1 : w'.cell? ⟨g, 1, none⟩ = some (.bool false) := hx.at_ 1
        have x2 : w'.cell? ⟨g, 2, none⟩ = some (.int .i64 0) := hx.at_ 2
        have f0 := hx.free 0
        have f1 := hx.free 1
        have f2 := hx.free 2
        have HJ := Veil.mk hJ
        clear hJ hx
        go_simp
        exact hK _ _ (Q.PInv.mk HJ.out (by simp only [put6, List.setIfInBounds_toArray, List.set_cons_zero, List.set_cons_succ]))
      exact Steps.nil
    intro g1 g2 w5 hne bx by_ hb5 k1 k2
    simp only [put6, List.setIfInBounds_toArray, List.set_cons_zero, List.set_cons_succ]
    have HB5 := Veil.mk (HB15.out.trans (hb5.mono HB15.out.size))
    replace B3 := Veil.mk (B3.out.on hb5 B3.out.lt)
    have p0 : w5.cell? ⟨g1, 0, none⟩ = some (.int .u8 ra) := bx.at_ 0
    have p1 : w5.cell? ⟨g1, 1, none⟩ = some (.bool rm) := bx.at_ 1
    have p2 : w5.cell? ⟨g1, 2, none⟩ = some (.int .i64 rs) := bx.at_ 2
    have q0 : w5.cell? ⟨g2, 0, none⟩ = some (.int .u8 sa) := by_.at_ 0
    have q1 : w5.cell? ⟨g2, 1, none⟩ = some (.bool sm) := by_.at_ 1
    have q2 : w5.cell? ⟨g2, 2, none⟩ = some (.int .i64 ss) := by_.at_ 2
    clear bx by_ hb5 k1 k2 O1 O2 HB15 HB13 Q13 Q15 hne
    go_wp2_with (first | (go_at_call 44; ((with_reducible refine (C1.out _).mono ?_); rintro e w6 ⟨rfl, hb6⟩; have z0 : w6.cell? ⟨w.heap.size + 1 + 1, 0, none⟩ = some (.int .i64 0) := (B3.out.on hb6 B3.out.lt).at_ 0; have z1 : w6.cell? ⟨w.heap.size + 1 + 1, 1, none⟩ = some (.int .i64 0) := (B3.out.on hb6 B3.out.lt).at_ 1; have z2 : w6.cell? ⟨w.heap.size + 1 + 1, 2, none⟩ = some (.string ⟨#[]⟩) := (B3.out.on hb6 B3.out.lt).at_ 2; have f0 := (B3.out.on hb6 B3.out.lt).free 0; have f1 := (B3.out.on hb6 B3.out.lt).free 1; have f2 := (B3.out.on hb6 B3.out.lt).free 2)))
    refine bodyPost_ret (v := .tuple #[W.V qk qn qs, .int .i64 qt]) (by simp [results, Tryd.results13, go_sem, z0, z1, z2]) rfl ⟨rfl, ?_⟩
    exact (((HB5.out.trans (hb6.mono HB5.out.size)).setCell (p := ⟨w.heap.size + 1 + 1, 0, none⟩) (by show w.heap.size ≤ w.heap.size + 1 + 1; omega) _).setCell (p := ⟨w.heap.size + 1 + 1, 1, none⟩) (by show w.heap.size ≤ w.heap.size + 1 + 1; omega) _).setCell (p := ⟨w.heap.size + 1 + 1, 2, none⟩) (by show w.heap.size ≤ w.heap.size + 1 + 1; omega) _
end Go.Proofs.YtbkgophgclpijaaDoor
namespace Go.Proofs.YtbkgophgclpijaaDoor
open Go Go.RowKit

set_option maxRecDepth 1000000 in
set_option maxHeartbeats 8000000 in
theorem rbin_mul (x y : Vt) (hx : WV x.1 x.2.1 x.2.2) (hy : WV y.1 y.2.1 y.2.2) (w : World) :
    Calls Tryd.prog 13 #[.string ⟨#[42]⟩, valV x, valV y] w fun e w' => e = .returned (.tuple #[valV (calcN (some .mul) x y).1, .int .i64 (calcN (some .mul) x y).2]) ∧ Below w.heap.size w w' := by
  have N1 := Veil.mk (rnumber_any x hx)
  have N2 := Veil.mk (rnumber_any y hy)
  have M1 := Veil.mk (number_num hx)
  have M2 := Veil.mk (number_num hy)
  obtain ⟨W0, hW⟩ : ∃ v, v = tri w x y := ⟨_, rfl⟩
  have hB : Below w.heap.size w W0 := hW ▸ tri_below w x y
  have b1 := tri_x w x y
  have b2' := tri_y w x y
  have b3 := tri_r w x y
  rw [← hW] at b1 b2' b3
  have hw0 := hW.symm
  unfold tri two at hw0
  clear hW
  unfold calcN
  clear hx hy
  obtain ⟨nx, hnx⟩ : ∃ p, p = numberT x := ⟨_, rfl⟩
  obtain ⟨ny, hny⟩ : ∃ p, p = numberT y := ⟨_, rfl⟩
  rw [← hnx] at N1 M1 ⊢
  rw [← hny] at N2 M2 ⊢
  clear hnx hny
  obtain ⟨⟨nk, nn, ns⟩, st⟩ := nx
  obtain ⟨⟨mk, mn, ms⟩, tt⟩ := ny
  obtain ⟨xk, xn, xs⟩ := x
  obtain ⟨yk, yn, ys⟩ := y
  simp only at N1 N2 M1 M2 b1 b2' b3 hw0 ⊢
  have HW := Lib.hid hw0
  clear hw0
  have p0 : W0.cell? ⟨w.heap.size, 0, none⟩ = some (.int .i64 xk) := b1.at_ 0
  have p1 : W0.cell? ⟨w.heap.size, 1, none⟩ = some (.int .i64 xn) := b1.at_ 1
  have p2 : W0.cell? ⟨w.heap.size, 2, none⟩ = some (.string xs) := b1.at_ 2
  have q0 : W0.cell? ⟨w.heap.size + 1, 0, none⟩ = some (.int .i64 yk) := b2'.at_ 0
  have q1 : W0.cell? ⟨w.heap.size + 1, 1, none⟩ = some (.int .i64 yn) := b2'.at_ 1
  have q2 : W0.cell? ⟨w.heap.size + 1, 2, none⟩ = some (.string ys) := b2'.at_ 2
  have B2 := Veil.mk b2'
  have B3 := Veil.mk b3
  clear b1 b2' b3
  by_cases h0 : st = 0
  case neg =>
    have h0b : (st != 0) = true := by simpa using h0
    have h0c : (st == 0) = false := by simpa using h0
    rw [if_neg h0]
    clear h0 M1 M2 N2
    skip
    go_enter Tryd.func13, Tryd.ntmps13
    go_upto_region 1 with (fail)
    rw [HW.out]
    go_upto_region 17 with (fail)
    go_cut [13, 14] (fun sa sb wx => ∃ g : Nat, sa = .pointer (some ⟨g, 0, none⟩) ∧ sb = .int .i64 st ∧ Box wx g 27 #[.int .i64 nk, .int .i64 nn, .string ns] ∧ Below W0.heap.size W0 wx)
    case first =>
      go_wp2_with (first | (go_at_call 22; ((with_reducible refine (N1.out _).mono ?_); rintro e w2 ⟨rfl, hb2⟩)))
      go_meet
      exact ⟨w2.heap.size, rfl, rfl, Box.new _ _ _, hb2.alloc hb2.size _⟩
    case rest =>
    obtain ⟨g13, rfl, rfl, bq13, hb13⟩ := hcut
    obtain ⟨w3, hw13⟩ : ∃ v, v = wc := ⟨_, rfl⟩
    rw [← hw13] at hb13 bq13 ⊢
    clear hw13
    replace B2 := Veil.mk (B2.out.on hb13 B2.out.lt)
    replace B3 := Veil.mk (B3.out.on hb13 B3.out.lt)
    have HB13 := Veil.mk (hB.trans (hb13.mono hB.size))
    have Q13 := Veil.mk bq13
    clear bq13 hb13
    have z0 : w3.cell? ⟨w.heap.size + 1 + 1, 0, none⟩ = some (.int .i64 0) := B3.out.at_ 0
    have z1 : w3.cell? ⟨w.heap.size + 1 + 1, 1, none⟩ = some (.int .i64 0) := B3.out.at_ 1
    have z2 : w3.cell? ⟨w.heap.size + 1 + 1, 2, none⟩ = some (.string ⟨#[]⟩) := B3.out.at_ 2
    have f0 := B3.out.free 0
    have f1 := B3.out.free 1
    have f2 := B3.out.free 2
    go_wp2
    refine bodyPost_ret (v := .tuple #[W.V 0 0 W.e0, .int .i64 st]) (by simp [results, Tryd.results13, go_sem, z0, z1, z2]) rfl ⟨rfl, ?_⟩
    exact (((HB13.out).setCell (p := ⟨w.heap.size + 1 + 1, 0, none⟩) (by show w.heap.size ≤ w.heap.size + 1 + 1; omega) _).setCell (p := ⟨w.heap.size + 1 + 1, 1, none⟩) (by show w.heap.size ≤ w.heap.size + 1 + 1; omega) _).setCell (p := ⟨w.heap.size + 1 + 1, 2, none⟩) (by show w.heap.size ≤ w.heap.size + 1 + 1; omega) _
  subst h0
  rw [if_pos rfl]
  obtain ⟨hn1, rfl⟩ := M1.out rfl
  clear M1
  by_cases h0 : tt = 0
  case neg =>
    have h0b : (tt != 0) = true := by simpa using h0
    have h0c : (tt == 0) = false := by simpa using h0
    rw [if_neg h0]
    clear h0 M2
    skip
    go_enter Tryd.func13, Tryd.ntmps13
    go_upto_region 1 with (fail)
    rw [HW.out]
    go_upto_region 17 with (fail)
    go_cut [13, 14] (fun sa sb wx => ∃ g : Nat, sa = .pointer (some ⟨g, 0, none⟩) ∧ sb = .int .i64 0 ∧ Box wx g 27 #[.int .i64 nk, .int .i64 nn, .string W.e0] ∧ Below W0.heap.size W0 wx)
    case first =>
      go_wp2_with (first | (go_at_call 22; ((with_reducible refine (N1.out _).mono ?_); rintro e w2 ⟨rfl, hb2⟩)))
      go_meet
      exact ⟨w2.heap.size, rfl, rfl, Box.new _ _ _, hb2.alloc hb2.size _⟩
    case rest =>
    obtain ⟨g13, rfl, rfl, bq13, hb13⟩ := hcut
    obtain ⟨w3, hw13⟩ : ∃ v, v = wc := ⟨_, rfl⟩
    rw [← hw13] at hb13 bq13 ⊢
    clear hw13
    replace B2 := Veil.mk (B2.out.on hb13 B2.out.lt)
    replace B3 := Veil.mk (B3.out.on hb13 B3.out.lt)
    have HB13 := Veil.mk (hB.trans (hb13.mono hB.size))
    have Q13 := Veil.mk bq13
    clear bq13 hb13
    have q0 : w3.cell? ⟨w.heap.size + 1, 0, none⟩ = some (.int .i64 yk) := B2.out.at_ 0
    have q1 : w3.cell? ⟨w.heap.size + 1, 1, none⟩ = some (.int .i64 yn) := B2.out.at_ 1
    have q2 : w3.cell? ⟨w.heap.size + 1, 2, none⟩ = some (.string ys) := B2.out.at_ 2
    go_upto_region 20 with (fail)
    go_cut [15, 14] (fun sa sb wx => ∃ g : Nat, sa = .pointer (some ⟨g, 0, none⟩) ∧ sb = .int .i64 tt ∧ Box wx g 27 #[.int .i64 mk, .int .i64 mn, .string ms] ∧ Below w3.heap.size w3 wx)
    case first =>
      go_wp2_with (first | (go_at_call 22; ((with_reducible refine (N2.out _).mono ?_); rintro e w2 ⟨rfl, hb2⟩)))
      go_meet
      exact ⟨w2.heap.size, rfl, rfl, Box.new _ _ _, hb2.alloc hb2.size _⟩
    case rest =>
    obtain ⟨g15, rfl, rfl, bq15, hb15⟩ := hcut
    obtain ⟨w4, hw15⟩ : ∃ v, v = wc := ⟨_, rfl⟩
    rw [← hw15] at hb15 bq15 ⊢
    clear hw15
    replace B3 := Veil.mk (B3.out.on hb15 B3.out.lt)
    have HB15 := Veil.mk (HB13.out.trans (hb15.mono HB13.out.size))
    have Q15 := Veil.mk bq15
    clear bq15 hb15
    have z0 : w4.cell? ⟨w.heap.size + 1 + 1, 0, none⟩ = some (.int .i64 0) := B3.out.at_ 0
    have z1 : w4.cell? ⟨w.heap.size + 1 + 1, 1, none⟩ = some (.int .i64 0) := B3.out.at_ 1
    have z2 : w4.cell? ⟨w.heap.size + 1 + 1, 2, none⟩ = some (.string ⟨#[]⟩) := B3.out.at_ 2
    have f0 := B3.out.free 0
    have f1 := B3.out.free 1
    have f2 := B3.out.free 2
    go_wp2
    refine bodyPost_ret (v := .tuple #[W.V 0 0 W.e0, .int .i64 tt]) (by simp [results, Tryd.results13, go_sem, z0, z1, z2]) rfl ⟨rfl, ?_⟩
    exact (((HB15.out).setCell (p := ⟨w.heap.size + 1 + 1, 0, none⟩) (by show w.heap.size ≤ w.heap.size + 1 + 1; omega) _).setCell (p := ⟨w.heap.size + 1 + 1, 1, none⟩) (by show w.heap.size ≤ w.heap.size + 1 + 1; omega) _).setCell (p := ⟨w.heap.size + 1 + 1, 2, none⟩) (by show w.heap.size ≤ w.heap.size + 1 + 1; omega) _
  subst h0
  rw [if_pos rfl]
  obtain ⟨hn2, rfl⟩ := M2.out rfl
  clear M2
  have O1 : Veil (∀ wx, Calls Tryd.prog 43 #[W.V nk nn W.e0] wx fun e w' => e = .returned (M.nvN nk nn) ∧ Below wx.heap.size wx w') := ⟨fun wx => M.of_any hn1 wx⟩
  have O2 : Veil (∀ wx, Calls Tryd.prog 43 #[W.V mk mn W.e0] wx fun e w' => e = .returned (M.nvN mk mn) ∧ Below wx.heap.size wx w') := ⟨fun wx => M.of_any hn2 wx⟩
  have C1 : Veil (∀ wx, Calls Tryd.prog 44 #[.string ⟨#[42]⟩, M.nvN nk nn, M.nvN mk mn] wx fun e w' => e = .returned (.tuple #[valV (reckT (some .mul) nk nn mk mn).1, .int .i64 (reckT (some .mul) nk nn mk mn).2]) ∧ Below wx.heap.size wx w') := ⟨fun wx => reckon_any (some .mul) nk nn mk mn hn1 hn2 wx⟩
  obtain ⟨q, hq⟩ : ∃ q, q = reckT (some .mul) nk nn mk mn := ⟨_, rfl⟩
  rw [← hq] at C1 ⊢
  clear hq
  obtain ⟨⟨qk, qn, qs⟩, qt⟩ := q
  simp only at C1
  unfold M.nvN at O1 O2 C1
  obtain ⟨ra, h1⟩ : ∃ v, v = M.rK nk := ⟨_, rfl⟩
  obtain ⟨rm, h2⟩ : ∃ v, v = M.negB nk nn := ⟨_, rfl⟩
  obtain ⟨rs, h3⟩ : ∃ v, v = M.rS nk nn := ⟨_, rfl⟩
  obtain ⟨sa, h4⟩ : ∃ v, v = M.rK mk := ⟨_, rfl⟩
  obtain ⟨sm, h5⟩ : ∃ v, v = M.negB mk mn := ⟨_, rfl⟩
  obtain ⟨ss, h6⟩ : ∃ v, v = M.rS mk mn := ⟨_, rfl⟩
  rw [← h1, ← h2, ← h3] at O1 C1
  rw [← h4, ← h5, ← h6] at O2 C1
  clear h1 h2 h3 h4 h5 h6 hn1 hn2
  ·
    go_enter Tryd.func13, Tryd.ntmps13
    go_upto_region 1 with (fail)
    rw [HW.out]
    go_upto_region 17 with (fail)
    go_cut [13, 14] (fun sa sb wx => ∃ g : Nat, sa = .pointer (some ⟨g, 0, none⟩) ∧ sb = .int .i64 0 ∧ Box wx g 27 #[.int .i64 nk, .int .i64 nn, .string W.e0] ∧ Below W0.heap.size W0 wx)
    case first =>
      go_wp2_with (first | (go_at_call 22; ((with_reducible refine (N1.out _).mono ?_); rintro e w2 ⟨rfl, hb2⟩)))
      go_meet
      exact ⟨w2.heap.size, rfl, rfl, Box.new _ _ _, hb2.alloc hb2.size _⟩
    case rest =>
    obtain ⟨g13, rfl, rfl, bq13, hb13⟩ := hcut
    obtain ⟨w3, hw13⟩ : ∃ v, v = wc := ⟨_, rfl⟩
    rw [← hw13] at hb13 bq13 ⊢
    clear hw13
    replace B2 := Veil.mk (B2.out.on hb13 B2.out.lt)
    replace B3 := Veil.mk (B3.out.on hb13 B3.out.lt)
    have HB13 := Veil.mk (hB.trans (hb13.mono hB.size))
    have Q13 := Veil.mk bq13
    clear bq13 hb13
    have q0 : w3.cell? ⟨w.heap.size + 1, 0, none⟩ = some (.int .i64 yk) := B2.out.at_ 0
    have q1 : w3.cell? ⟨w.heap.size + 1, 1, none⟩ = some (.int .i64 yn) := B2.out.at_ 1
    have q2 : w3.cell? ⟨w.heap.size + 1, 2, none⟩ = some (.string ys) := B2.out.at_ 2
    go_upto_region 20 with (fail)
    go_cut [15, 14] (fun sa sb wx => ∃ g : Nat, sa = .pointer (some ⟨g, 0, none⟩) ∧ sb = .int .i64 0 ∧ Box wx g 27 #[.int .i64 mk, .int .i64 mn, .string W.e0] ∧ Below w3.heap.size w3 wx)
    case first =>
      go_wp2_with (first | (go_at_call 22; ((with_reducible refine (N2.out _).mono ?_); rintro e w2 ⟨rfl, hb2⟩)))
      go_meet
      exact ⟨w2.heap.size, rfl, rfl, Box.new _ _ _, hb2.alloc hb2.size _⟩
    case rest =>
    obtain ⟨g15, rfl, rfl, bq15, hb15⟩ := hcut
    obtain ⟨w4, hw15⟩ : ∃ v, v = wc := ⟨_, rfl⟩
    rw [← hw15] at hb15 bq15 ⊢
    clear hw15
    replace B3 := Veil.mk (B3.out.on hb15 B3.out.lt)
    replace Q13 := Veil.mk (Q13.out.on hb15 Q13.out.lt)
    have HB15 := Veil.mk (HB13.out.trans (hb15.mono HB13.out.size))
    have Q15 := Veil.mk bq15
    clear bq15 hb15
    clear q0 q1 q2 p0 p1 p2 N1 N2 B2
    go_upto_region 23 with (fail)
    refine Q.wp_region_pair 73 #[.int .u8 0, .bool false, .int .i64 0] #[.int .u8 ra, .bool rm, .int .i64 rs] #[.int .u8 sa, .bool sm, .int .i64 ss] (W.V nk nn W.e0) (W.V mk mn W.e0) (M.nv ra rm rs) (M.nv sa sm ss) 122 123 124 125 16 17 (by kernel_rfl) rfl ⟨_, _, _, _, _, _, rfl⟩ ?_ (by kernel_rfl) ?_
    · refine Steps.cons rfl (fun bb aa w' hbs hb0 hbp hI K hK => ?_) ?_
      · obtain ⟨u0, u1, u2, u3, u4, u5, rfl, hI⟩ := hI
        have e0 := Q13.out.on hI.1 Q13.out.lt; have e1 := Q15.out.on hI.1 Q15.out.lt; have c0 : w'.cell? ⟨g13, 0, none⟩ = some (.int .i64 nk) := e0.at_ 0; have c1 : w'.cell? ⟨g13, 1, none⟩ = some (.int .i64 nn) := e0.at_ 1; have c2 : w'.cell? ⟨g13, 2, none⟩ = some (.string W.e0) := e0.at_ 2; have d0 : w'.cell? ⟨g15, 0, none⟩ = some (.int .i64 mk) := e1.at_ 0; have d1 : w'.cell? ⟨g15, 1, none⟩ = some (.int .i64 mn) := e1.at_ 1; have d2 : w'.cell? ⟨g15, 2, none⟩ = some (.string W.e0) := e1.at_ 2
        simp only [put6, List.setIfInBounds_toArray, List.set_cons_zero, List.set_cons_succ]
        go_simp
        exact hK _ _ (Q.PInv.mk (Q.PW.load0 hI hbs) (by simp only [put6, List.setIfInBounds_toArray, List.set_cons_zero, List.set_cons_succ]))
      refine Steps.cons rfl (fun bb aa w' hbs hb0 hbp hI K hK => ?_) ?_
      · obtain ⟨u0, u1, u2, u3, u4, u5, rfl, hI⟩ := hI
        have hq := after_of 0 (by kernel_rfl) hbp
        have hu : u0 = (W.V nk nn W.e0) := hI.2.1 hq
        subst hu
        have HI := Veil.mk hI
        clear hI
        simp only [put6, List.setIfInBounds_toArray, List.set_cons_zero, List.set_cons_succ]
        go_simp
        refine (O1.out w').mono ?_
        rintro e w2 ⟨rfl, hb2⟩
        go_simp
        exact hK _ _ (Q.PInv.mk (Q.PW.call1 HI.out hbs hb0 hb2) (by simp only [put6, List.setIfInBounds_toArray, List.set_cons_zero, List.set_cons_succ]))
      refine Steps.cons rfl (fun bb aa w' hbs hb0 hbp hI K hK => ?_) ?_
      · obtain ⟨u0, u1, u2, u3, u4, u5, rfl, hI⟩ := hI
        have e0 := Q13.out.on hI.1 Q13.out.lt; have e1 := Q15.out.on hI.1 Q15.out.lt; have c0 : w'.cell? ⟨g13, 0, none⟩ = some (.int .i64 nk) := e0.at_ 0; have c1 : w'.cell? ⟨g13, 1, none⟩ = some (.int .i64 nn) := e0.at_ 1; have c2 : w'.cell? ⟨g13, 2, none⟩ = some (.string W.e0) := e0.at_ 2; have d0 : w'.cell? ⟨g15, 0, none⟩ = some (.int .i64 mk) := e1.at_ 0; have d1 : w'.cell? ⟨g15, 1, none⟩ = some (.int .i64 mn) := e1.at_ 1; have d2 : w'.cell? ⟨g15, 2, none⟩ = some (.string W.e0) := e1.at_ 2
        simp only [put6, List.setIfInBounds_toArray, List.set_cons_zero, List.set_cons_succ]
        go_simp
        exact hK _ _ (Q.PInv.mk (Q.PW.load2 hI hbs) (by simp only [put6, List.setIfInBounds_toArray, List.set_cons_zero, List.set_cons_succ]))
      refine Steps.cons rfl (fun bb aa w' hbs hb0 hbp hI K hK => ?_) ?_
      · obtain ⟨u0, u1, u2, u3, u4, u5, rfl, hI⟩ := hI
        have hq := after_of 2 (by kernel_rfl) hbp
        have hu : u2 = (W.V mk mn W.e0) := hI.2.2.1 hq
        subst hu
        have HI := Veil.mk hI
        clear hI
        simp only [put6, List.setIfInBounds_toArray, List.set_cons_zero, List.set_cons_succ]
        go_simp
        refine (O2.out w').mono ?_
        rintro e w2 ⟨rfl, hb2⟩
        go_simp
        exact hK _ _ (Q.PInv.mk (Q.PW.call3 HI.out hbs hb0 hb2) (by simp only [put6, List.setIfInBounds_toArray, List.set_cons_zero, List.set_cons_succ]))
      refine Steps.cons rfl (fun bb aa w' hbs hb0 hbp hI K hK => ?_) ?_
      · obtain ⟨u0, u1, u2, u3, u4, u5, rfl, hI⟩ := hI
        have HI := Veil.mk hI
        clear hI
        simp only [put6, List.setIfInBounds_toArray, List.set_cons_zero, List.set_cons_succ]
        go_simp
        exact hK _ _ (Q.PInv.mk (Q.PW.alloc4 HI.out hbs hb0) (by simp only [put6, List.setIfInBounds_toArray, List.set_cons_zero, List.set_cons_succ]))
      refine Steps.cons rfl (fun bb aa w' hbs hb0 hbp hI K hK => ?_) ?_
      · obtain ⟨u0, u1, u2, u3, u4, u5, rfl, hI⟩ := hI
        have HI := Veil.mk hI
        clear hI
        simp only [put6, List.setIfInBounds_toArray, List.set_cons_zero, List.set_cons_succ]
        go_simp
        exact hK _ _ (Q.PInv.mk (Q.PW.alloc5 HI.out hbs hb0) (by simp only [put6, List.setIfInBounds_toArray, List.set_cons_zero, List.set_cons_succ]))
      refine Steps.cons rfl (fun bb aa w' hbs hb0 hbp hI K hK => ?_) ?_
      · obtain ⟨u0, u1, u2, u3, u4, u5, rfl, hI⟩ := hI
        have q1 := after_of 1 (by kernel_rfl) hbp
        have q2 := after_of 4 (by kernel_rfl) hbp
        have hq := Q.PW.at4 hI hbs hb0 q1 q2
        clear hI q1 q2 hbp
        simp only [put6, List.setIfInBounds_toArray, List.set_cons_zero, List.set_cons_succ]
        obtain ⟨g, e1, e2, hx, hJ⟩ := hq
        subst e1
        subst e2
        have x0 : w'.cell? ⟨g, 0, none⟩ = some (.int .u8 0) := hx.at_ 0
        have x1 : w'.cell? ⟨g, 1, none⟩ = some (.bool false) := hx.at_ 1
        have x2 : w'.cell? ⟨g, 2, none⟩ = some (.int .i64 0) := hx.at_ 2
        have f0 := hx.free 0
        have f1 := hx.free 1
        have f2 := hx.free 2
        have HJ := Veil.mk hJ
        clear hJ hx
        go_simp
        exact hK _ _ (Q.PInv.mk HJ.out (by simp only [put6, List.setIfInBounds_toArray, List.set_cons_zero, List.set_cons_succ]))
      refine Steps.cons rfl (fun bb aa w' hbs hb0 hbp hI K hK => ?_) ?_
      · obtain ⟨u0, u1, u2, u3, u4, u5, rfl, hI⟩ := hI
        have q1 := after_of 3 (by kernel_rfl) hbp
        have q2 := after_of 5 (by kernel_rfl) hbp
        have hq := Q.PW.at5 hI hbs hb0 q1 q2
        clear hI q1 q2 hbp
        simp only [put6, List.setIfInBounds_toArray, List.set_cons_zero, List.set_cons_succ]
        obtain ⟨g, e1, e2, hx, hJ⟩ := hq
        subst e1
        subst e2
        have x0 : w'.cell? ⟨g, 0, none⟩ = some (.int .u8 0) := hx.at_ 0
        have x1 : w'.cell? ⟨g, 1, none⟩ = some (.bool false) := hx.at_ 1
        have x2 : w'.cell? ⟨g, 2, none⟩ = some (.int .i64 0) := hx.at_ 2
        have f0 := hx.free 0
        have f1 := hx.free 1
        have f2 := hx.free 2
        have HJ := Veil.mk hJ
        clear hJ hx
        go_simp
        exact hK _ _ (Q.PInv.mk HJ.out (by simp only [put6, List.setIfInBounds_toArray, List.set_cons_zero, List.set_cons_succ]))
      exact Steps.nil
    intro g1 g2 w5 hne bx by_ hb5 k1 k2
    simp only [put6, List.setIfInBounds_toArray, List.set_cons_zero, List.set_cons_succ]
    have HB5 := Veil.mk (HB15.out.trans (hb5.mono HB15.out.size))
    replace B3 := Veil.mk (B3.out.on hb5 B3.out.lt)
    have p0 : w5.cell? ⟨g1, 0, none⟩ = some (.int .u8 ra) := bx.at_ 0
    have p1 : w5.cell? ⟨g1, 1, none⟩ = some (.bool rm) := bx.at_ 1
    have p2 : w5.cell? ⟨g1, 2, none⟩ = some (.int .i64 rs) := bx.at_ 2
    have q0 : w5.cell? ⟨g2, 0, none⟩ = some (.int .u8 sa) := by_.at_ 0
    have q1 : w5.cell? ⟨g2, 1, none⟩ = some (.bool sm) := by_.at_ 1
    have q2 : w5.cell? ⟨g2, 2, none⟩ = some (.int .i64 ss) := by_.at_ 2
    clear bx by_ hb5 k1 k2 O1 O2 HB15 HB13 Q13 Q15 hne
    go_wp2_with (first | (go_at_call 44; ((with_reducible refine (C1.out _).mono ?_); rintro e w6 ⟨rfl, hb6⟩; have z0 : w6.cell? ⟨w.heap.size + 1 + 1, 0, none⟩ = some (.int .i64 0) := (B3.out.on hb6 B3.out.lt).at_ 0; have z1 : w6.cell? ⟨w.heap.size + 1 + 1, 1, none⟩ = some (.int .i64 0) := (B3.out.on hb6 B3.out.lt).at_ 1; have z2 : w6.cell? ⟨w.heap.size + 1 + 1, 2, none⟩ = some (.string ⟨#[]⟩) := (B3.out.on hb6 B3.out.lt).at_ 2; have f0 := (B3.out.on hb6 B3.out.lt).free 0; have f1 := (B3.out.on hb6 B3.out.lt).free 1; have f2 := (B3.out.on hb6 B3.out.lt).free 2)))
    refine bodyPost_ret (v := .tuple #[W.V qk qn qs, .int .i64 qt]) (by simp [results, Tryd.results13, go_sem, z0, z1, z2]) rfl ⟨rfl, ?_⟩
    exact (((HB5.out.trans (hb6.mono HB5.out.size)).setCell (p := ⟨w.heap.size + 1 + 1, 0, none⟩) (by show w.heap.size ≤ w.heap.size + 1 + 1; omega) _).setCell (p := ⟨w.heap.size + 1 + 1, 1, none⟩) (by show w.heap.size ≤ w.heap.size + 1 + 1; omega) _).setCell (p := ⟨w.heap.size + 1 + 1, 2, none⟩) (by show w.heap.size ≤ w.heap.size + 1 + 1; omega) _
set_option maxRecDepth 1000000 in
set_option maxHeartbeats 8000000 in
theorem rbin_div (x y : Vt) (hx : WV x.1 x.2.1 x.2.2) (hy : WV y.1 y.2.1 y.2.2) (w : World) :
    Calls Tryd.prog 13 #[.string ⟨#[47]⟩, valV x, valV y] w fun e w' => e = .returned (.tuple #[valV (calcN (some .div) x y).1, .int .i64 (calcN (some .div) x y).2]) ∧ Below w.heap.size w w' := by
  have N1 := Veil.mk (rnumber_any x hx)
  have N2 := Veil.mk (rnumber_any y hy)
  have M1 := Veil.mk (number_num hx)
  have M2 := Veil.mk (number_num hy)
  obtain ⟨W0, hW⟩ : ∃ v, v = tri w x y := ⟨_, rfl⟩
  have hB : Below w.heap.size w W0 := hW ▸ tri_below w x y
  have b1 := tri_x w x y
  have b2' := tri_y w x y
  have b3 := tri_r w x y
  rw [← hW] at b1 b2' b3
  have hw0 := hW.symm
  unfold tri two at hw0
  clear hW
  unfold calcN
  clear hx hy
  obtain ⟨nx, hnx⟩ : ∃ p, p = numberT x := ⟨_, rfl⟩
  obtain ⟨ny, hny⟩ : ∃ p, p = numberT y := ⟨_, rfl⟩
  rw [← hnx] at N1 M1 ⊢
  rw [← hny] at N2 M2 ⊢
  clear hnx hny
  obtain ⟨⟨nk, nn, ns⟩, st⟩ := nx
  obtain ⟨⟨mk, mn, ms⟩, tt⟩ := ny
  obtain ⟨xk, xn, xs⟩ := x
  obtain ⟨yk, yn, ys⟩ := y
  simp only at N1 N2 M1 M2 b1 b2' b3 hw0 ⊢
  have HW := Lib.hid hw0
  clear hw0
  have p0 : W0.cell? ⟨w.heap.size, 0, none⟩ = some (.int .i64 xk) := b1.at_ 0
  have p1 : W0.cell? ⟨w.heap.size, 1, none⟩ = some (.int .i64 xn) := b1.at_ 1
  have p2 : W0.cell? ⟨w.heap.size, 2, none⟩ = some (.string xs) := b1.at_ 2
  have q0 : W0.cell? ⟨w.heap.size + 1, 0, none⟩ = some (.int .i64 yk) := b2'.at_ 0
  have q1 : W0.cell? ⟨w.heap.size + 1, 1, none⟩ = some (.int .i64 yn) := b2'.at_ 1
  have q2 : W0.cell? ⟨w.heap.size + 1, 2, none⟩ = some (.string ys) := b2'.at_ 2
  have B2 := Veil.mk b2'
  have B3 := Veil.mk b3
  clear b1 b2' b3
  by_cases h0 : st = 0
  case neg =>
    have h0b : (st != 0) = true := by simpa using h0
    have h0c : (st == 0) = false := by simpa using h0
    rw [if_neg h0]
    clear h0 M1 M2 N2
    skip
    go_enter Tryd.func13, Tryd.ntmps13
    go_upto_region 1 with (fail)
    rw [HW.out]
    go_upto_region 17 with (fail)
    go_cut [13, 14] (fun sa sb wx => ∃ g : Nat, sa = .pointer (some ⟨g, 0, none⟩) ∧ sb = .int .i64 st ∧ Box wx g 27 #[.int .i64 nk, .int .i64 nn, .string ns] ∧ Below W0.heap.size W0 wx)
    case first =>
      go_wp2_with (first | (go_at_call 22; ((with_reducible refine (N1.out _).mono ?_); rintro e w2 ⟨rfl, hb2⟩)))
      go_meet
      exact ⟨w2.heap.size, rfl, rfl, Box.new _ _ _, hb2.alloc hb2.size _⟩
    case rest =>
    obtain ⟨g13, rfl, rfl, bq13, hb13⟩ := hcut
    obtain ⟨w3, hw13⟩ : ∃ v, v = wc := ⟨_, rfl⟩
    rw [← hw13] at hb13 bq13 ⊢
    clear hw13
    replace B2 := Veil.mk (B2.out.on hb13 B2.out.lt)
    replace B3 := Veil.mk (B3.out.on hb13 B3.out.lt)
    have HB13 := Veil.mk (hB.trans (hb13.mono hB.size))
    have Q13 := Veil.mk bq13
    clear bq13 hb13
    have z0 : w3.cell? ⟨w.heap.size + 1 + 1, 0, none⟩ = some (.int .i64 0) := B3.out.at_ 0
    have z1 : w3.cell? ⟨w.heap.size + 1 + 1, 1, none⟩ = some (.int .i64 0) := B3.out.at_ 1
    have z2 : w3.cell? ⟨w.heap.size + 1 + 1, 2, none⟩ = some (.string ⟨#[]⟩) := B3.out.at_ 2
    have f0 := B3.out.free 0
    have f1 := B3.out.free 1
    have f2 := B3.out.free 2
    go_wp2
    refine bodyPost_ret (v := .tuple #[W.V 0 0 W.e0, .int .i64 st]) (by simp [results, Tryd.results13, go_sem, z0, z1, z2]) rfl ⟨rfl, ?_⟩
    exact (((HB13.out).setCell (p := ⟨w.heap.size + 1 + 1, 0, none⟩) (by show w.heap.size ≤ w.heap.size + 1 + 1; omega) _).setCell (p := ⟨w.heap.size + 1 + 1, 1, none⟩) (by show w.heap.size ≤ w.heap.size + 1 + 1; omega) _).setCell (p := ⟨w.heap.size + 1 + 1, 2, none⟩) (by show w.heap.size ≤ w.heap.size + 1 + 1; omega) _
  subst h0
  rw [if_pos rfl]
  obtain ⟨hn1, rfl⟩ := M1.out rfl
  clear M1
  by_cases h0 : tt = 0
  case neg =>
    have h0b : (tt != 0) = true := by simpa using h0
    have h0c : (tt == 0) = false := by simpa using h0
    rw [if_neg h0]
    clear h0 M2
    skip
    go_enter Tryd.func13, Tryd.ntmps13
    go_upto_region 1 with (fail)
    rw [HW.out]
    go_upto_region 17 with (fail)
    go_cut [13, 14] (fun sa sb wx => ∃ g : Nat, sa = .pointer (some ⟨g, 0, none⟩) ∧ sb = .int .i64 0 ∧ Box wx g 27 #[.int .i64 nk, .int .i64 nn, .string W.e0] ∧ Below W0.heap.size W0 wx)
    case first =>
      go_wp2_with (first | (go_at_call 22; ((with_reducible refine (N1.out _).mono ?_); rintro e w2 ⟨rfl, hb2⟩)))
      go_meet
      exact ⟨w2.heap.size, rfl, rfl, Box.new _ _ _, hb2.alloc hb2.size _⟩
    case rest =>
    obtain ⟨g13, rfl, rfl, bq13, hb13⟩ := hcut
    obtain ⟨w3, hw13⟩ : ∃ v, v = wc := ⟨_, rfl⟩
    rw [← hw13] at hb13 bq13 ⊢
    clear hw13
    replace B2 := Veil.mk (B2.out.on hb13 B2.out.lt)
    replace B3 := Veil.mk (B3.out.on hb13 B3.out.lt)
    have HB13 := Veil.mk (hB.trans (hb13.mono hB.size))
    have Q13 := Veil.mk bq13
    clear bq13 hb13
    have q0 : w3.cell? ⟨w.heap.size + 1, 0, none⟩ = some (.int .i64 yk) := B2.out.at_ 0
    have q1 : w3.cell? ⟨w.heap.size + 1, 1, none⟩ = some (.int .i64 yn) := B2.out.at_ 1
    have q2 : w3.cell? ⟨w.heap.size + 1, 2, none⟩ = some (.string ys) := B2.out.at_ 2
    go_upto_region 20 with (fail)
    go_cut [15, 14] (fun sa sb wx => ∃ g : Nat, sa = .pointer (some ⟨g, 0, none⟩) ∧ sb = .int .i64 tt ∧ Box wx g 27 #[.int .i64 mk, .int .i64 mn, .string ms] ∧ Below w3.heap.size w3 wx)
    case first =>
      go_wp2_with (first | (go_at_call 22; ((with_reducible refine (N2.out _).mono ?_); rintro e w2 ⟨rfl, hb2⟩)))
      go_meet
      exact ⟨w2.heap.size, rfl, rfl, Box.new _ _ _, hb2.alloc hb2.size _⟩
    case rest =>
    obtain ⟨g15, rfl, rfl, bq15, hb15⟩ := hcut
    obtain ⟨w4, hw15⟩ : ∃ v, v = wc := ⟨_, rfl⟩
    rw [← hw15] at hb15 bq15 ⊢
    clear hw15
    replace B3 := Veil.mk (B3.out.on hb15 B3.out.lt)
    have HB15 := Veil.mk (HB13.out.trans (hb15.mono HB13.out.size))
    have Q15 := Veil.mk bq15
    clear bq15 hb15
    have z0 : w4.cell? ⟨w.heap.size + 1 + 1, 0, none⟩ = some (.int .i64 0) := B3.out.at_ 0
    have z1 : w4.cell? ⟨w.heap.size + 1 + 1, 1, none⟩ = some (.int .i64 0) := B3.out.at_ 1
    have z2 : w4.cell? ⟨w.heap.size + 1 + 1, 2, none⟩ = some (.string ⟨#[]⟩) := B3.out.at_ 2
    have f0 := B3.out.free 0
    have f1 := B3.out.free 1
    have f2 := B3.out.free 2
    go_wp2
    refine bodyPost_ret (v := .tuple #[W.V 0 0 W.e0, .int .i64 tt]) (by simp [results, Tryd.results13, go_sem, z0, z1, z2]) rfl ⟨rfl, ?_⟩
    exact (((HB15.out).setCell (p := ⟨w.heap.size + 1 + 1, 0, none⟩) (by show w.heap.size ≤ w.heap.size + 1 + 1; omega) _).setCell (p := ⟨w.heap.size + 1 + 1, 1, none⟩) (by show w.heap.size ≤ w.heap.size + 1 + 1; omega) _).setCell (p := ⟨w.heap.size + 1 + 1, 2, none⟩) (by show w.heap.size ≤ w.heap.size + 1 + 1; omega) _
  subst h0
  rw [if_pos rfl]
  obtain ⟨hn2, rfl⟩ := M2.out rfl
  clear M2
  have O1 : Veil (∀ wx, Calls Tryd.prog 43 #[W.V nk nn W.e0] wx fun e w' => e = .returned (M.nvN nk nn) ∧ Below wx.heap.size wx w') := ⟨fun wx => M.of_any hn1 wx⟩
  have O2 : Veil (∀ wx, Calls Tryd.prog 43 #[W.V mk mn W.e0] wx fun e w' => e = .returned (M.nvN mk mn) ∧ Below wx.heap.size wx w') := ⟨fun wx => M.of_any hn2 wx⟩
  have C1 : Veil (∀ wx, Calls Tryd.prog 44 #[.string ⟨#[47]⟩, M.nvN nk nn, M.nvN mk mn] wx fun e w' => e = .returned (.tuple #[valV (reckT (some .div) nk nn mk mn).1, .int .i64 (reckT (some .div) nk nn mk mn).2]) ∧ Below wx.heap.size wx w') := ⟨fun wx => reckon_any (some .div) nk nn mk mn hn1 hn2 wx⟩
  obtain ⟨q, hq⟩ : ∃ q, q = reckT (some .div) nk nn mk mn := ⟨_, rfl⟩
  rw [← hq] at C1 ⊢
  clear hq
  obtain ⟨⟨qk, qn, qs⟩, qt⟩ := q
  simp only at C1
  unfold M.nvN at O1 O2 C1
  obtain ⟨ra, h1⟩ : ∃ v, v = M.rK nk := ⟨_, rfl⟩
  obtain ⟨rm, h2⟩ : ∃ v, v = M.negB nk nn := ⟨_, rfl⟩
  obtain ⟨rs, h3⟩ : ∃ v, v = M.rS nk nn := ⟨_, rfl⟩
  obtain ⟨sa, h4⟩ : ∃ v, v = M.rK mk := ⟨_, rfl⟩
  obtain ⟨sm, h5⟩ : ∃ v, v = M.negB mk mn := ⟨_, rfl⟩
  obtain ⟨ss, h6⟩ : ∃ v, v = M.rS mk mn := ⟨_, rfl⟩
  rw [← h1, ← h2, ← h3] at O1 C1
  rw [← h4, ← h5, ← h6] at O2 C1
  clear h1 h2 h3 h4 h5 h6 hn1 hn2
  ·
    go_enter Tryd.func13, Tryd.ntmps13
    go_upto_region 1 with (fail)
    rw [HW.out]
    go_upto_region 17 with (fail)
    go_cut [13, 14] (fun sa sb wx => ∃ g : Nat, sa = .pointer (some ⟨g, 0, none⟩) ∧ sb = .int .i64 0 ∧ Box wx g 27 #[.int .i64 nk, .int .i64 nn, .string W.e0] ∧ Below W0.heap.size W0 wx)
    case first =>
      go_wp2_with (first | (go_at_call 22; ((with_reducible refine (N1.out _).mono ?_); rintro e w2 ⟨rfl, hb2⟩)))
      go_meet
      exact ⟨w2.heap.size, rfl, rfl, Box.new _ _ _, hb2.alloc hb2.size _⟩
    case rest =>
    obtain ⟨g13, rfl, rfl, bq13, hb13⟩ := hcut
    obtain ⟨w3, hw13⟩ : ∃ v, v = wc := ⟨_, rfl⟩
    rw [← hw13] at hb13 bq13 ⊢
    clear hw13
    replace B2 := Veil.mk (B2.out.on hb13 B2.out.lt)
    replace B3 := Veil.mk (B3.out.on hb13 B3.out.lt)
    have HB13 := Veil.mk (hB.trans (hb13.mono hB.size))
    have Q13 := Veil.mk bq13
    clear bq13 hb13
    have q0 : w3.cell? ⟨w.heap.size + 1, 0, none⟩ = some (.int .i64 yk) := B2.out.at_ 0
    have q1 : w3.cell? ⟨w.heap.size + 1, 1, none⟩ = some (.int .i64 yn) := B2.out.at_ 1
    have q2 : w3.cell? ⟨w.heap.size + 1, 2, none⟩ = some (.string ys) := B2.out.at_ 2
    go_upto_region 20 with (fail)
    go_cut [15, 14] (fun sa sb wx => ∃ g : Nat, sa = .pointer (some ⟨g, 0, none⟩) ∧ sb = .int .i64 0 ∧ Box wx g 27 #[.int .i64 mk, .int .i64 mn, .string W.e0] ∧ Below w3.heap.size w3 wx)
    case first =>
      go_wp2_with (first | (go_at_call 22; ((with_reducible refine (N2.out _).mono ?_); rintro e w2 ⟨rfl, hb2⟩)))
      go_meet
      exact ⟨w2.heap.size, rfl, rfl, Box.new _ _ _, hb2.alloc hb2.size _⟩
    case rest =>
    obtain ⟨g15, rfl, rfl, bq15, hb15⟩ := hcut
    obtain ⟨w4, hw15⟩ : ∃ v, v = wc := ⟨_, rfl⟩
    rw [← hw15] at hb15 bq15 ⊢
    clear hw15
    replace B3 := Veil.mk (B3.out.on hb15 B3.out.lt)
    replace Q13 := Veil.mk (Q13.out.on hb15 Q13.out.lt)
    have HB15 := Veil.mk (HB13.out.trans (hb15.mono HB13.out.size))
    have Q15 := Veil.mk bq15
    clear bq15 hb15
    clear q0 q1 q2 p0 p1 p2 N1 N2 B2
    go_upto_region 23 with (fail)
    refine Q.wp_region_pair 73 #[.int .u8 0, .bool false, .int .i64 0] #[.int .u8 ra, .bool rm, .int .i64 rs] #[.int .u8 sa, .bool sm, .int .i64 ss] (W.V nk nn W.e0) (W.V mk mn W.e0) (M.nv ra rm rs) (M.nv sa sm ss) 122 123 124 125 16 17 (by kernel_rfl) rfl ⟨_, _, _, _, _, _, rfl⟩ ?_ (by kernel_rfl) ?_
    · refine Steps.cons rfl (fun bb aa w' hbs hb0 hbp hI K hK => ?_) ?_
      · obtain ⟨u0, u1, u2, u3, u4, u5, rfl, hI⟩ := hI
        have e0 := Q13.out.on hI.1 Q13.out.lt; have e1 := Q15.out.on hI.1 Q15.out.lt; have c0 : w'.cell? ⟨g13, 0, none⟩ = some (.int .i64 nk) := e0.at_ 0; have c1 : w'.cell? ⟨g13, 1, none⟩ = some (.int .i64 nn) := e0.at_ 1; have c2 : w'.cell? ⟨g13, 2, none⟩ = some (.string W.e0) := e0.at_ 2; have d0 : w'.cell? ⟨g15, 0, none⟩ = some (.int .i64 mk) := e1.at_ 0; have d1 : w'.cell? ⟨g15, 1, none⟩ = some (.int .i64 mn) := e1.at_ 1; have d2 : w'.cell? ⟨g15, 2, none⟩ = some (.string W.e0) := e1.at_ 2
        simp only [put6, List.setIfInBounds_toArray, List.set_cons_zero, List.set_cons_succ]
        go_simp
        exact hK _ _ (Q.PInv.mk (Q.PW.load0 hI hbs) (by simp only [put6, List.setIfInBounds_toArray, List.set_cons_zero, List.set_cons_succ]))
      refine Steps.cons rfl (fun bb aa w' hbs hb0 hbp hI K hK => ?_) ?_
      · obtain ⟨u0, u1, u2, u3, u4, u5, rfl, hI⟩ := hI
        have hq := after_of 0 (by kernel_rfl) hbp
        have hu : u0 = (W.V nk nn W.e0) := hI.2.1 hq
        subst hu
        have HI := Veil.mk hI
        clear hI
        simp only [put6, List.setIfInBounds_toArray, List.set_cons_zero, List.set_cons_succ]
        go_simp
        refine (O1.out w').mono ?_
        rintro e w2 ⟨rfl, hb2⟩
        go_simp
        exact hK _ _ (Q.PInv.mk (Q.PW.call1 HI.out hbs hb0 hb2) (by simp only [put6, List.setIfInBounds_toArray, List.set_cons_zero, List.set_cons_succ]))
      refine Steps.cons rfl (fun bb aa w' hbs hb0 hbp hI K hK => ?_) ?_
      · obtain ⟨u0, u1, u2, u3, u4, u5, rfl, hI⟩ := hI
        have e0 := Q13.out.on hI.1 Q13.out.lt; have e1 := Q15.out.on hI.1 Q15.out.lt; have c0 : w'.cell? ⟨g13, 0, none⟩ = some (.int .i64 nk) := e0.at_ 0; have c1 : w'.cell? ⟨g13, 1, none⟩ = some (.int .i64 nn) := e0.at_ 1; have c2 : w'.cell? ⟨g13, 2, none⟩ = some (.string W.e0) := e0.at_ 2; have d0 : w'.cell? ⟨g15, 0, none⟩ = some (.int .i64 mk) := e1.at_ 0; have d1 : w'.cell? ⟨g15, 1, none⟩ = some (.int .i64 mn) := e1.at_ 1; have d2 : w'.cell? ⟨g15, 2, none⟩ = some (.string W.e0) := e1.at_ 2
        simp only [put6, List.setIfInBounds_toArray, List.set_cons_zero, List.set_cons_succ]
        go_simp
        exact hK _ _ (Q.PInv.mk (Q.PW.load2 hI hbs) (by simp only [put6, List.setIfInBounds_toArray, List.set_cons_zero, List.set_cons_succ]))
      refine Steps.cons rfl (fun bb aa w' hbs hb0 hbp hI K hK => ?_) ?_
      · obtain ⟨u0, u1, u2, u3, u4, u5, rfl, hI⟩ := hI
        have hq := after_of 2 (by kernel_rfl) hbp
        have hu : u2 = (W.V mk mn W.e0) := hI.2.2.1 hq
        subst hu
        have HI := Veil.mk hI
        clear hI
        simp only [put6, List.setIfInBounds_toArray, List.set_cons_zero, List.set_cons_succ]
        go_simp
        refine (O2.out w').mono ?_
        rintro e w2 ⟨rfl, hb2⟩
        go_simp
        exact hK _ _ (Q.PInv.mk (Q.PW.call3 HI.out hbs hb0 hb2) (by simp only [put6, List.setIfInBounds_toArray, List.set_cons_zero, List.set_cons_succ]))
      refine Steps.cons rfl (fun bb aa w' hbs hb0 hbp hI K hK => ?_) ?_
      · obtain ⟨u0, u1, u2, u3, u4, u5, rfl, hI⟩ := hI
        have HI := Veil.mk hI
        clear hI
        simp only [put6, List.setIfInBounds_toArray, List.set_cons_zero, List.set_cons_succ]
        go_simp
        exact hK _ _ (Q.PInv.mk (Q.PW.alloc4 HI.out hbs hb0) (by simp only [put6, List.setIfInBounds_toArray, List.set_cons_zero, List.set_cons_succ]))
      refine Steps.cons rfl (fun bb aa w' hbs hb0 hbp hI K hK => ?_) ?_
      · obtain ⟨u0, u1, u2, u3, u4, u5, rfl, hI⟩ := hI
        have HI := Veil.mk hI
        clear hI
        simp only [put6, List.setIfInBounds_toArray, List.set_cons_zero, List.set_cons_succ]
        go_simp
        exact hK _ _ (Q.PInv.mk (Q.PW.alloc5 HI.out hbs hb0) (by simp only [put6, List.setIfInBounds_toArray, List.set_cons_zero, List.set_cons_succ]))
      refine Steps.cons rfl (fun bb aa w' hbs hb0 hbp hI K hK => ?_) ?_
      · obtain ⟨u0, u1, u2, u3, u4, u5, rfl, hI⟩ := hI
        have q1 := after_of 1 (by kernel_rfl) hbp
        have q2 := after_of 4 (by kernel_rfl) hbp
        have hq := Q.PW.at4 hI hbs hb0 q1 q2
        clear hI q1 q2 hbp
        simp only [put6, List.setIfInBounds_toArray, List.set_cons_zero, List.set_cons_succ]
        obtain ⟨g, e1, e2, hx, hJ⟩ := hq
        subst e1
        subst e2
        have x0 : w'.cell? ⟨g, 0, none⟩ = some (.int .u8 0) := hx.at_ 0
        have x1 : w'.cell? ⟨g, 1, none⟩ = some (.bool false) := hx.at_ 1
        have x2 : w'.cell? ⟨g, 2, none⟩ = some (.int .i64 0) := hx.at_ 2
        have f0 := hx.free 0
        have f1 := hx.free 1
        have f2 := hx.free 2
        have HJ := Veil.mk hJ
        clear hJ hx
        go_simp
        exact hK _ _ (Q.PInv.mk HJ.out (by simp only [put6, List.setIfInBounds_toArray, List.set_cons_zero, List.set_cons_succ]))
      refine Steps.cons rfl (fun bb aa w' hbs hb0 hbp hI K hK => ?_) ?_
      · obtain ⟨u0, u1, u2, u3, u4, u5, rfl, hI⟩ := hI
        have q1 := after_of 3 (by kernel_rfl) hbp
        have q2 := after_of 5 (by kernel_rfl) hbp
        have hq := Q.PW.at5 hI hbs hb0 q1 q2
        clear hI q1 q2 hbp
        simp only [put6, List.setIfInBounds_toArray, List.set_cons_zero, List.set_cons_succ]
        obtain ⟨g, e1, e2, hx, hJ⟩ := hq
        subst e1
        subst e2
        have x0 : w'.cell? ⟨g, 0, none⟩ = some (.int .u8 0) := hx.at_ 0
        have x1 : w'.cell? ⟨g, 1, none⟩ = some (.bool false) := hx.at_ 1
        have x2 : w'.cell? ⟨g, 2, none⟩ = some (.int .i64 0) := hx.at_ 2
        have f0 := hx.free 0
        have f1 := hx.free 1
        have f2 := hx.free 2
        have HJ := Veil.mk hJ
        clear hJ hx
        go_simp
        exact hK _ _ (Q.PInv.mk HJ.out (by simp only [put6, List.setIfInBounds_toArray, List.set_cons_zero, List.set_cons_succ]))
      exact Steps.nil
    intro g1 g2 w5 hne bx by_ hb5 k1 k2
    simp only [put6, List.setIfInBounds_toArray, List.set_cons_zero, List.set_cons_succ]
    have HB5 := Veil.mk (HB15.out.trans (hb5.mono HB15.out.size))
    replace B3 := Veil.mk (B3.out.on hb5 B3.out.lt)
    have p0 : w5.cell? ⟨g1, 0, none⟩ = some (.int .u8 ra) := bx.at_ 0
    have p1 : w5.cell? ⟨g1, 1, none⟩ = some (.bool rm) := bx.at_ 1
    have p2 : w5.cell? ⟨g1, 2, none⟩ = some (.int .i64 rs) := bx.at_ 2
    have q0 : w5.cell? ⟨g2, 0, none⟩ = some (.int .u8 sa) := by_.at_ 0
    have q1 : w5.cell? ⟨g2, 1, none⟩ = some (.bool sm) := by_.at_ 1
    have q2 : w5.cell? ⟨g2, 2, none⟩ = some (.int .i64 ss) := by_.at_ 2
    clear bx by_ hb5 k1 k2 O1 O2 HB15 HB13 Q13 Q15 hne
    go_wp2_with (first | (go_at_call 44; ((with_reducible refine (C1.out _).mono ?_); rintro e w6 ⟨rfl, hb6⟩; have z0 : w6.cell? ⟨w.heap.size + 1 + 1, 0, none⟩ = some (.int .i64 0) := (B3.out.on hb6 B3.out.lt).at_ 0; have z1 : w6.cell? ⟨w.heap.size + 1 + 1, 1, none⟩ = some (.int .i64 0) := (B3.out.on hb6 B3.out.lt).at_ 1; have z2 : w6.cell? ⟨w.heap.size + 1 + 1, 2, none⟩ = some (.string ⟨#[]⟩) := (B3.out.on hb6 B3.out.lt).at_ 2; have f0 := (B3.out.on hb6 B3.out.lt).free 0; have f1 := (B3.out.on hb6 B3.out.lt).free 1; have f2 := (B3.out.on hb6 B3.out.lt).free 2)))
    refine bodyPost_ret (v := .tuple #[W.V qk qn qs, .int .i64 qt]) (by simp [results, Tryd.results13, go_sem, z0, z1, z2]) rfl ⟨rfl, ?_⟩
    exact (((HB5.out.trans (hb6.mono HB5.out.size)).setCell (p := ⟨w.heap.size + 1 + 1, 0, none⟩) (by show w.heap.size ≤ w.heap.size + 1 + 1; omega) _).setCell (p := ⟨w.heap.size + 1 + 1, 1, none⟩) (by show w.heap.size ≤ w.heap.size + 1 + 1; omega) _).setCell (p := ⟨w.heap.size + 1 + 1, 2, none⟩) (by show w.heap.size ≤ w.heap.size + 1 + 1; omega) _
end Go.Proofs.YtbkgophgclpijaaDoor
namespace Go.Proofs.YtbkgophgclpijaaDoor
open Go Go.RowKit

set_option maxRecDepth 1000000 in
set_option maxHeartbeats 8000000 in
theorem rbin_rem (x y : Vt) (hx : WV x.1 x.2.1 x.2.2) (hy : WV y.1 y.2.1 y.2.2) (w : World) :
    Calls Tryd.prog 13 #[.string ⟨#[37]⟩, valV x, valV y] w fun e w' => e = .returned (.tuple #[valV (calcN (some .rem) x y).1, .int .i64 (calcN (some .rem) x y).2]) ∧ Below w.heap.size w w' := by
  have N1 := Veil.mk (rnumber_any x hx)
  have N2 := Veil.mk (rnumber_any y hy)
  have M1 := Veil.mk (number_num hx)
  have M2 := Veil.mk (number_num hy)
  obtain ⟨W0, hW⟩ : ∃ v, v = tri w x y := ⟨_, rfl⟩
  have hB : Below w.heap.size w W0 := hW ▸ tri_below w x y
  have b1 := tri_x w x y
  have b2' := tri_y w x y
  have b3 := tri_r w x y
  rw [← hW] at b1 b2' b3
  have hw0 := hW.symm
  unfold tri two at hw0
  clear hW
  unfold calcN
  clear hx hy
  obtain ⟨nx, hnx⟩ : ∃ p, p = numberT x := ⟨_, rfl⟩
  obtain ⟨ny, hny⟩ : ∃ p, p = numberT y := ⟨_, rfl⟩
  rw [← hnx] at N1 M1 ⊢
  rw [← hny] at N2 M2 ⊢
  clear hnx hny
  obtain ⟨⟨nk, nn, ns⟩, st⟩ := nx
  obtain ⟨⟨mk, mn, ms⟩, tt⟩ := ny
  obtain ⟨xk, xn, xs⟩ := x
  obtain ⟨yk, yn, ys⟩ := y
  simp only at N1 N2 M1 M2 b1 b2' b3 hw0 ⊢
  have HW := Lib.hid hw0
  clear hw0
  have p0 : W0.cell? ⟨w.heap.size, 0, none⟩ = some (.int .i64 xk) := b1.at_ 0
  have p1 : W0.cell? ⟨w.heap.size, 1, none⟩ = some (.int .i64 xn) := b1.at_ 1
  have p2 : W0.cell? ⟨w.heap.size, 2, none⟩ = some (.string xs) := b1.at_ 2
  have q0 : W0.cell? ⟨w.heap.size + 1, 0, none⟩ = some (.int .i64 yk) := b2'.at_ 0
  have q1 : W0.cell? ⟨w.heap.size + 1, 1, none⟩ = some (.int .i64 yn) := b2'.at_ 1
  have q2 : W0.cell? ⟨w.heap.size + 1, 2, none⟩ = some (.string ys) := b2'.at_ 2
  have B2 := Veil.mk b2'
  have B3 := Veil.mk b3
  clear b1 b2' b3
  by_cases h0 : st = 0
  case neg =>
    have h0b : (st != 0) = true := by simpa using h0
    have h0c : (st == 0) = false := by simpa using h0
    rw [if_neg h0]
    clear h0 M1 M2 N2
    skip
    go_enter Tryd.func13, Tryd.ntmps13
    go_upto_region 1 with (fail)
    rw [HW.out]
    go_upto_region 17 with (fail)
    go_cut [13, 14] (fun sa sb wx => ∃ g : Nat, sa = .pointer (some ⟨g, 0, none⟩) ∧ sb = .int .i64 st ∧ Box wx g 27 #[.int .i64 nk, .int .i64 nn, .string ns] ∧ Below W0.heap.size W0 wx)
    case first =>
      go_wp2_with (first | (go_at_call 22; ((with_reducible refine (N1.out _).mono ?_); rintro e w2 ⟨rfl, hb2⟩)))
      go_meet
      exact ⟨w2.heap.size, rfl, rfl, Box.new _ _ _, hb2.alloc hb2.size _⟩
    case rest =>
    obtain ⟨g13, rfl, rfl, bq13, hb13⟩ := hcut
    obtain ⟨w3, hw13⟩ : ∃ v, v = wc := ⟨_, rfl⟩
    rw [← hw13] at hb13 bq13 ⊢
    clear hw13
    replace B2 := Veil.mk (B2.out.on hb13 B2.out.lt)
    replace B3 := Veil.mk (B3.out.on hb13 B3.out.lt)
    have HB13 := Veil.mk (hB.trans (hb13.mono hB.size))
    have Q13 := Veil.mk bq13
    clear bq13 hb13
    have z0 : w3.cell? ⟨w.heap.size + 1 + 1, 0, none⟩ = some (.int .i64 0) := B3.out.at_ 0
    have z1 : w3.cell? ⟨w.heap.size + 1 + 1, 1, none⟩ = some (.int .i64 0) := B3.out.at_ 1
    have z2 : w3.cell? ⟨w.heap.size + 1 + 1, 2, none⟩ = some (.string ⟨#[]⟩) := B3.out.at_ 2
    have f0 := B3.out.free 0
    have f1 := B3.out.free 1
    have f2 := B3.out.free 2
    go_wp2
    refine bodyPost_ret (v := .tuple #[W.V 0 0 W.e0, .int .i64 st]) (by simp [results, Tryd.results13, go_sem, z0, z1, z2]) rfl ⟨rfl, ?_⟩
    exact (((HB13.out).setCell (p := ⟨w.heap.size + 1 + 1, 0, none⟩) (by show w.heap.size ≤ w.heap.size + 1 + 1; omega) _).setCell (p := ⟨w.heap.size + 1 + 1, 1, none⟩) (by show w.heap.size ≤ w.heap.size + 1 + 1; omega) _).setCell (p := ⟨w.heap.size + 1 + 1, 2, none⟩) (by show w.heap.size ≤ w.heap.size + 1 + 1; omega) _
  subst h0
  rw [if_pos rfl]
  obtain ⟨hn1, rfl⟩ := M1.out rfl
  clear M1
  by_cases h0 : tt = 0
  case neg =>
    have h0b : (tt != 0) = true := by simpa using h0
    have h0c : (tt == 0) = false := by simpa using h0
    rw [if_neg h0]
    clear h0 M2
    skip
    go_enter Tryd.func13, Tryd.ntmps13
    go_upto_region 1 with (fail)
    rw [HW.out]
    go_upto_region 17 with (fail)
    go_cut [13, 14] (fun sa sb wx => ∃ g : Nat, sa = .pointer (some ⟨g, 0, none⟩) ∧ sb = .int .i64 0 ∧ Box wx g 27 #[.int .i64 nk, .int .i64 nn, .string W.e0] ∧ Below W0.heap.size W0 wx)
    case first =>
      go_wp2_with (first | (go_at_call 22; ((with_reducible refine (N1.out _).mono ?_); rintro e w2 ⟨rfl, hb2⟩)))
      go_meet
      exact ⟨w2.heap.size, rfl, rfl, Box.new _ _ _, hb2.alloc hb2.size _⟩
    case rest =>
    obtain ⟨g13, rfl, rfl, bq13, hb13⟩ := hcut
    obtain ⟨w3, hw13⟩ : ∃ v, v = wc := ⟨_, rfl⟩
    rw [← hw13] at hb13 bq13 ⊢
    clear hw13
    replace B2 := Veil.mk (B2.out.on hb13 B2.out.lt)
    replace B3 := Veil.mk (B3.out.on hb13 B3.out.lt)
    have HB13 := Veil.mk (hB.trans (hb13.mono hB.size))
    have Q13 := Veil.mk bq13
    clear bq13 hb13
    have q0 : w3.cell? ⟨w.heap.size + 1, 0, none⟩ = some (.int .i64 yk) := B2.out.at_ 0
    have q1 : w3.cell? ⟨w.heap.size + 1, 1, none⟩ = some (.int .i64 yn) := B2.out.at_ 1
    have q2 : w3.cell? ⟨w.heap.size + 1, 2, none⟩ = some (.string ys) := B2.out.at_ 2
    go_upto_region 20 with (fail)
    go_cut [15, 14] (fun sa sb wx => ∃ g : Nat, sa = .pointer (some ⟨g, 0, none⟩) ∧ sb = .int .i64 tt ∧ Box wx g 27 #[.int .i64 mk, .int .i64 mn, .string ms] ∧ Below w3.heap.size w3 wx)
    case first =>
      go_wp2_with (first | (go_at_call 22; ((with_reducible refine (N2.out _).mono ?_); rintro e w2 ⟨rfl, hb2⟩)))
      go_meet
      exact ⟨w2.heap.size, rfl, rfl, Box.new _ _ _, hb2.alloc hb2.size _⟩
    case rest =>
    obtain ⟨g15, rfl, rfl, bq15, hb15⟩ := hcut
    obtain ⟨w4, hw15⟩ : ∃ v, v = wc := ⟨_, rfl⟩
    rw [← hw15] at hb15 bq15 ⊢
    clear hw15
    replace B3 := Veil.mk (B3.out.on hb15 B3.out.lt)
    have HB15 := Veil.mk (HB13.out.trans (hb15.mono HB13.out.size))
    have Q15 := Veil.mk bq15
    clear bq15 hb15
    have z0 : w4.cell? ⟨w.heap.size + 1 + 1, 0, none⟩ = some (.int .i64 0) := B3.out.at_ 0
    have z1 : w4.cell? ⟨w.heap.size + 1 + 1, 1, none⟩ = some (.int .i64 0) := B3.out.at_ 1
    have z2 : w4.cell? ⟨w.heap.size + 1 + 1, 2, none⟩ = some (.string ⟨#[]⟩) := B3.out.at_ 2
    have f0 := B3.out.free 0
    have f1 := B3.out.free 1
    have f2 := B3.out.free 2
    go_wp2
    refine bodyPost_ret (v := .tuple #[W.V 0 0 W.e0, .int .i64 tt]) (by simp [results, Tryd.results13, go_sem, z0, z1, z2]) rfl ⟨rfl, ?_⟩
    exact (((HB15.out).setCell (p := ⟨w.heap.size + 1 + 1, 0, none⟩) (by show w.heap.size ≤ w.heap.size + 1 + 1; omega) _).setCell (p := ⟨w.heap.size + 1 + 1, 1, none⟩) (by show w.heap.size ≤ w.heap.size + 1 + 1; omega) _).setCell (p := ⟨w.heap.size + 1 + 1, 2, none⟩) (by show w.heap.size ≤ w.heap.size + 1 + 1; omega) _
  subst h0
  rw [if_pos rfl]
  obtain ⟨hn2, rfl⟩ := M2.out rfl
  clear M2
  have O1 : Veil (∀ wx, Calls Tryd.prog 43 #[W.V nk nn W.e0] wx fun e w' => e = .returned (M.nvN nk nn) ∧ Below wx.heap.size wx w') := ⟨fun wx => M.of_any hn1 wx⟩
  have O2 : Veil (∀ wx, Calls Tryd.prog 43 #[W.V mk mn W.e0] wx fun e w' => e = .returned (M.nvN mk mn) ∧ Below wx.heap.size wx w') := ⟨fun wx => M.of_any hn2 wx⟩
  have C1 : Veil (∀ wx, Calls Tryd.prog 44 #[.string ⟨#[37]⟩, M.nvN nk nn, M.nvN mk mn] wx fun e w' => e = .returned (.tuple #[valV (reckT (some .rem) nk nn mk mn).1, .int .i64 (reckT (some .rem) nk nn mk mn).2]) ∧ Below wx.heap.size wx w') := ⟨fun wx => reckon_any (some .rem) nk nn mk mn hn1 hn2 wx⟩
  obtain ⟨q, hq⟩ : ∃ q, q = reckT (some .rem) nk nn mk mn := ⟨_, rfl⟩
  rw [← hq] at C1 ⊢
  clear hq
  obtain ⟨⟨qk, qn, qs⟩, qt⟩ := q
  simp only at C1
  unfold M.nvN at O1 O2 C1
  obtain ⟨ra, h1⟩ : ∃ v, v = M.rK nk := ⟨_, rfl⟩
  obtain ⟨rm, h2⟩ : ∃ v, v = M.negB nk nn := ⟨_, rfl⟩
  obtain ⟨rs, h3⟩ : ∃ v, v = M.rS nk nn := ⟨_, rfl⟩
  obtain ⟨sa, h4⟩ : ∃ v, v = M.rK mk := ⟨_, rfl⟩
  obtain ⟨sm, h5⟩ : ∃ v, v = M.negB mk mn := ⟨_, rfl⟩
  obtain ⟨ss, h6⟩ : ∃ v, v = M.rS mk mn := ⟨_, rfl⟩
  rw [← h1, ← h2, ← h3] at O1 C1
  rw [← h4, ← h5, ← h6] at O2 C1
  clear h1 h2 h3 h4 h5 h6 hn1 hn2
  ·
    go_enter Tryd.func13, Tryd.ntmps13
    go_upto_region 1 with (fail)
    rw [HW.out]
    go_upto_region 17 with (fail)
    go_cut [13, 14] (fun sa sb wx => ∃ g : Nat, sa = .pointer (some ⟨g, 0, none⟩) ∧ sb = .int .i64 0 ∧ Box wx g 27 #[.int .i64 nk, .int .i64 nn, .string W.e0] ∧ Below W0.heap.size W0 wx)
    case first =>
      go_wp2_with (first | (go_at_call 22; ((with_reducible refine (N1.out _).mono ?_); rintro e w2 ⟨rfl, hb2⟩)))
      go_meet
      exact ⟨w2.heap.size, rfl, rfl, Box.new _ _ _, hb2.alloc hb2.size _⟩
    case rest =>
    obtain ⟨g13, rfl, rfl, bq13, hb13⟩ := hcut
    obtain ⟨w3, hw13⟩ : ∃ v, v = wc := ⟨_, rfl⟩
    rw [← hw13] at hb13 bq13 ⊢
    clear hw13
    replace B2 := Veil.mk (B2.out.on hb13 B2.out.lt)
    replace B3 := Veil.mk (B3.out.on hb13 B3.out.lt)
    have HB13 := Veil.mk (hB.trans (hb13.mono hB.size))
    have Q13 := Veil.mk bq13
    clear bq13 hb13
    have q0 : w3.cell? ⟨w.heap.size + 1, 0, none⟩ = some (.int .i64 yk) := B2.out.at_ 0
    have q1 : w3.cell? ⟨w.heap.size + 1, 1, none⟩ = some (.int .i64 yn) := B2.out.at_ 1
    have q2 : w3.cell? ⟨w.heap.size + 1, 2, none⟩ = some (.string ys) := B2.out.at_ 2
    go_upto_region 20 with (fail)
    go_cut [15, 14] (fun sa sb wx => ∃ g : Nat, sa = .pointer (some ⟨g, 0, none⟩) ∧ sb = .int .i64 0 ∧ Box wx g 27 #[.int .i64 mk, .int .i64 mn, .string W.e0] ∧ Below w3.heap.size w3 wx)
    case first =>
      go_wp2_with (first | (go_at_call 22; ((with_reducible refine (N2.out _).mono ?_); rintro e w2 ⟨rfl, hb2⟩)))
      go_meet
      exact ⟨w2.heap.size, rfl, rfl, Box.new _ _ _, hb2.alloc hb2.size _⟩
    case rest =>
    obtain ⟨g15, rfl, rfl, bq15, hb15⟩ := hcut
    obtain ⟨w4, hw15⟩ : ∃ v, v = wc := ⟨_, rfl⟩
    rw [← hw15] at hb15 bq15 ⊢
    clear hw15
    replace B3 := Veil.mk (B3.out.on hb15 B3.out.lt)
    replace Q13 := Veil.mk (Q13.out.on hb15 Q13.out.lt)
    have HB15 := Veil.mk (HB13.out.trans (hb15.mono HB13.out.size))
    have Q15 := Veil.mk bq15
    clear bq15 hb15
    clear q0 q1 q2 p0 p1 p2 N1 N2 B2
    go_upto_region 23 with (fail)
    refine Q.wp_region_pair 73 #[.int .u8 0, .bool false, .int .i64 0] #[.int .u8 ra, .bool rm, .int .i64 rs] #[.int .u8 sa, .bool sm, .int .i64 ss] (W.V nk nn W.e0) (W.V mk mn W.e0) (M.nv ra rm rs) (M.nv sa sm ss) 122 123 124 125 16 17 (by kernel_rfl) rfl ⟨_, _, _, _, _, _, rfl⟩ ?_ (by kernel_rfl) ?_
    · refine Steps.cons rfl (fun bb aa w' hbs hb0 hbp hI K hK => ?_) ?_
      · obtain ⟨u0, u1, u2, u3, u4, u5, rfl, hI⟩ := hI
        have e0 := Q13.out.on hI.1 Q13.out.lt; have e1 := Q15.out.on hI.1 Q15.out.lt; have c0 : w'.cell? ⟨g13, 0, none⟩ = some (.int .i64 nk) := e0.at_ 0; have c1 : w'.cell? ⟨g13, 1, none⟩ = some (.int .i64 nn) := e0.at_ 1; have c2 : w'.cell? ⟨g13, 2, none⟩ = some (.string W.e0) := e0.at_ 2; have d0 : w'.cell? ⟨g15, 0, none⟩ = some (.int .i64 mk) := e1.at_ 0; have d1 : w'.cell? ⟨g15, 1, none⟩ = some (.int .i64 mn) := e1.at_ 1; have d2 : w'.cell? ⟨g15, 2, none⟩ = some (.string W.e0) := e1.at_ 2
        simp only [put6, List.setIfInBounds_toArray, List.set_cons_zero, List.set_cons_succ]
        go_simp
        exact hK _ _ (Q.PInv.mk (Q.PW.load0 hI hbs) (by simp only [put6, List.setIfInBounds_toArray, List.set_cons_zero, List.set_cons_succ]))
      refine Steps.cons rfl (fun bb aa w' hbs hb0 hbp hI K hK => ?_) ?_
      · obtain ⟨u0, u1, u2, u3, u4, u5, rfl, hI⟩ := hI
        have hq := after_of 0 (by kernel_rfl) hbp
        have hu : u0 = (W.V nk nn W.e0) := hI.2.1 hq
        subst hu
        have HI := Veil.mk hI
        clear hI
        simp only [put6, List.setIfInBounds_toArray, List.set_cons_zero, List.set_cons_succ]
        go_simp
        refine (O1.out w').mono ?_
        rintro e w2 ⟨rfl, hb2⟩
        go_simp
        exact hK _ _ (Q.PInv.mk (Q.PW.call1 HI.out hbs hb0 hb2) (by simp only [put6, List.setIfInBounds_toArray, List.set_cons_zero, List.set_cons_succ]))
      refine Steps.cons rfl (fun bb aa w' hbs hb0 hbp hI K hK => ?_) ?_
      · obtain ⟨u0, u1, u2, u3, u4, u5, rfl, hI⟩ := hI
        have e0 := Q13.out.on hI.1 Q13.out.lt; have e1 := Q15.out.on hI.1 Q15.out.lt; have c0 : w'.cell? ⟨g13, 0, none⟩ = some (.int .i64 nk) := e0.at_ 0; have c1 : w'.cell? ⟨g13, 1, none⟩ = some (.int .i64 nn) := e0.at_ 1; have c2 : w'.cell? ⟨g13, 2, none⟩ = some (.string W.e0) := e0.at_ 2; have d0 : w'.cell? ⟨g15, 0, none⟩ = some (.int .i64 mk) := e1.at_ 0; have d1 : w'.cell? ⟨g15, 1, none⟩ = some (.int .i64 mn) := e1.at_ 1; have d2 : w'.cell? ⟨g15, 2, none⟩ = some (.string W.e0) := e1.at_ 2
        simp only [put6, List.setIfInBounds_toArray, List.set_cons_zero, List.set_cons_succ]
        go_simp
        exact hK _ _ (Q.PInv.mk (Q.PW.load2 hI hbs) (by simp only [put6, List.setIfInBounds_toArray, List.set_cons_zero, List.set_cons_succ]))
      refine Steps.cons rfl (fun bb aa w' hbs hb0 hbp hI K hK => ?_) ?_
      · obtain ⟨u0, u1, u2, u3, u4, u5, rfl, hI⟩ := hI
        have hq := after_of 2 (by kernel_rfl) hbp
        have hu : u2 = (W.V mk mn W.e0) := hI.2.2.1 hq
        subst hu
        have HI := Veil.mk hI
        clear hI
        simp only [put6, List.setIfInBounds_toArray, List.set_cons_zero, List.set_cons_succ]
        go_simp
        refine (O2.out w').mono ?_
        rintro e w2 ⟨rfl, hb2⟩
        go_simp
        exact hK _ _ (Q.PInv.mk (Q.PW.call3 HI.out hbs hb0 hb2) (by simp only [put6, List.setIfInBounds_toArray, List.set_cons_zero, List.set_cons_succ]))
      refine Steps.cons rfl (fun bb aa w' hbs hb0 hbp hI K hK => ?_) ?_
      · obtain ⟨u0, u1, u2, u3, u4, u5, rfl, hI⟩ := hI
        have HI := Veil.mk hI
        clear hI
        simp only [put6, List.setIfInBounds_toArray, List.set_cons_zero, List.set_cons_succ]
        go_simp
        exact hK _ _ (Q.PInv.mk (Q.PW.alloc4 HI.out hbs hb0) (by simp only [put6, List.setIfInBounds_toArray, List.set_cons_zero, List.set_cons_succ]))
      refine Steps.cons rfl (fun bb aa w' hbs hb0 hbp hI K hK => ?_) ?_
      · obtain ⟨u0, u1, u2, u3, u4, u5, rfl, hI⟩ := hI
        have HI := Veil.mk hI
        clear hI
        simp only [put6, List.setIfInBounds_toArray, List.set_cons_zero, List.set_cons_succ]
        go_simp
        exact hK _ _ (Q.PInv.mk (Q.PW.alloc5 HI.out hbs hb0) (by simp only [put6, List.setIfInBounds_toArray, List.set_cons_zero, List.set_cons_succ]))
      refine Steps.cons rfl (fun bb aa w' hbs hb0 hbp hI K hK => ?_) ?_
      · obtain ⟨u0, u1, u2, u3, u4, u5, rfl, hI⟩ := hI
        have q1 := after_of 1 (by kernel_rfl) hbp
        have q2 := after_of 4 (by kernel_rfl) hbp
        have hq := Q.PW.at4 hI hbs hb0 q1 q2
        clear hI q1 q2 hbp
        simp only [put6, List.setIfInBounds_toArray, List.set_cons_zero, List.set_cons_succ]
        obtain ⟨g, e1, e2, hx, hJ⟩ := hq
        subst e1
        subst e2
        have x0 : w'.cell? ⟨g, 0, none⟩ = some (.int .u8 0) := hx.at_ 0
        have x1 : w'.cell? ⟨g, 1, none⟩ = some (.bool false) := hx.at_ 1
        have x2 : w'.cell? ⟨g, 2, none⟩ = some (.int .i64 0) := hx.at_ 2
        have f0 := hx.free 0
        have f1 := hx.free 1
        have f2 := hx.free 2
        have HJ := Veil.mk hJ
        clear hJ hx
        go_simp
        exact hK _ _ (Q.PInv.mk HJ.out (by simp only [put6, List.setIfInBounds_toArray, List.set_cons_zero, List.set_cons_succ]))
      refine Steps.cons rfl (fun bb aa w' hbs hb0 hbp hI K hK => ?_) ?_
      · obtain ⟨u0, u1, u2, u3, u4, u5, rfl, hI⟩ := hI
        have q1 := after_of 3 (by kernel_rfl) hbp
        have q2 := after_of 5 (by kernel_rfl) hbp
        have hq := Q.PW.at5 hI hbs hb0 q1 q2
        clear hI q1 q2 hbp
        simp only [put6, List.setIfInBounds_toArray, List.set_cons_zero, List.set_cons_succ]
        obtain ⟨g, e1, e2, hx, hJ⟩ := hq
        subst e1
        subst e2
        have x0 : w'.cell? ⟨g, 0, none⟩ = some (.int .u8 0) := hx.at_ 0
        have x1 : w'.cell? ⟨g, 1, none⟩ = some (.bool false) := hx.at_ 1
        have x2 : w'.cell? ⟨g, 2, none⟩ = some (.int .i64 0) := hx.at_ 2
        have f0 := hx.free 0
        have f1 := hx.free 1
        have f2 := hx.free 2
        have HJ := Veil.mk hJ
        clear hJ hx
        go_simp
        exact hK _ _ (Q.PInv.mk HJ.out (by simp only [put6, List.setIfInBounds_toArray, List.set_cons_zero, List.set_cons_succ]))
      exact Steps.nil
    intro g1 g2 w5 hne bx by_ hb5 k1 k2
    simp only [put6, List.setIfInBounds_toArray, List.set_cons_zero, List.set_cons_succ]
    have HB5 := Veil.mk (HB15.out.trans (hb5.mono HB15.out.size))
    replace B3 := Veil.mk (B3.out.on hb5 B3.out.lt)
    have p0 : w5.cell? ⟨g1, 0, none⟩ = some (.int .u8 ra) := bx.at_ 0
    have p1 : w5.cell? ⟨g1, 1, none⟩ = some (.bool rm) := bx.at_ 1
    have p2 : w5.cell? ⟨g1, 2, none⟩ = some (.int .i64 rs) := bx.at_ 2
    have q0 : w5.cell? ⟨g2, 0, none⟩ = some (.int .u8 sa) := by_.at_ 0
    have q1 : w5.cell? ⟨g2, 1, none⟩ = some (.bool sm) := by_.at_ 1
    have q2 : w5.cell? ⟨g2, 2, none⟩ = some (.int .i64 ss) := by_.at_ 2
    clear bx by_ hb5 k1 k2 O1 O2 HB15 HB13 Q13 Q15 hne
    go_wp2_with (first | (go_at_call 44; ((with_reducible refine (C1.out _).mono ?_); rintro e w6 ⟨rfl, hb6⟩; have z0 : w6.cell? ⟨w.heap.size + 1 + 1, 0, none⟩ = some (.int .i64 0) := (B3.out.on hb6 B3.out.lt).at_ 0; have z1 : w6.cell? ⟨w.heap.size + 1 + 1, 1, none⟩ = some (.int .i64 0) := (B3.out.on hb6 B3.out.lt).at_ 1; have z2 : w6.cell? ⟨w.heap.size + 1 + 1, 2, none⟩ = some (.string ⟨#[]⟩) := (B3.out.on hb6 B3.out.lt).at_ 2; have f0 := (B3.out.on hb6 B3.out.lt).free 0; have f1 := (B3.out.on hb6 B3.out.lt).free 1; have f2 := (B3.out.on hb6 B3.out.lt).free 2)))
    refine bodyPost_ret (v := .tuple #[W.V qk qn qs, .int .i64 qt]) (by simp [results, Tryd.results13, go_sem, z0, z1, z2]) rfl ⟨rfl, ?_⟩
    exact (((HB5.out.trans (hb6.mono HB5.out.size)).setCell (p := ⟨w.heap.size + 1 + 1, 0, none⟩) (by show w.heap.size ≤ w.heap.size + 1 + 1; omega) _).setCell (p := ⟨w.heap.size + 1 + 1, 1, none⟩) (by show w.heap.size ≤ w.heap.size + 1 + 1; omega) _).setCell (p := ⟨w.heap.size + 1 + 1, 2, none⟩) (by show w.heap.size ≤ w.heap.size + 1 + 1; omega) _
set_option maxRecDepth 1000000 in
set_option maxHeartbeats 8000000 in
theorem rbin_q (x y : Vt) (hx : WV x.1 x.2.1 x.2.2) (hy : WV y.1 y.2.1 y.2.2) (w : World) :
    Calls Tryd.prog 13 #[.string ⟨#[63]⟩, valV x, valV y] w fun e w' => e = .returned (.tuple #[valV (calcN (none) x y).1, .int .i64 (calcN (none) x y).2]) ∧ Below w.heap.size w w' := by
  have N1 := Veil.mk (rnumber_any x hx)
  have N2 := Veil.mk (rnumber_any y hy)
  have M1 := Veil.mk (number_num hx)
  have M2 := Veil.mk (number_num hy)
  obtain ⟨W0, hW⟩ : ∃ v, v = tri w x y := ⟨_, rfl⟩
  have hB : Below w.heap.size w W0 := hW ▸ tri_below w x y
  have b1 := tri_x w x y
  have b2' := tri_y w x y
  have b3 := tri_r w x y
  rw [← hW] at b1 b2' b3
  have hw0 := hW.symm
  unfold tri two at hw0
  clear hW
  unfold calcN
  clear hx hy
  obtain ⟨nx, hnx⟩ : ∃ p, p = numberT x := ⟨_, rfl⟩
  obtain ⟨ny, hny⟩ : ∃ p, p = numberT y := ⟨_, rfl⟩
  rw [← hnx] at N1 M1 ⊢
  rw [← hny] at N2 M2 ⊢
  clear hnx hny
  obtain ⟨⟨nk, nn, ns⟩, st⟩ := nx
  obtain ⟨⟨mk, mn, ms⟩, tt⟩ := ny
  obtain ⟨xk, xn, xs⟩ := x
  obtain ⟨yk, yn, ys⟩ := y
  simp only at N1 N2 M1 M2 b1 b2' b3 hw0 ⊢
  have HW := Lib.hid hw0
  clear hw0
  have p0 : W0.cell? ⟨w.heap.size, 0, none⟩ = some (.int .i64 xk) := b1.at_ 0
  have p1 : W0.cell? ⟨w.heap.size, 1, none⟩ = some (.int .i64 xn) := b1.at_ 1
  have p2 : W0.cell? ⟨w.heap.size, 2, none⟩ = some (.string xs) := b1.at_ 2
  have q0 : W0.cell? ⟨w.heap.size + 1, 0, none⟩ = some (.int .i64 yk) := b2'.at_ 0
  have q1 : W0.cell? ⟨w.heap.size + 1, 1, none⟩ = some (.int .i64 yn) := b2'.at_ 1
  have q2 : W0.cell? ⟨w.heap.size + 1, 2, none⟩ = some (.string ys) := b2'.at_ 2
  have B2 := Veil.mk b2'
  have B3 := Veil.mk b3
  clear b1 b2' b3
  by_cases h0 : st = 0
  case neg =>
    have h0b : (st != 0) = true := by simpa using h0
    have h0c : (st == 0) = false := by simpa using h0
    rw [if_neg h0]
    clear h0 M1 M2 N2
    skip
    go_enter Tryd.func13, Tryd.ntmps13
    go_upto_region 1 with (fail)
    rw [HW.out]
    go_upto_region 17 with (fail)
    go_cut [13, 14] (fun sa sb wx => ∃ g : Nat, sa = .pointer (some ⟨g, 0, none⟩) ∧ sb = .int .i64 st ∧ Box wx g 27 #[.int .i64 nk, .int .i64 nn, .string ns] ∧ Below W0.heap.size W0 wx)
    case first =>
      go_wp2_with (first | (go_at_call 22; ((with_reducible refine (N1.out _).mono ?_); rintro e w2 ⟨rfl, hb2⟩)))
      go_meet
      exact ⟨w2.heap.size, rfl, rfl, Box.new _ _ _, hb2.alloc hb2.size _⟩
    case rest =>
    obtain ⟨g13, rfl, rfl, bq13, hb13⟩ := hcut
    obtain ⟨w3, hw13⟩ : ∃ v, v = wc := ⟨_, rfl⟩
    rw [← hw13] at hb13 bq13 ⊢
    clear hw13
    replace B2 := Veil.mk (B2.out.on hb13 B2.out.lt)
    replace B3 := Veil.mk (B3.out.on hb13 B3.out.lt)
    have HB13 := Veil.mk (hB.trans (hb13.mono hB.size))
    have Q13 := Veil.mk bq13
    clear bq13 hb13
    have z0 : w3.cell? ⟨w.heap.size + 1 + 1, 0, none⟩ = some (.int .i64 0) := B3.out.at_ 0
    have z1 : w3.cell? ⟨w.heap.size + 1 + 1, 1, none⟩ = some (.int .i64 0) := B3.out.at_ 1
    have z2 : w3.cell? ⟨w.heap.size + 1 + 1, 2, none⟩ = some (.string ⟨#[]⟩) := B3.out.at_ 2
    have f0 := B3.out.free 0
    have f1 := B3.out.free 1
    have f2 := B3.out.free 2
    go_wp2
    refine bodyPost_ret (v := .tuple #[W.V 0 0 W.e0, .int .i64 st]) (by simp [results, Tryd.results13, go_sem, z0, z1, z2]) rfl ⟨rfl, ?_⟩
    exact (((HB13.out).setCell (p := ⟨w.heap.size + 1 + 1, 0, none⟩) (by show w.heap.size ≤ w.heap.size + 1 + 1; omega) _).setCell (p := ⟨w.heap.size + 1 + 1, 1, none⟩) (by show w.heap.size ≤ w.heap.size + 1 + 1; omega) _).setCell (p := ⟨w.heap.size + 1 + 1, 2, none⟩) (by show w.heap.size ≤ w.heap.size + 1 + 1; omega) _
  subst h0
  rw [if_pos rfl]
  obtain ⟨hn1, rfl⟩ := M1.out rfl
  clear M1
  by_cases h0 : tt = 0
  case neg =>
    have h0b : (tt != 0) = true := by simpa using h0
    have h0c : (tt == 0) = false := by simpa using h0
    rw [if_neg h0]
    clear h0 M2
    skip
    go_enter Tryd.func13, Tryd.ntmps13
    go_upto_region 1 with (fail)
    rw [HW.out]
    go_upto_region 17 with (fail)
    go_cut [13, 14] (fun sa sb wx => ∃ g : Nat, sa = .pointer (some ⟨g, 0, none⟩) ∧ sb = .int .i64 0 ∧ Box wx g 27 #[.int .i64 nk, .int .i64 nn, .string W.e0] ∧ Below W0.heap.size W0 wx)
    case first =>
      go_wp2_with (first | (go_at_call 22; ((with_reducible refine (N1.out _).mono ?_); rintro e w2 ⟨rfl, hb2⟩)))
      go_meet
      exact ⟨w2.heap.size, rfl, rfl, Box.new _ _ _, hb2.alloc hb2.size _⟩
    case rest =>
    obtain ⟨g13, rfl, rfl, bq13, hb13⟩ := hcut
    obtain ⟨w3, hw13⟩ : ∃ v, v = wc := ⟨_, rfl⟩
    rw [← hw13] at hb13 bq13 ⊢
    clear hw13
    replace B2 := Veil.mk (B2.out.on hb13 B2.out.lt)
    replace B3 := Veil.mk (B3.out.on hb13 B3.out.lt)
    have HB13 := Veil.mk (hB.trans (hb13.mono hB.size))
    have Q13 := Veil.mk bq13
    clear bq13 hb13
    have q0 : w3.cell? ⟨w.heap.size + 1, 0, none⟩ = some (.int .i64 yk) := B2.out.at_ 0
    have q1 : w3.cell? ⟨w.heap.size + 1, 1, none⟩ = some (.int .i64 yn) := B2.out.at_ 1
    have q2 : w3.cell? ⟨w.heap.size + 1, 2, none⟩ = some (.string ys) := B2.out.at_ 2
    go_upto_region 20 with (fail)
    go_cut [15, 14] (fun sa sb wx => ∃ g : Nat, sa = .pointer (some ⟨g, 0, none⟩) ∧ sb = .int .i64 tt ∧ Box wx g 27 #[.int .i64 mk, .int .i64 mn, .string ms] ∧ Below w3.heap.size w3 wx)
    case first =>
      go_wp2_with (first | (go_at_call 22; ((with_reducible refine (N2.out _).mono ?_); rintro e w2 ⟨rfl, hb2⟩)))
      go_meet
      exact ⟨w2.heap.size, rfl, rfl, Box.new _ _ _, hb2.alloc hb2.size _⟩
    case rest =>
    obtain ⟨g15, rfl, rfl, bq15, hb15⟩ := hcut
    obtain ⟨w4, hw15⟩ : ∃ v, v = wc := ⟨_, rfl⟩
    rw [← hw15] at hb15 bq15 ⊢
    clear hw15
    replace B3 := Veil.mk (B3.out.on hb15 B3.out.lt)
    have HB15 := Veil.mk (HB13.out.trans (hb15.mono HB13.out.size))
    have Q15 := Veil.mk bq15
    clear bq15 hb15
    have z0 : w4.cell? ⟨w.heap.size + 1 + 1, 0, none⟩ = some (.int .i64 0) := B3.out.at_ 0
    have z1 : w4.cell? ⟨w.heap.size + 1 + 1, 1, none⟩ = some (.int .i64 0) := B3.out.at_ 1
    have z2 : w4.cell? ⟨w.heap.size + 1 + 1, 2, none⟩ = some (.string ⟨#[]⟩) := B3.out.at_ 2
    have f0 := B3.out.free 0
    have f1 := B3.out.free 1
    have f2 := B3.out.free 2
    go_wp2
    refine bodyPost_ret (v := .tuple #[W.V 0 0 W.e0, .int .i64 tt]) (by simp [results, Tryd.results13, go_sem, z0, z1, z2]) rfl ⟨rfl, ?_⟩
    exact (((HB15.out).setCell (p := ⟨w.heap.size + 1 + 1, 0, none⟩) (by show w.heap.size ≤ w.heap.size + 1 + 1; omega) _).setCell (p := ⟨w.heap.size + 1 + 1, 1, none⟩) (by show w.heap.size ≤ w.heap.size + 1 + 1; omega) _).setCell (p := ⟨w.heap.size + 1 + 1, 2, none⟩) (by show w.heap.size ≤ w.heap.size + 1 + 1; omega) _
  subst h0
  rw [if_pos rfl]
  obtain ⟨hn2, rfl⟩ := M2.out rfl
  clear M2
  have O1 : Veil (∀ wx, Calls Tryd.prog 43 #[W.V nk nn W.e0] wx fun e w' => e = .returned (M.nvN nk nn) ∧ Below wx.heap.size wx w') := ⟨fun wx => M.of_any hn1 wx⟩
  have O2 : Veil (∀ wx, Calls Tryd.prog 43 #[W.V mk mn W.e0] wx fun e w' => e = .returned (M.nvN mk mn) ∧ Below wx.heap.size wx w') := ⟨fun wx => M.of_any hn2 wx⟩
  have C1 : Veil (∀ wx, Calls Tryd.prog 44 #[.string ⟨#[63]⟩, M.nvN nk nn, M.nvN mk mn] wx fun e w' => e = .returned (.tuple #[valV (reckT (none) nk nn mk mn).1, .int .i64 (reckT (none) nk nn mk mn).2]) ∧ Below wx.heap.size wx w') := ⟨fun wx => reckon_any (none) nk nn mk mn hn1 hn2 wx⟩
  obtain ⟨q, hq⟩ : ∃ q, q = reckT (none) nk nn mk mn := ⟨_, rfl⟩
  rw [← hq] at C1 ⊢
  clear hq
  obtain ⟨⟨qk, qn, qs⟩, qt⟩ := q
  simp only at C1
  unfold M.nvN at O1 O2 C1
  obtain ⟨ra, h1⟩ : ∃ v, v = M.rK nk := ⟨_, rfl⟩
  obtain ⟨rm, h2⟩ : ∃ v, v = M.negB nk nn := ⟨_, rfl⟩
  obtain ⟨rs, h3⟩ : ∃ v, v = M.rS nk nn := ⟨_, rfl⟩
  obtain ⟨sa, h4⟩ : ∃ v, v = M.rK mk := ⟨_, rfl⟩
  obtain ⟨sm, h5⟩ : ∃ v, v = M.negB mk mn := ⟨_, rfl⟩
  obtain ⟨ss, h6⟩ : ∃ v, v = M.rS mk mn := ⟨_, rfl⟩
  rw [← h1, ← h2, ← h3] at O1 C1
  rw [← h4, ← h5, ← h6] at O2 C1
  clear h1 h2 h3 h4 h5 h6 hn1 hn2
  ·
    go_enter Tryd.func13, Tryd.ntmps13
    go_upto_region 1 with (fail)
    rw [HW.out]
    go_upto_region 17 with (fail)
    go_cut [13, 14] (fun sa sb wx => ∃ g : Nat, sa = .pointer (some ⟨g, 0, none⟩) ∧ sb = .int .i64 0 ∧ Box wx g 27 #[.int .i64 nk, .int .i64 nn, .string W.e0] ∧ Below W0.heap.size W0 wx)
    case first =>
      go_wp2_with (first | (go_at_call 22; ((with_reducible refine (N1.out _).mono ?_); rintro e w2 ⟨rfl, hb2⟩)))
      go_meet
      exact ⟨w2.heap.size, rfl, rfl, Box.new _ _ _, hb2.alloc hb2.size _⟩
    case rest =>
    obtain ⟨g13, rfl, rfl, bq13, hb13⟩ := hcut
    obtain ⟨w3, hw13⟩ : ∃ v, v = wc := ⟨_, rfl⟩
    rw [← hw13] at hb13 bq13 ⊢
    clear hw13
    replace B2 := Veil.mk (B2.out.on hb13 B2.out.lt)
    replace B3 := Veil.mk (B3.out.on hb13 B3.out.lt)
    have HB13 := Veil.mk (hB.trans (hb13.mono hB.size))
    have Q13 := Veil.mk bq13
    clear bq13 hb13
    have q0 : w3.cell? ⟨w.heap.size + 1, 0, none⟩ = some (.int .i64 yk) := B2.out.at_ 0
    have q1 : w3.cell? ⟨w.heap.size + 1, 1, none⟩ = some (.int .i64 yn) := B2.out.at_ 1
    have q2 : w3.cell? ⟨w.heap.size + 1, 2, none⟩ = some (.string ys) := B2.out.at_ 2
    go_upto_region 20 with (fail)
    go_cut [15, 14] (fun sa sb wx => ∃ g : Nat, sa = .pointer (some ⟨g, 0, none⟩) ∧ sb = .int .i64 0 ∧ Box wx g 27 #[.int .i64 mk, .int .i64 mn, .string W.e0] ∧ Below w3.heap.size w3 wx)
    case first =>
      go_wp2_with (first | (go_at_call 22; ((with_reducible refine (N2.out _).mono ?_); rintro e w2 ⟨rfl, hb2⟩)))
      go_meet
      exact ⟨w2.heap.size, rfl, rfl, Box.new _ _ _, hb2.alloc hb2.size _⟩
    case rest =>
    obtain ⟨g15, rfl, rfl, bq15, hb15⟩ := hcut
    obtain ⟨w4, hw15⟩ : ∃ v, v = wc := ⟨_, rfl⟩
    rw [← hw15] at hb15 bq15 ⊢
    clear hw15
    replace B3 := Veil.mk (B3.out.on hb15 B3.out.lt)
    replace Q13 := Veil.mk (Q13.out.on hb15 Q13.out.lt)
    have HB15 := Veil.mk (HB13.out.trans (hb15.mono HB13.out.size))
    have Q15 := Veil.mk bq15
    clear bq15 hb15
    clear q0 q1 q2 p0 p1 p2 N1 N2 B2
    go_upto_region 23 with (fail)
    refine Q.wp_region_pair 73 #[.int .u8 0, .bool false, .int .i64 0] #[.int .u8 ra, .bool rm, .int .i64 rs] #[.int .u8 sa, .bool sm, .int .i64 ss] (W.V nk nn W.e0) (W.V mk mn W.e0) (M.nv ra rm rs) (M.nv sa sm ss) 122 123 124 125 16 17 (by kernel_rfl) rfl ⟨_, _, _, _, _, _, rfl⟩ ?_ (by kernel_rfl) ?_
    · refine Steps.cons rfl (fun bb aa w' hbs hb0 hbp hI K hK => ?_) ?_
      · obtain ⟨u0, u1, u2, u3, u4, u5, rfl, hI⟩ := hI
        have e0 := Q13.out.on hI.1 Q13.out.lt; have e1 := Q15.out.on hI.1 Q15.out.lt; have c0 : w'.cell? ⟨g13, 0, none⟩ = some (.int .i64 nk) := e0.at_ 0; have c1 : w'.cell? ⟨g13, 1, none⟩ = some (.int .i64 nn) := e0.at_ 1; have c2 : w'.cell? ⟨g13, 2, none⟩ = some (.string W.e0) := e0.at_ 2; have d0 : w'.cell? ⟨g15, 0, none⟩ = some (.int .i64 mk) := e1.at_ 0; have d1 : w'.cell? ⟨g15, 1, none⟩ = some (.int .i64 mn) := e1.at_ 1; have d2 : w'.cell? ⟨g15, 2, none⟩ = some (.string W.e0) := e1.at_ 2
        simp only [put6, List.setIfInBounds_toArray, List.set_cons_zero, List.set_cons_succ]
        go_simp
        exact hK _ _ (Q.PInv.mk (Q.PW.load0 hI hbs) (by simp only [put6, List.setIfInBounds_toArray, List.set_cons_zero, List.set_cons_succ]))
      refine Steps.cons rfl (fun bb aa w' hbs hb0 hbp hI K hK => ?_) ?_
      · obtain ⟨u0, u1, u2, u3, u4, u5, rfl, hI⟩ := hI
        have hq := after_of 0 (by kernel_rfl) hbp
        have hu : u0 = (W.V nk nn W.e0) := hI.2.1 hq
        subst hu
        have HI := Veil.mk hI
        clear hI
        simp only [put6, List.setIfInBounds_toArray, List.set_cons_zero, List.set_cons_succ]
        go_simp
        refine (O1.out w').mono ?_
        rintro e w2 ⟨rfl, hb2⟩
        go_simp
        exact hK _ _ (Q.PInv.mk (Q.PW.call1 HI.out hbs hb0 hb2) (by simp only [put6, List.setIfInBounds_toArray, List.set_cons_zero, List.set_cons_succ]))
      refine Steps.cons rfl (fun bb aa w' hbs hb0 hbp hI K hK => ?_) ?_
      · obtain ⟨u0, u1, u2, u3, u4, u5, rfl, hI⟩ := hI
        have e0 := Q13.out.on hI.1 Q13.out.lt; have e1 := Q15.out.on hI.1 Q15.out.lt; have c0 : w'.cell? ⟨g13, 0, none⟩ = some (.int .i64 nk) := e0.at_ 0; have c1 : w'.cell? ⟨g13, 1, none⟩ = some (.int .i64 nn) := e0.at_ 1; have c2 : w'.cell? ⟨g13, 2, none⟩ = some (.string W.e0) := e0.at_ 2; have d0 : w'.cell? ⟨g15, 0, none⟩ = some (.int .i64 mk) := e1.at_ 0; have d1 : w'.cell? ⟨g15, 1, none⟩ = some (.int .i64 mn) := e1.at_ 1; have d2 : w'.cell? ⟨g15, 2, none⟩ = some (.string W.e0) := e1.at_ 2
        simp only [put6, List.setIfInBounds_toArray, List.set_cons_zero, List.set_cons_succ]
        go_simp
        exact hK _ _ (Q.PInv.mk (Q.PW.load2 hI hbs) (by simp only [put6, List.setIfInBounds_toArray, List.set_cons_zero, List.set_cons_succ]))
      refine Steps.cons rfl (fun bb aa w' hbs hb0 hbp hI K hK => ?_) ?_
      · obtain ⟨u0, u1, u2, u3, u4, u5, rfl, hI⟩ := hI
        have hq := after_of 2 (by kernel_rfl) hbp
        have hu : u2 = (W.V mk mn W.e0) := hI.2.2.1 hq
        subst hu
        have HI := Veil.mk hI
        clear hI
        simp only [put6, List.setIfInBounds_toArray, List.set_cons_zero, List.set_cons_succ]
        go_simp
        refine (O2.out w').mono ?_
        rintro e w2 ⟨rfl, hb2⟩
        go_simp
        exact hK _ _ (Q.PInv.mk (Q.PW.call3 HI.out hbs hb0 hb2) (by simp only [put6, List.setIfInBounds_toArray, List.set_cons_zero, List.set_cons_succ]))
      refine Steps.cons rfl (fun bb aa w' hbs hb0 hbp hI K hK => ?_) ?_
      · obtain ⟨u0, u1, u2, u3, u4, u5, rfl, hI⟩ := hI
        have HI := Veil.mk hI
        clear hI
        simp only [put6, List.setIfInBounds_toArray, List.set_cons_zero, List.set_cons_succ]
        go_simp
        exact hK _ _ (Q.PInv.mk (Q.PW.alloc4 HI.out hbs hb0) (by simp only [put6, List.setIfInBounds_toArray, List.set_cons_zero, List.set_cons_succ]))
      refine Steps.cons rfl (fun bb aa w' hbs hb0 hbp hI K hK => ?_) ?_
      · obtain ⟨u0, u1, u2, u3, u4, u5, rfl, hI⟩ := hI
        have HI := Veil.mk hI
        clear hI
        simp only [put6, List.setIfInBounds_toArray, List.set_cons_zero, List.set_cons_succ]
        go_simp
        exact hK _ _ (Q.PInv.mk (Q.PW.alloc5 HI.out hbs hb0) (by simp only [put6, List.setIfInBounds_toArray, List.set_cons_zero, List.set_cons_succ]))
      refine Steps.cons rfl (fun bb aa w' hbs hb0 hbp hI K hK => ?_) ?_
      · obtain ⟨u0, u1, u2, u3, u4, u5, rfl, hI⟩ := hI
        have q1 := after_of 1 (by kernel_rfl) hbp
        have q2 := after_of 4 (by kernel_rfl) hbp
        have hq := Q.PW.at4 hI hbs hb0 q1 q2
        clear hI q1 q2 hbp
        simp only [put6, List.setIfInBounds_toArray, List.set_cons_zero, List.set_cons_succ]
        obtain ⟨g, e1, e2, hx, hJ⟩ := hq
        subst e1
        subst e2
        have x0 : w'.cell? ⟨g, 0, none⟩ = some (.int .u8 0) := hx.at_ 0
        have x1 : w'.cell? ⟨g, 1, none⟩ = some (.bool false) := hx.at_ 1
        have x2 : w'.cell? ⟨g, 2, none⟩ = some (.int .i64 0) := hx.at_ 2
        have f0 := hx.free 0
        have f1 := hx.free 1
        have f2 := hx.free 2
        have HJ := Veil.mk hJ
        clear hJ hx
        go_simp
        exact hK _ _ (Q.PInv.mk HJ.out (by simp only [put6, List.setIfInBounds_toArray, List.set_cons_zero, List.set_cons_succ]))
      refine Steps.cons rfl (fun bb aa w' hbs hb0 hbp hI K hK => ?_) ?_
      · obtain ⟨u0, u1, u2, u3, u4, u5, rfl, hI⟩ := hI
        have q1 := after_of 3 (by kernel_rfl) hbp
        have q2 := after_of 5 (by kernel_rfl) hbp
        have hq := Q.PW.at5 hI hbs hb0 q1 q2
        clear hI q1 q2 hbp
        simp only [put6, List.setIfInBounds_toArray, List.set_cons_zero, List.set_cons_succ]
        obtain ⟨g, e1, e2, hx, hJ⟩ := hq
        subst e1
        subst e2
        have x0 : w'.cell? ⟨g, 0, none⟩ = some (.int .u8 0) := hx.at_ 0
        have x1 : w'.cell? ⟨g, 1, none⟩ = some (.bool false) := hx.at_ 1
        have x2 : w'.cell? ⟨g, 2, none⟩ = some (.int .i64 0) := hx.at_ 2
        have f0 := hx.free 0
        have f1 := hx.free 1
        have f2 := hx.free 2
        have HJ := Veil.mk hJ
        clear hJ hx
        go_simp
        exact hK _ _ (Q.PInv.mk HJ.out (by simp only [put6, List.setIfInBounds_toArray, List.set_cons_zero, List.set_cons_succ]))
      exact Steps.nil
    intro g1 g2 w5 hne bx by_ hb5 k1 k2
    simp only [put6, List.setIfInBounds_toArray, List.set_cons_zero, List.set_cons_succ]
    have HB5 := Veil.mk (HB15.out.trans (hb5.mono HB15.out.size))
    replace B3 := Veil.mk (B3.out.on hb5 B3.out.lt)
    have p0 : w5.cell? ⟨g1, 0, none⟩ = some (.int .u8 ra) := bx.at_ 0
    have p1 : w5.cell? ⟨g1, 1, none⟩ = some (.bool rm) := bx.at_ 1
    have p2 : w5.cell? ⟨g1, 2, none⟩ = some (.int .i64 rs) := bx.at_ 2
    have q0 : w5.cell? ⟨g2, 0, none⟩ = some (.int .u8 sa) := by_.at_ 0
    have q1 : w5.cell? ⟨g2, 1, none⟩ = some (.bool sm) := by_.at_ 1
    have q2 : w5.cell? ⟨g2, 2, none⟩ = some (.int .i64 ss) := by_.at_ 2
    clear bx by_ hb5 k1 k2 O1 O2 HB15 HB13 Q13 Q15 hne
    go_wp2_with (first | (go_at_call 44; ((with_reducible refine (C1.out _).mono ?_); rintro e w6 ⟨rfl, hb6⟩; have z0 : w6.cell? ⟨w.heap.size + 1 + 1, 0, none⟩ = some (.int .i64 0) := (B3.out.on hb6 B3.out.lt).at_ 0; have z1 : w6.cell? ⟨w.heap.size + 1 + 1, 1, none⟩ = some (.int .i64 0) := (B3.out.on hb6 B3.out.lt).at_ 1; have z2 : w6.cell? ⟨w.heap.size + 1 + 1, 2, none⟩ = some (.string ⟨#[]⟩) := (B3.out.on hb6 B3.out.lt).at_ 2; have f0 := (B3.out.on hb6 B3.out.lt).free 0; have f1 := (B3.out.on hb6 B3.out.lt).free 1; have f2 := (B3.out.on hb6 B3.out.lt).free 2)))
    refine bodyPost_ret (v := .tuple #[W.V qk qn qs, .int .i64 qt]) (by simp [results, Tryd.results13, go_sem, z0, z1, z2]) rfl ⟨rfl, ?_⟩
    exact (((HB5.out.trans (hb6.mono HB5.out.size)).setCell (p := ⟨w.heap.size + 1 + 1, 0, none⟩) (by show w.heap.size ≤ w.heap.size + 1 + 1; omega) _).setCell (p := ⟨w.heap.size + 1 + 1, 1, none⟩) (by show w.heap.size ≤ w.heap.size + 1 + 1; omega) _).setCell (p := ⟨w.heap.size + 1 + 1, 2, none⟩) (by show w.heap.size ≤ w.heap.size + 1 + 1; omega) _
end Go.Proofs.YtbkgophgclpijaaDoor
