/- Strict equality by the reference. -/
import Derived.Test.YtbkgophgclpijaaDoorEe
namespace Go.Proofs.YtbkgophgclpijaaDoor
open Go.RowKit

theorem eq_cmp (k1 n1 k2 n2 : Int) : M.eqR k1 n1 k2 n2 = (M.cmpR k1 n1 k2 n2 == 0) := by
  unfold M.eqR M.cmpR
  by_cases h : k1 = 4 ∨ k2 = 4
  · rw [if_pos h, if_pos h]; rfl
  rw [if_neg h, if_neg h]
  by_cases h1 : M.rk k1 n1 < M.rk k2 n2
  · rw [if_pos h1, Bool.eq_iff_iff]; simp; omega
  rw [if_neg h1]
  by_cases h2 : M.rk k2 n2 < M.rk k1 n1
  · rw [if_pos h2, Bool.eq_iff_iff]; simp; omega
  rw [if_neg h2, Bool.eq_iff_iff]; simp; omega

set_option maxRecDepth 100000 in
set_option maxHeartbeats 2000000 in
theorem rstrict_any (x y : Vt) (hx : WV x.1 x.2.1 x.2.2) (hy : WV y.1 y.2.1 y.2.2) (w : World) : Calls Tryd.prog 16 #[valV x, valV y] w fun e w' => e = .returned (.bool (strictT x y)) ∧ Below w.heap.size w w' := by
  obtain ⟨WW, hW⟩ : ∃ W, W = two w x y := ⟨_, rfl⟩
  have hB : Below w.heap.size w WW := hW ▸ two_below w x y
  have HS : Veil (Six WW w.heap.size (w.heap.size + 1) x y) := ⟨hW ▸ two_six w x y⟩
  have hw0 := hW.symm
  unfold two at hw0
  obtain ⟨xk, xn, xs⟩ := x
  obtain ⟨yk, yn, ys⟩ := y
  simp only at hx hy hw0
  have HW := Lib.hid hw0
  obtain ⟨p0, p1, p2, r0, r1, r2⟩ := HS.out
  simp only at p0 p1 p2 r0 r1 r2
  clear hW hw0
  by_cases h1 : 3 ≤ xk ∧ xk ≤ 6
  · obtain ⟨nx, rfl⟩ := wv_num hx h1
    by_cases h2 : 3 ≤ yk ∧ yk ≤ 6
    · obtain ⟨ny, rfl⟩ := wv_num hy h2
      have HE : Hid (strictT (xk, xn, W.e0) (yk, yn, W.e0) = M.eqR xk xn yk yn) := if_pos ⟨h1, h2⟩
      have ix := Veil.mk (rnum_yes xk xn W.e0 h1)
      have iy := Veil.mk (rnum_yes yk yn W.e0 h2)
      have ox := Veil.mk (fun wx => M.of_any nx wx)
      have oy := Veil.mk (fun wx => M.of_any ny wx)
      obtain ⟨c, hc⟩ : ∃ c, c = M.cmpR xk xn yk yn := ⟨_, rfl⟩
      have ol := Veil.mk (fun wx => M.rless_at (c := c) nx ny (Lib.hid hc.symm) wx)
      have HC : Hid (M.eqR xk xn yk yn = (c == 0)) := by show _ = _; rw [hc]; exact eq_cmp xk xn yk yn
      clear hc
      clear hx hy h1 h2 nx ny
      go_enter Tryd.func16, Tryd.ntmps16
      go_upto_region 1 with (fail)
      rw [HW.out]
      go_upto_region 2 with (first | (go_at_call 48; first | ((with_reducible refine (ix.out _).mono ?_); rintro e w2 ⟨rfl, hb2⟩; obtain ⟨p0, p1, p2, r0, r1, r2⟩ := HS.out.on hb2) | ((with_reducible refine (iy.out _).mono ?_); rintro e w3 ⟨rfl, hb3⟩; obtain ⟨p0, p1, p2, r0, r1, r2⟩ := HS.out.on (hb2.trans (hb3.mono hb2.size)))))
      have HZ : Veil (Six w3 w.heap.size (w.heap.size + 1) (xk, xn, W.e0) (yk, yn, W.e0)) := ⟨HS.out.on (hb2.trans (hb3.mono hb2.size))⟩
      have hb23 := hb2.trans (hb3.mono hb2.size)
      go_region_held3 (fun w' => w'.cell? ⟨w.heap.size, 0, none⟩ = some (.int .i64 xk) ∧ w'.cell? ⟨w.heap.size, 1, none⟩ = some (.int .i64 xn) ∧ w'.cell? ⟨w.heap.size, 2, none⟩ = some (.string W.e0) ∧ w'.cell? ⟨w.heap.size + 1, 0, none⟩ = some (.int .i64 yk) ∧ w'.cell? ⟨w.heap.size + 1, 1, none⟩ = some (.int .i64 yn) ∧ w'.cell? ⟨w.heap.size + 1, 2, none⟩ = some (.string W.e0))
        (first | exact HZ.out.on (((Below.refl _ _).drew.trans (hb4.trans (hb5.mono hb4.size))).trans (hb6.mono (hb4.trans (hb5.mono hb4.size)).size)) | exact HZ.out.on (((Below.refl _ _).drew.trans (hb5.trans (hb4.mono hb5.size))).trans (hb6.mono (hb5.trans (hb4.mono hb5.size)).size)) | exact HZ.out.on ((Below.refl _ _).drew.trans (hb4.trans (hb5.mono hb4.size))) | exact HZ.out.on ((Below.refl _ _).drew.trans (hb5.trans (hb4.mono hb5.size))) | exact HZ.out.on ((Below.refl _ _).drew.trans hb4) | exact HZ.out.on ((Below.refl _ _).drew.trans hb5) | exact HZ.out.on (Below.refl _ _).drew)
        (first | (go_at_call 43; first | ((with_reducible refine (ox.out _).mono ?_); rintro e w4 ⟨rfl, hb4⟩) | ((with_reducible refine (oy.out _).mono ?_); rintro e w5 ⟨rfl, hb5⟩)) | (go_at_call 45; ((with_reducible refine (ol.out _).mono ?_); rintro e w6 ⟨rfl, hb6⟩)))
      go_wp2
      go_ret
      exact ⟨by rw [HE.out, HC.out]; rfl, hB.trans ((hb23.trans ((by first | exact ((Below.refl _ _).drew.trans (hb4.trans (hb5.mono hb4.size))).trans (hb6.mono (hb4.trans (hb5.mono hb4.size)).size) | exact ((Below.refl _ _).drew.trans (hb5.trans (hb4.mono hb5.size))).trans (hb6.mono (hb5.trans (hb4.mono hb5.size)).size) : Below w3.heap.size w3 w6).mono hb23.size)).mono hB.size)⟩
    · have HE : Hid (strictT (xk, xn, W.e0) (yk, yn, ys) = false) := by
        show _ = _
        have e1 : ¬ (isN (xk, xn, W.e0) ∧ isN (yk, yn, ys)) := fun h => h2 h.2
        unfold strictT
        rw [if_neg e1]
        refine decide_eq_false (fun e => ?_)
        injection e with e
        omega
      have hne : ¬ xk = yk := by omega
      have ix := Veil.mk (rnum_yes xk xn W.e0 h1)
      have iy := Veil.mk (rnum_no yk yn ys h2)
      clear hx hy h1 h2 nx
      go_enter Tryd.func16, Tryd.ntmps16
      go_upto_region 1 with (fail)
      rw [HW.out]
      go_wp2_with (first | (go_at_call 48; first | ((with_reducible refine (ix.out _).mono ?_); rintro e w2 ⟨rfl, hb2⟩; obtain ⟨p0, p1, p2, r0, r1, r2⟩ := HS.out.on hb2) | ((with_reducible refine (iy.out _).mono ?_); rintro e w3 ⟨rfl, hb3⟩; obtain ⟨p0, p1, p2, r0, r1, r2⟩ := HS.out.on (hb2.trans (hb3.mono hb2.size)))))
      go_ret
      exact ⟨by rw [HE.out]; rfl, hB.trans ((hb2.trans (hb3.mono hb2.size)).mono hB.size)⟩
  · have e1 : ¬ (isN (xk, xn, xs) ∧ isN (yk, yn, ys)) := fun h => h1 h.1
    have HE : Hid (strictT (xk, xn, xs) (yk, yn, ys) = eqB (xk, xn, xs) (yk, yn, ys)) := by show _ = _; unfold strictT; rw [if_neg e1]
    have ix := Veil.mk (rnum_no xk xn xs h1)
    clear hx hy h1 e1
    by_cases h : (xk, xn, xs) = (yk, yn, ys)
    · have HF : Hid (eqB (xk, xn, xs) (yk, yn, ys) = true) := decide_eq_true h
      injection h with ea eb
      injection eb with eb ec
      subst ea eb ec
      go_enter Tryd.func16, Tryd.ntmps16
      go_upto_region 1 with (fail)
      rw [HW.out]
      go_wp2_with (first | (go_at_call 48; first | ((with_reducible refine (ix.out _).mono ?_); rintro e w2 ⟨rfl, hb2⟩; obtain ⟨p0, p1, p2, r0, r1, r2⟩ := HS.out.on hb2) | ((with_reducible refine (ix.out _).mono ?_); rintro e w3 ⟨rfl, hb3⟩; obtain ⟨p0, p1, p2, r0, r1, r2⟩ := HS.out.on (hb2.trans (hb3.mono hb2.size)))))
      go_ret
      exact ⟨by rw [HE.out, HF.out]; rfl, hB.trans (hb2.mono hB.size)⟩
    · have HF : Hid (eqB (xk, xn, xs) (yk, yn, ys) = false) := decide_eq_false h
      have hne := vne2 h
      simp only at hne
      clear h
      rcases hne with g1 | ⟨g1, g2⟩ | ⟨g1, g2, g3⟩
      case' inr.inl => subst g1
      case' inr.inr => subst g1 g2
      all_goals
        go_enter Tryd.func16, Tryd.ntmps16
        go_upto_region 1 with (fail)
        rw [HW.out]
        go_wp2_with (first | (go_at_call 48; first | ((with_reducible refine (ix.out _).mono ?_); rintro e w2 ⟨rfl, hb2⟩; obtain ⟨p0, p1, p2, r0, r1, r2⟩ := HS.out.on hb2) | ((with_reducible refine (ix.out _).mono ?_); rintro e w3 ⟨rfl, hb3⟩; obtain ⟨p0, p1, p2, r0, r1, r2⟩ := HS.out.on (hb2.trans (hb3.mono hb2.size)))))
        go_ret
        refine ⟨?_, hB.trans (hb2.mono hB.size)⟩
        rw [HE.out, HF.out]
        first | rfl | (rw [show (xs.toList == ys.toList) = false from by simpa using g3]; rfl)
end Go.Proofs.YtbkgophgclpijaaDoor
