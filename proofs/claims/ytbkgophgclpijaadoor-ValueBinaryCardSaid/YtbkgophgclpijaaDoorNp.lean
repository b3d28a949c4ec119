/- ValueBinary: plus and the equalities. -/
import Derived.Test.YtbkgophgclpijaaDoorNa
import Derived.Test.YtbkgophgclpijaaDoorKa
import Derived.Test.YtbkgophgclpijaaDoorEf
import Derived.Test.YtbkgophgclpijaaDoorHc
import Derived.Test.YtbkgophgclpijaaDoorHd
import Derived.Deep.RegionHeld3
namespace Go.Proofs.YtbkgophgclpijaaDoor
open Go Go.RowKit

set_option maxRecDepth 1000000 in
set_option maxHeartbeats 4000000 in
theorem rbin_eq (x y : Vt) (hx : WV x.1 x.2.1 x.2.2) (hy : WV y.1 y.2.1 y.2.2) (w : World) :
    Calls Tryd.prog 13 #[.string ⟨#[61, 61, 61]⟩, valV x, valV y] w fun e w' => e = .returned (.tuple #[valV (b2 (strictT x y)), .int .i64 0]) ∧ Below w.heap.size w w' := by
  have J := Veil.mk (rstrict_any x y hx hy)
  obtain ⟨W0, hW⟩ : ∃ v, v = tri w x y := ⟨_, rfl⟩
  have hB : Below w.heap.size w W0 := hW ▸ tri_below w x y
  have b1 := tri_x w x y
  have b2' := tri_y w x y
  have b3 := tri_r w x y
  rw [← hW] at b1 b2' b3
  have hw0 := hW.symm
  unfold tri two at hw0
  clear hW
  obtain ⟨r, hr⟩ : ∃ r, r = strictT x y := ⟨_, rfl⟩
  rw [← hr] at J ⊢
  clear hr hx hy
  obtain ⟨xk, xn, xs⟩ := x
  obtain ⟨yk, yn, ys⟩ := y
  simp only at J b1 b2' b3 hw0 ⊢
  have HW := Lib.hid hw0
  clear hw0
  have p0 : W0.cell? ⟨w.heap.size, 0, none⟩ = some (.int .i64 xk) := b1.at_ 0
  have p1 : W0.cell? ⟨w.heap.size, 1, none⟩ = some (.int .i64 xn) := b1.at_ 1
  have p2 : W0.cell? ⟨w.heap.size, 2, none⟩ = some (.string xs) := b1.at_ 2
  have q0 : W0.cell? ⟨w.heap.size + 1, 0, none⟩ = some (.int .i64 yk) := b2'.at_ 0
  have q1 : W0.cell? ⟨w.heap.size + 1, 1, none⟩ = some (.int .i64 yn) := b2'.at_ 1
  have q2 : W0.cell? ⟨w.heap.size + 1, 2, none⟩ = some (.string ys) := b2'.at_ 2
  have B3 := Veil.mk b3
  clear b1 b2' b3
  cases r
  ·
    go_enter Tryd.func13, Tryd.ntmps13
    go_upto_region 1 with (fail)
    rw [HW.out]
    go_wp2_with (first | (go_at_call 16; ((with_reducible refine (J.out _).mono ?_); rintro e w3 ⟨rfl, hb3⟩)) | (go_at_call 40; ((with_reducible refine (rtruth_any false _).mono ?_); rintro e w4 ⟨rfl, hb4⟩; have hb34 := hb3.trans (hb4.mono hb3.size); have z0 : w4.cell? ⟨w.heap.size + 1 + 1, 0, none⟩ = some (.int .i64 0) := (B3.out.on hb34 B3.out.lt).at_ 0; have z1 : w4.cell? ⟨w.heap.size + 1 + 1, 1, none⟩ = some (.int .i64 0) := (B3.out.on hb34 B3.out.lt).at_ 1; have z2 : w4.cell? ⟨w.heap.size + 1 + 1, 2, none⟩ = some (.string ⟨#[]⟩) := (B3.out.on hb34 B3.out.lt).at_ 2; have f0 := (B3.out.on hb34 B3.out.lt).free 0; have f1 := (B3.out.on hb34 B3.out.lt).free 1; have f2 := (B3.out.on hb34 B3.out.lt).free 2)))
    refine bodyPost_ret (v := .tuple #[valV (b2 false), .int .i64 0]) (by simp [results, Tryd.results13, go_sem, z0, z1, z2]) rfl ⟨rfl, ?_⟩
    exact (((hB.trans (hb34.mono hB.size)).setCell (p := ⟨w.heap.size + 1 + 1, 0, none⟩) (by show w.heap.size ≤ w.heap.size + 1 + 1; omega) _).setCell (p := ⟨w.heap.size + 1 + 1, 1, none⟩) (by show w.heap.size ≤ w.heap.size + 1 + 1; omega) _).setCell (p := ⟨w.heap.size + 1 + 1, 2, none⟩) (by show w.heap.size ≤ w.heap.size + 1 + 1; omega) _
  ·
    go_enter Tryd.func13, Tryd.ntmps13
    go_upto_region 1 with (fail)
    rw [HW.out]
    go_wp2_with (first | (go_at_call 16; ((with_reducible refine (J.out _).mono ?_); rintro e w3 ⟨rfl, hb3⟩)) | (go_at_call 40; ((with_reducible refine (rtruth_any true _).mono ?_); rintro e w4 ⟨rfl, hb4⟩; have hb34 := hb3.trans (hb4.mono hb3.size); have z0 : w4.cell? ⟨w.heap.size + 1 + 1, 0, none⟩ = some (.int .i64 0) := (B3.out.on hb34 B3.out.lt).at_ 0; have z1 : w4.cell? ⟨w.heap.size + 1 + 1, 1, none⟩ = some (.int .i64 0) := (B3.out.on hb34 B3.out.lt).at_ 1; have z2 : w4.cell? ⟨w.heap.size + 1 + 1, 2, none⟩ = some (.string ⟨#[]⟩) := (B3.out.on hb34 B3.out.lt).at_ 2; have f0 := (B3.out.on hb34 B3.out.lt).free 0; have f1 := (B3.out.on hb34 B3.out.lt).free 1; have f2 := (B3.out.on hb34 B3.out.lt).free 2)))
    refine bodyPost_ret (v := .tuple #[valV (b2 true), .int .i64 0]) (by simp [results, Tryd.results13, go_sem, z0, z1, z2]) rfl ⟨rfl, ?_⟩
    exact (((hB.trans (hb34.mono hB.size)).setCell (p := ⟨w.heap.size + 1 + 1, 0, none⟩) (by show w.heap.size ≤ w.heap.size + 1 + 1; omega) _).setCell (p := ⟨w.heap.size + 1 + 1, 1, none⟩) (by show w.heap.size ≤ w.heap.size + 1 + 1; omega) _).setCell (p := ⟨w.heap.size + 1 + 1, 2, none⟩) (by show w.heap.size ≤ w.heap.size + 1 + 1; omega) _
set_option maxRecDepth 1000000 in
set_option maxHeartbeats 4000000 in
theorem rbin_ne (x y : Vt) (hx : WV x.1 x.2.1 x.2.2) (hy : WV y.1 y.2.1 y.2.2) (w : World) :
    Calls Tryd.prog 13 #[.string ⟨#[33, 61, 61]⟩, valV x, valV y] w fun e w' => e = .returned (.tuple #[valV (b2 (!strictT x y)), .int .i64 0]) ∧ Below w.heap.size w w' := by
  have J := Veil.mk (rstrict_any x y hx hy)
  obtain ⟨W0, hW⟩ : ∃ v, v = tri w x y := ⟨_, rfl⟩
  have hB : Below w.heap.size w W0 := hW ▸ tri_below w x y
  have b1 := tri_x w x y
  have b2' := tri_y w x y
  have b3 := tri_r w x y
  rw [← hW] at b1 b2' b3
  have hw0 := hW.symm
  unfold tri two at hw0
  clear hW
  obtain ⟨r, hr⟩ : ∃ r, r = strictT x y := ⟨_, rfl⟩
  rw [← hr] at J ⊢
  clear hr hx hy
  obtain ⟨xk, xn, xs⟩ := x
  obtain ⟨yk, yn, ys⟩ := y
  simp only at J b1 b2' b3 hw0 ⊢
  have HW := Lib.hid hw0
  clear hw0
  have p0 : W0.cell? ⟨w.heap.size, 0, none⟩ = some (.int .i64 xk) := b1.at_ 0
  have p1 : W0.cell? ⟨w.heap.size, 1, none⟩ = some (.int .i64 xn) := b1.at_ 1
  have p2 : W0.cell? ⟨w.heap.size, 2, none⟩ = some (.string xs) := b1.at_ 2
  have q0 : W0.cell? ⟨w.heap.size + 1, 0, none⟩ = some (.int .i64 yk) := b2'.at_ 0
  have q1 : W0.cell? ⟨w.heap.size + 1, 1, none⟩ = some (.int .i64 yn) := b2'.at_ 1
  have q2 : W0.cell? ⟨w.heap.size + 1, 2, none⟩ = some (.string ys) := b2'.at_ 2
  have B3 := Veil.mk b3
  clear b1 b2' b3
  cases r
  ·
    go_enter Tryd.func13, Tryd.ntmps13
    go_upto_region 1 with (fail)
    rw [HW.out]
    go_wp2_with (first | (go_at_call 16; ((with_reducible refine (J.out _).mono ?_); rintro e w3 ⟨rfl, hb3⟩)) | (go_at_call 40; ((with_reducible refine (rtruth_any true _).mono ?_); rintro e w4 ⟨rfl, hb4⟩; have hb34 := hb3.trans (hb4.mono hb3.size); have z0 : w4.cell? ⟨w.heap.size + 1 + 1, 0, none⟩ = some (.int .i64 0) := (B3.out.on hb34 B3.out.lt).at_ 0; have z1 : w4.cell? ⟨w.heap.size + 1 + 1, 1, none⟩ = some (.int .i64 0) := (B3.out.on hb34 B3.out.lt).at_ 1; have z2 : w4.cell? ⟨w.heap.size + 1 + 1, 2, none⟩ = some (.string ⟨#[]⟩) := (B3.out.on hb34 B3.out.lt).at_ 2; have f0 := (B3.out.on hb34 B3.out.lt).free 0; have f1 := (B3.out.on hb34 B3.out.lt).free 1; have f2 := (B3.out.on hb34 B3.out.lt).free 2)))
    refine bodyPost_ret (v := .tuple #[valV (b2 true), .int .i64 0]) (by simp [results, Tryd.results13, go_sem, z0, z1, z2]) rfl ⟨rfl, ?_⟩
    exact (((hB.trans (hb34.mono hB.size)).setCell (p := ⟨w.heap.size + 1 + 1, 0, none⟩) (by show w.heap.size ≤ w.heap.size + 1 + 1; omega) _).setCell (p := ⟨w.heap.size + 1 + 1, 1, none⟩) (by show w.heap.size ≤ w.heap.size + 1 + 1; omega) _).setCell (p := ⟨w.heap.size + 1 + 1, 2, none⟩) (by show w.heap.size ≤ w.heap.size + 1 + 1; omega) _
  ·
    go_enter Tryd.func13, Tryd.ntmps13
    go_upto_region 1 with (fail)
    rw [HW.out]
    go_wp2_with (first | (go_at_call 16; ((with_reducible refine (J.out _).mono ?_); rintro e w3 ⟨rfl, hb3⟩)) | (go_at_call 40; ((with_reducible refine (rtruth_any false _).mono ?_); rintro e w4 ⟨rfl, hb4⟩; have hb34 := hb3.trans (hb4.mono hb3.size); have z0 : w4.cell? ⟨w.heap.size + 1 + 1, 0, none⟩ = some (.int .i64 0) := (B3.out.on hb34 B3.out.lt).at_ 0; have z1 : w4.cell? ⟨w.heap.size + 1 + 1, 1, none⟩ = some (.int .i64 0) := (B3.out.on hb34 B3.out.lt).at_ 1; have z2 : w4.cell? ⟨w.heap.size + 1 + 1, 2, none⟩ = some (.string ⟨#[]⟩) := (B3.out.on hb34 B3.out.lt).at_ 2; have f0 := (B3.out.on hb34 B3.out.lt).free 0; have f1 := (B3.out.on hb34 B3.out.lt).free 1; have f2 := (B3.out.on hb34 B3.out.lt).free 2)))
    refine bodyPost_ret (v := .tuple #[valV (b2 false), .int .i64 0]) (by simp [results, Tryd.results13, go_sem, z0, z1, z2]) rfl ⟨rfl, ?_⟩
    exact (((hB.trans (hb34.mono hB.size)).setCell (p := ⟨w.heap.size + 1 + 1, 0, none⟩) (by show w.heap.size ≤ w.heap.size + 1 + 1; omega) _).setCell (p := ⟨w.heap.size + 1 + 1, 1, none⟩) (by show w.heap.size ≤ w.heap.size + 1 + 1; omega) _).setCell (p := ⟨w.heap.size + 1 + 1, 2, none⟩) (by show w.heap.size ≤ w.heap.size + 1 + 1; omega) _
set_option maxRecDepth 1000000 in
set_option maxHeartbeats 8000000 in
theorem rbin_join (x y : Vt) (hx : WV x.1 x.2.1 x.2.2) (hy : WV y.1 y.2.1 y.2.2) (h : (x.1 == 7) = true ∨ (x.1 == 7) = false ∧ (y.1 == 7) = true) (w : World) (hT : M.Tb w) :
    Calls Tryd.prog 13 #[.string ⟨#[43]⟩, valV x, valV y] w fun e w' => e = .returned (.tuple #[valV (joinT x y).1, .int .i64 (joinT x y).2]) ∧ Below w.heap.size w w' := by
  have N1 := Veil.mk (fun wx => rtext_any x hx wx)
  have N2 := Veil.mk (fun wx => rtext_any y hy wx)
  have s1 := textT_size hx
  have s2 := textT_size hy
  obtain ⟨W0, hW⟩ : ∃ v, v = tri w x y := ⟨_, rfl⟩
  have hB : Below w.heap.size w W0 := hW ▸ tri_below w x y
  have b1 := tri_x w x y
  have b2' := tri_y w x y
  have b3 := tri_r w x y
  rw [← hW] at b1 b2' b3
  have hw0 := hW.symm
  unfold tri two at hw0
  clear hW
  have HT := Veil.mk (hT.on hB)
  unfold joinT
  clear hx hy hT
  obtain ⟨tx, htx⟩ : ∃ p, p = textT x := ⟨_, rfl⟩
  obtain ⟨ty, hty⟩ : ∃ p, p = textT y := ⟨_, rfl⟩
  rw [← htx] at N1 s1 ⊢
  rw [← hty] at N2 s2 ⊢
  clear htx hty
  obtain ⟨ts, tn⟩ := tx
  obtain ⟨us, un⟩ := ty
  obtain ⟨xk, xn, xs⟩ := x
  obtain ⟨yk, yn, ys⟩ := y
  simp only at h N1 N2 s1 s2 b1 b2' b3 hw0 ⊢
  have HW := Lib.hid hw0
  clear hw0
  have p0 : W0.cell? ⟨w.heap.size, 0, none⟩ = some (.int .i64 xk) := b1.at_ 0
  have p1 : W0.cell? ⟨w.heap.size, 1, none⟩ = some (.int .i64 xn) := b1.at_ 1
  have p2 : W0.cell? ⟨w.heap.size, 2, none⟩ = some (.string xs) := b1.at_ 2
  have q0 : W0.cell? ⟨w.heap.size + 1, 0, none⟩ = some (.int .i64 yk) := b2'.at_ 0
  have q1 : W0.cell? ⟨w.heap.size + 1, 1, none⟩ = some (.int .i64 yn) := b2'.at_ 1
  have q2 : W0.cell? ⟨w.heap.size + 1, 2, none⟩ = some (.string ys) := b2'.at_ 2
  have B2 := Veil.mk b2'
  have B3 := Veil.mk b3
  clear b1 b2' b3
  have m1 : ¬ 9223372036854775807 < ts.size + us.size := by omega
  have m2 : (ts.size : Int) + (us.size : Int) ≤ 131072 := by omega
  have m3 : ¬ (131072 : Int) < (ts.size : Int) + (us.size : Int) := by omega
  by_cases h0 : tn = 0
  case neg =>
    have h0b : (tn != 0) = true := by simpa using h0
    have h0c : (tn == 0) = false := by simpa using h0
    rw [if_neg h0]
    clear h0 N2
    rcases h with h | ⟨h, h'⟩
    ·
      go_enter Tryd.func13, Tryd.ntmps13
      go_upto_region 1 with (fail)
      rw [HW.out]
      go_wp2_with (first | (go_at_call 24; first | ((with_reducible refine (N1.out _ HT.out).mono ?_); rintro e w3 ⟨rfl, hb3⟩; have z0 : w3.cell? ⟨w.heap.size + 1 + 1, 0, none⟩ = some (.int .i64 0) := (B3.out.on hb3 B3.out.lt).at_ 0; have z1 : w3.cell? ⟨w.heap.size + 1 + 1, 1, none⟩ = some (.int .i64 0) := (B3.out.on hb3 B3.out.lt).at_ 1; have z2 : w3.cell? ⟨w.heap.size + 1 + 1, 2, none⟩ = some (.string ⟨#[]⟩) := (B3.out.on hb3 B3.out.lt).at_ 2; have f0 := (B3.out.on hb3 B3.out.lt).free 0; have f1 := (B3.out.on hb3 B3.out.lt).free 1; have f2 := (B3.out.on hb3 B3.out.lt).free 2; have q0 : w3.cell? ⟨w.heap.size + 1, 0, none⟩ = some (.int .i64 yk) := (B2.out.on hb3 B2.out.lt).at_ 0; have q1 : w3.cell? ⟨w.heap.size + 1, 1, none⟩ = some (.int .i64 yn) := (B2.out.on hb3 B2.out.lt).at_ 1; have q2 : w3.cell? ⟨w.heap.size + 1, 2, none⟩ = some (.string ys) := (B2.out.on hb3 B2.out.lt).at_ 2)))
      refine bodyPost_ret (v := .tuple #[W.V 0 0 W.e0, .int .i64 tn]) (by simp [results, Tryd.results13, go_sem, z0, z1, z2]) rfl ⟨rfl, ?_⟩
      exact (((hB.trans (hb3.mono hB.size)).setCell (p := ⟨w.heap.size + 1 + 1, 0, none⟩) (by show w.heap.size ≤ w.heap.size + 1 + 1; omega) _).setCell (p := ⟨w.heap.size + 1 + 1, 1, none⟩) (by show w.heap.size ≤ w.heap.size + 1 + 1; omega) _).setCell (p := ⟨w.heap.size + 1 + 1, 2, none⟩) (by show w.heap.size ≤ w.heap.size + 1 + 1; omega) _
    ·
      go_enter Tryd.func13, Tryd.ntmps13
      go_upto_region 1 with (fail)
      rw [HW.out]
      go_wp2_with (first | (go_at_call 24; first | ((with_reducible refine (N1.out _ HT.out).mono ?_); rintro e w3 ⟨rfl, hb3⟩; have z0 : w3.cell? ⟨w.heap.size + 1 + 1, 0, none⟩ = some (.int .i64 0) := (B3.out.on hb3 B3.out.lt).at_ 0; have z1 : w3.cell? ⟨w.heap.size + 1 + 1, 1, none⟩ = some (.int .i64 0) := (B3.out.on hb3 B3.out.lt).at_ 1; have z2 : w3.cell? ⟨w.heap.size + 1 + 1, 2, none⟩ = some (.string ⟨#[]⟩) := (B3.out.on hb3 B3.out.lt).at_ 2; have f0 := (B3.out.on hb3 B3.out.lt).free 0; have f1 := (B3.out.on hb3 B3.out.lt).free 1; have f2 := (B3.out.on hb3 B3.out.lt).free 2; have q0 : w3.cell? ⟨w.heap.size + 1, 0, none⟩ = some (.int .i64 yk) := (B2.out.on hb3 B2.out.lt).at_ 0; have q1 : w3.cell? ⟨w.heap.size + 1, 1, none⟩ = some (.int .i64 yn) := (B2.out.on hb3 B2.out.lt).at_ 1; have q2 : w3.cell? ⟨w.heap.size + 1, 2, none⟩ = some (.string ys) := (B2.out.on hb3 B2.out.lt).at_ 2)))
      refine bodyPost_ret (v := .tuple #[W.V 0 0 W.e0, .int .i64 tn]) (by simp [results, Tryd.results13, go_sem, z0, z1, z2]) rfl ⟨rfl, ?_⟩
      exact (((hB.trans (hb3.mono hB.size)).setCell (p := ⟨w.heap.size + 1 + 1, 0, none⟩) (by show w.heap.size ≤ w.heap.size + 1 + 1; omega) _).setCell (p := ⟨w.heap.size + 1 + 1, 1, none⟩) (by show w.heap.size ≤ w.heap.size + 1 + 1; omega) _).setCell (p := ⟨w.heap.size + 1 + 1, 2, none⟩) (by show w.heap.size ≤ w.heap.size + 1 + 1; omega) _
  subst h0
  rw [if_pos rfl]
  by_cases h1 : un = 0
  case neg =>
    have h1b : (un != 0) = true := by simpa using h1
    have h1c : (un == 0) = false := by simpa using h1
    rw [if_neg h1]
    clear h1
    rcases h with h | ⟨h, h'⟩
    ·
      go_enter Tryd.func13, Tryd.ntmps13
      go_upto_region 1 with (fail)
      rw [HW.out]
      go_wp2_with (first | (go_at_call 24; first | ((with_reducible refine (N1.out _ HT.out).mono ?_); rintro e w3 ⟨rfl, hb3⟩; have z0 : w3.cell? ⟨w.heap.size + 1 + 1, 0, none⟩ = some (.int .i64 0) := (B3.out.on hb3 B3.out.lt).at_ 0; have z1 : w3.cell? ⟨w.heap.size + 1 + 1, 1, none⟩ = some (.int .i64 0) := (B3.out.on hb3 B3.out.lt).at_ 1; have z2 : w3.cell? ⟨w.heap.size + 1 + 1, 2, none⟩ = some (.string ⟨#[]⟩) := (B3.out.on hb3 B3.out.lt).at_ 2; have f0 := (B3.out.on hb3 B3.out.lt).free 0; have f1 := (B3.out.on hb3 B3.out.lt).free 1; have f2 := (B3.out.on hb3 B3.out.lt).free 2; have q0 : w3.cell? ⟨w.heap.size + 1, 0, none⟩ = some (.int .i64 yk) := (B2.out.on hb3 B2.out.lt).at_ 0; have q1 : w3.cell? ⟨w.heap.size + 1, 1, none⟩ = some (.int .i64 yn) := (B2.out.on hb3 B2.out.lt).at_ 1; have q2 : w3.cell? ⟨w.heap.size + 1, 2, none⟩ = some (.string ys) := (B2.out.on hb3 B2.out.lt).at_ 2) | ((with_reducible refine (N2.out _ (HT.out.on hb3)).mono ?_); rintro e w4 ⟨rfl, hb4⟩; have hb34 := hb3.trans (hb4.mono hb3.size); have z0 : w4.cell? ⟨w.heap.size + 1 + 1, 0, none⟩ = some (.int .i64 0) := (B3.out.on hb34 B3.out.lt).at_ 0; have z1 : w4.cell? ⟨w.heap.size + 1 + 1, 1, none⟩ = some (.int .i64 0) := (B3.out.on hb34 B3.out.lt).at_ 1; have z2 : w4.cell? ⟨w.heap.size + 1 + 1, 2, none⟩ = some (.string ⟨#[]⟩) := (B3.out.on hb34 B3.out.lt).at_ 2; have f0 := (B3.out.on hb34 B3.out.lt).free 0; have f1 := (B3.out.on hb34 B3.out.lt).free 1; have f2 := (B3.out.on hb34 B3.out.lt).free 2)))
      refine bodyPost_ret (v := .tuple #[W.V 0 0 W.e0, .int .i64 un]) (by simp [results, Tryd.results13, go_sem, z0, z1, z2]) rfl ⟨rfl, ?_⟩
      exact (((hB.trans (hb34.mono hB.size)).setCell (p := ⟨w.heap.size + 1 + 1, 0, none⟩) (by show w.heap.size ≤ w.heap.size + 1 + 1; omega) _).setCell (p := ⟨w.heap.size + 1 + 1, 1, none⟩) (by show w.heap.size ≤ w.heap.size + 1 + 1; omega) _).setCell (p := ⟨w.heap.size + 1 + 1, 2, none⟩) (by show w.heap.size ≤ w.heap.size + 1 + 1; omega) _
    ·
      go_enter Tryd.func13, Tryd.ntmps13
      go_upto_region 1 with (fail)
      rw [HW.out]
      go_wp2_with (first | (go_at_call 24; first | ((with_reducible refine (N1.out _ HT.out).mono ?_); rintro e w3 ⟨rfl, hb3⟩; have z0 : w3.cell? ⟨w.heap.size + 1 + 1, 0, none⟩ = some (.int .i64 0) := (B3.out.on hb3 B3.out.lt).at_ 0; have z1 : w3.cell? ⟨w.heap.size + 1 + 1, 1, none⟩ = some (.int .i64 0) := (B3.out.on hb3 B3.out.lt).at_ 1; have z2 : w3.cell? ⟨w.heap.size + 1 + 1, 2, none⟩ = some (.string ⟨#[]⟩) := (B3.out.on hb3 B3.out.lt).at_ 2; have f0 := (B3.out.on hb3 B3.out.lt).free 0; have f1 := (B3.out.on hb3 B3.out.lt).free 1; have f2 := (B3.out.on hb3 B3.out.lt).free 2; have q0 : w3.cell? ⟨w.heap.size + 1, 0, none⟩ = some (.int .i64 yk) := (B2.out.on hb3 B2.out.lt).at_ 0; have q1 : w3.cell? ⟨w.heap.size + 1, 1, none⟩ = some (.int .i64 yn) := (B2.out.on hb3 B2.out.lt).at_ 1; have q2 : w3.cell? ⟨w.heap.size + 1, 2, none⟩ = some (.string ys) := (B2.out.on hb3 B2.out.lt).at_ 2) | ((with_reducible refine (N2.out _ (HT.out.on hb3)).mono ?_); rintro e w4 ⟨rfl, hb4⟩; have hb34 := hb3.trans (hb4.mono hb3.size); have z0 : w4.cell? ⟨w.heap.size + 1 + 1, 0, none⟩ = some (.int .i64 0) := (B3.out.on hb34 B3.out.lt).at_ 0; have z1 : w4.cell? ⟨w.heap.size + 1 + 1, 1, none⟩ = some (.int .i64 0) := (B3.out.on hb34 B3.out.lt).at_ 1; have z2 : w4.cell? ⟨w.heap.size + 1 + 1, 2, none⟩ = some (.string ⟨#[]⟩) := (B3.out.on hb34 B3.out.lt).at_ 2; have f0 := (B3.out.on hb34 B3.out.lt).free 0; have f1 := (B3.out.on hb34 B3.out.lt).free 1; have f2 := (B3.out.on hb34 B3.out.lt).free 2)))
      refine bodyPost_ret (v := .tuple #[W.V 0 0 W.e0, .int .i64 un]) (by simp [results, Tryd.results13, go_sem, z0, z1, z2]) rfl ⟨rfl, ?_⟩
      exact (((hB.trans (hb34.mono hB.size)).setCell (p := ⟨w.heap.size + 1 + 1, 0, none⟩) (by show w.heap.size ≤ w.heap.size + 1 + 1; omega) _).setCell (p := ⟨w.heap.size + 1 + 1, 1, none⟩) (by show w.heap.size ≤ w.heap.size + 1 + 1; omega) _).setCell (p := ⟨w.heap.size + 1 + 1, 2, none⟩) (by show w.heap.size ≤ w.heap.size + 1 + 1; omega) _
  subst h1
  rw [if_pos rfl]
  rcases h with h | ⟨h, h'⟩
  ·
    go_enter Tryd.func13, Tryd.ntmps13
    go_upto_region 1 with (fail)
    rw [HW.out]
    go_wp2_with (first | (go_at_call 24; first | ((with_reducible refine (N1.out _ HT.out).mono ?_); rintro e w3 ⟨rfl, hb3⟩; have z0 : w3.cell? ⟨w.heap.size + 1 + 1, 0, none⟩ = some (.int .i64 0) := (B3.out.on hb3 B3.out.lt).at_ 0; have z1 : w3.cell? ⟨w.heap.size + 1 + 1, 1, none⟩ = some (.int .i64 0) := (B3.out.on hb3 B3.out.lt).at_ 1; have z2 : w3.cell? ⟨w.heap.size + 1 + 1, 2, none⟩ = some (.string ⟨#[]⟩) := (B3.out.on hb3 B3.out.lt).at_ 2; have f0 := (B3.out.on hb3 B3.out.lt).free 0; have f1 := (B3.out.on hb3 B3.out.lt).free 1; have f2 := (B3.out.on hb3 B3.out.lt).free 2; have q0 : w3.cell? ⟨w.heap.size + 1, 0, none⟩ = some (.int .i64 yk) := (B2.out.on hb3 B2.out.lt).at_ 0; have q1 : w3.cell? ⟨w.heap.size + 1, 1, none⟩ = some (.int .i64 yn) := (B2.out.on hb3 B2.out.lt).at_ 1; have q2 : w3.cell? ⟨w.heap.size + 1, 2, none⟩ = some (.string ys) := (B2.out.on hb3 B2.out.lt).at_ 2) | ((with_reducible refine (N2.out _ (HT.out.on hb3)).mono ?_); rintro e w4 ⟨rfl, hb4⟩; have hb34 := hb3.trans (hb4.mono hb3.size); have z0 : w4.cell? ⟨w.heap.size + 1 + 1, 0, none⟩ = some (.int .i64 0) := (B3.out.on hb34 B3.out.lt).at_ 0; have z1 : w4.cell? ⟨w.heap.size + 1 + 1, 1, none⟩ = some (.int .i64 0) := (B3.out.on hb34 B3.out.lt).at_ 1; have z2 : w4.cell? ⟨w.heap.size + 1 + 1, 2, none⟩ = some (.string ⟨#[]⟩) := (B3.out.on hb34 B3.out.lt).at_ 2; have f0 := (B3.out.on hb34 B3.out.lt).free 0; have f1 := (B3.out.on hb34 B3.out.lt).free 1; have f2 := (B3.out.on hb34 B3.out.lt).free 2)))
    refine bodyPost_ret (v := .tuple #[W.V 7 0 (ts ++ us), .int .i64 0]) (by simp [results, Tryd.results13, go_sem, z0, z1, z2]) rfl ⟨rfl, ?_⟩
    exact (((hB.trans (hb34.mono hB.size)).setCell (p := ⟨w.heap.size + 1 + 1, 0, none⟩) (by show w.heap.size ≤ w.heap.size + 1 + 1; omega) _).setCell (p := ⟨w.heap.size + 1 + 1, 1, none⟩) (by show w.heap.size ≤ w.heap.size + 1 + 1; omega) _).setCell (p := ⟨w.heap.size + 1 + 1, 2, none⟩) (by show w.heap.size ≤ w.heap.size + 1 + 1; omega) _
  ·
    go_enter Tryd.func13, Tryd.ntmps13
    go_upto_region 1 with (fail)
    rw [HW.out]
    go_wp2_with (first | (go_at_call 24; first | ((with_reducible refine (N1.out _ HT.out).mono ?_); rintro e w3 ⟨rfl, hb3⟩; have z0 : w3.cell? ⟨w.heap.size + 1 + 1, 0, none⟩ = some (.int .i64 0) := (B3.out.on hb3 B3.out.lt).at_ 0; have z1 : w3.cell? ⟨w.heap.size + 1 + 1, 1, none⟩ = some (.int .i64 0) := (B3.out.on hb3 B3.out.lt).at_ 1; have z2 : w3.cell? ⟨w.heap.size + 1 + 1, 2, none⟩ = some (.string ⟨#[]⟩) := (B3.out.on hb3 B3.out.lt).at_ 2; have f0 := (B3.out.on hb3 B3.out.lt).free 0; have f1 := (B3.out.on hb3 B3.out.lt).free 1; have f2 := (B3.out.on hb3 B3.out.lt).free 2; have q0 : w3.cell? ⟨w.heap.size + 1, 0, none⟩ = some (.int .i64 yk) := (B2.out.on hb3 B2.out.lt).at_ 0; have q1 : w3.cell? ⟨w.heap.size + 1, 1, none⟩ = some (.int .i64 yn) := (B2.out.on hb3 B2.out.lt).at_ 1; have q2 : w3.cell? ⟨w.heap.size + 1, 2, none⟩ = some (.string ys) := (B2.out.on hb3 B2.out.lt).at_ 2) | ((with_reducible refine (N2.out _ (HT.out.on hb3)).mono ?_); rintro e w4 ⟨rfl, hb4⟩; have hb34 := hb3.trans (hb4.mono hb3.size); have z0 : w4.cell? ⟨w.heap.size + 1 + 1, 0, none⟩ = some (.int .i64 0) := (B3.out.on hb34 B3.out.lt).at_ 0; have z1 : w4.cell? ⟨w.heap.size + 1 + 1, 1, none⟩ = some (.int .i64 0) := (B3.out.on hb34 B3.out.lt).at_ 1; have z2 : w4.cell? ⟨w.heap.size + 1 + 1, 2, none⟩ = some (.string ⟨#[]⟩) := (B3.out.on hb34 B3.out.lt).at_ 2; have f0 := (B3.out.on hb34 B3.out.lt).free 0; have f1 := (B3.out.on hb34 B3.out.lt).free 1; have f2 := (B3.out.on hb34 B3.out.lt).free 2)))
    refine bodyPost_ret (v := .tuple #[W.V 7 0 (ts ++ us), .int .i64 0]) (by simp [results, Tryd.results13, go_sem, z0, z1, z2]) rfl ⟨rfl, ?_⟩
    exact (((hB.trans (hb34.mono hB.size)).setCell (p := ⟨w.heap.size + 1 + 1, 0, none⟩) (by show w.heap.size ≤ w.heap.size + 1 + 1; omega) _).setCell (p := ⟨w.heap.size + 1 + 1, 1, none⟩) (by show w.heap.size ≤ w.heap.size + 1 + 1; omega) _).setCell (p := ⟨w.heap.size + 1 + 1, 2, none⟩) (by show w.heap.size ≤ w.heap.size + 1 + 1; omega) _
end Go.Proofs.YtbkgophgclpijaaDoor
namespace Go.Proofs.YtbkgophgclpijaaDoor
open Go Go.RowKit

theorem text_units {n : Int} {s : ByteArray} (h : WV 7 n s) : (∀ u ∈ W.unitsS s, u < 65536) ∧ (W.unitsS s).length ≤ 2000 ∧ s = ⟨((W.unitsS s).flatMap W.u2).toArray⟩ ∧ s.size ≤ 4000 := by
  have hx : ∃ l : List Nat, (∀ u ∈ l, u < 65536) ∧ l.length ≤ 2000 ∧ s = ⟨(l.flatMap W.u2).toArray⟩ := by
    rcases h with ⟨h, _, _⟩ | ⟨h, _, _⟩ | ⟨h, _⟩ | ⟨_, _, h⟩ | ⟨h, _, _, _⟩
    · omega
    · omega
    · rcases h with ⟨h, _⟩ | ⟨h, _⟩ | ⟨h, _⟩ | ⟨h, _⟩ | ⟨h, _⟩ <;> omega
    · exact h
    · omega
  obtain ⟨l, hl, hlen, rfl⟩ := hx
  have e : W.unitsS ⟨(l.flatMap W.u2).toArray⟩ = l := by unfold W.unitsS; exact W.units_flat l hl
  rw [e]
  refine ⟨hl, hlen, rfl, ?_⟩
  show (l.flatMap W.u2).toArray.size ≤ _
  rw [List.size_toArray, W.flat_length]
  omega
theorem text_cmp {n m : Int} {s t : ByteArray} (hs : WV 7 n s) (ht : WV 7 m t) : W.cmpU (W.unitsS s) (W.unitsS t) = Lib.compareBytes s.data.toList t.data.toList := by
  obtain ⟨h1, _, h2, _⟩ := text_units hs
  obtain ⟨h3, _, h4, _⟩ := text_units ht
  rw [← W.cmp_flat _ _ h1 h3]
  conv => rhs; rw [h2, h4]
set_option maxRecDepth 1000000 in
set_option maxHeartbeats 4000000 in
theorem rtexts_lt (x y : Vt) (hx : WV x.1 x.2.1 x.2.2) (hy : WV y.1 y.2.1 y.2.2) (h7 : x.1 = 7 ∧ y.1 = 7) (w : World) :
    Calls Tryd.prog 13 #[.string ⟨#[60]⟩, valV x, valV y] w fun e w' => e = .returned (.tuple #[valV (stR .lt (sgnT x y)).1, .int .i64 (stR .lt (sgnT x y)).2]) ∧ Below w.heap.size w w' := by
  rw [sgn_texts h7]
  obtain ⟨W0, hW⟩ : ∃ v, v = tri w x y := ⟨_, rfl⟩
  have hB : Below w.heap.size w W0 := hW ▸ tri_below w x y
  have b1 := tri_x w x y
  have b2' := tri_y w x y
  have b3 := tri_r w x y
  rw [← hW] at b1 b2' b3
  have hw0 := hW.symm
  unfold tri two at hw0
  clear hW
  obtain ⟨xk, xn, xs⟩ := x
  obtain ⟨yk, yn, ys⟩ := y
  simp only at h7 hx hy b1 b2' b3 hw0 ⊢
  obtain ⟨rfl, rfl⟩ := h7
  have HC := text_cmp hx hy
  obtain ⟨ux, lx, -, zx⟩ := text_units hx
  obtain ⟨uy, ly, -, zy⟩ := text_units hy
  have c3 := cmpB_three xs.data.toList ys.data.toList
  rw [← HC] at c3 ⊢
  have L1 := Veil.mk (W.list_any xs (by omega))
  have L2 := Veil.mk (W.list_any ys (by omega))
  have CM : Veil (∀ a b ca cb wx, W.Nums .i64 wx a (W.unitsS xs).length (W.unitsS xs) → W.Nums .i64 wx b (W.unitsS ys).length (W.unitsS ys) → Calls Tryd.prog 41 #[.slice a (W.unitsS xs).length ca, .slice b (W.unitsS ys).length cb] wx fun e w' => e = .returned (.int .i64 (W.cmpU (W.unitsS xs) (W.unitsS ys))) ∧ Below wx.heap.size wx w') :=
    ⟨fun a b ca cb wx h1 h2 => W.refCompare_any a b _ _ ca cb _ _ (by omega) (by omega) ux uy wx h1 h2⟩
  obtain ⟨l, hl⟩ : ∃ l, l = W.unitsS xs := ⟨_, rfl⟩
  obtain ⟨r, hr⟩ : ∃ l, l = W.unitsS ys := ⟨_, rfl⟩
  rw [← hl] at L1 CM c3 ⊢
  rw [← hr] at L2 CM c3 ⊢
  clear hl hr ux uy lx ly zx zy HC hx hy
  obtain ⟨c, hc⟩ : ∃ c, c = W.cmpU l r := ⟨_, rfl⟩
  rw [← hc] at CM c3 ⊢
  clear hc
  have HW := Lib.hid hw0
  clear hw0
  have p0 : W0.cell? ⟨w.heap.size, 0, none⟩ = some (.int .i64 7) := b1.at_ 0
  have p1 : W0.cell? ⟨w.heap.size, 1, none⟩ = some (.int .i64 xn) := b1.at_ 1
  have p2 : W0.cell? ⟨w.heap.size, 2, none⟩ = some (.string xs) := b1.at_ 2
  have q0 : W0.cell? ⟨w.heap.size + 1, 0, none⟩ = some (.int .i64 7) := b2'.at_ 0
  have q1 : W0.cell? ⟨w.heap.size + 1, 1, none⟩ = some (.int .i64 yn) := b2'.at_ 1
  have q2 : W0.cell? ⟨w.heap.size + 1, 2, none⟩ = some (.string ys) := b2'.at_ 2
  have B3 := Veil.mk b3
  have HS := Veil.mk (And.intro b1 b2')
  clear b1 b2' b3
  go_enter Tryd.func13, Tryd.ntmps13
  go_upto_region 1 with (fail)
  rw [HW.out]
  go_upto_region 16 with (fail)
  go_cut [12] (fun s12 wx => s12 = .int .i64 c ∧ Below W0.heap.size W0 wx)
  case first =>
    go_region_held3 (fun w' => w'.cell? ⟨w.heap.size, 2, none⟩ = some (.string xs) ∧ w'.cell? ⟨w.heap.size + 1, 2, none⟩ = some (.string ys)) (first | (refine (fun (hq : Below W0.heap.size W0 _) => (⟨(HS.out.1.on hq HS.out.1.lt).at_ 2, (HS.out.2.on hq HS.out.2.lt).at_ 2⟩ : _ ∧ _)) ?_; repeat (first | (with_reducible exact Below.refl _ _) | (with_reducible refine Below.drew ?_) | (with_reducible refine M.blw_alloc _ ?_) | (with_reducible refine M.blw_call ?_ hb2) | (with_reducible refine M.blw_call ?_ hb3) | (with_reducible refine M.blw_call ?_ hb4)))) (first | (go_at_call 42; first | ((with_reducible refine (L1.out _).mono ?_); intro e w2 hp; obtain ⟨v, rfl, hown, hb2⟩ := hp; obtain ⟨a2, c2, rfl, hn2⟩ := W.own_nums hown; have H2 := Veil.mk hn2; clear hn2 hown) | ((with_reducible refine (L2.out _).mono ?_); intro e w3 hp; obtain ⟨v, rfl, hown, hb3⟩ := hp; obtain ⟨a3, c3', rfl, hn3⟩ := W.own_nums hown; have H3 := Veil.mk hn3; clear hn3 hown)) | (go_at_call 41; ((with_reducible refine (CM.out _ _ _ _ _ (H2.out.on hb3) H3.out).mono ?_); rintro e w4 ⟨rfl, hb4⟩)))
    go_wp2_with fail
    go_meet
    exact ⟨rfl, by repeat (first | (with_reducible exact Below.refl _ _) | (with_reducible refine Below.drew ?_) | (with_reducible refine M.blw_alloc _ ?_) | (with_reducible refine M.blw_call ?_ hb2) | (with_reducible refine M.blw_call ?_ hb3) | (with_reducible refine M.blw_call ?_ hb4))⟩
  case rest =>
  obtain ⟨rfl, hb6⟩ := hcut
  obtain ⟨w6, hw6⟩ : ∃ v, v = wc := ⟨_, rfl⟩
  rw [← hw6] at hb6 ⊢
  clear hw6
  replace B3 := Veil.mk (B3.out.on hb6 B3.out.lt)
  have HB6 := Veil.mk (hB.trans (hb6.mono hB.size))
  clear hb6 L1 L2 CM HS p0 p1 p2 q0 q1 q2
  rcases c3 with rfl | rfl | rfl
  · go_wp2_with (first | (go_at_call 40; ((with_reducible refine (rtruth_any true _).mono ?_); rintro e w7 ⟨rfl, hb7⟩; have z0 : w7.cell? ⟨w.heap.size + 1 + 1, 0, none⟩ = some (.int .i64 0) := (B3.out.on hb7 B3.out.lt).at_ 0; have z1 : w7.cell? ⟨w.heap.size + 1 + 1, 1, none⟩ = some (.int .i64 0) := (B3.out.on hb7 B3.out.lt).at_ 1; have z2 : w7.cell? ⟨w.heap.size + 1 + 1, 2, none⟩ = some (.string ⟨#[]⟩) := (B3.out.on hb7 B3.out.lt).at_ 2; have f0 := (B3.out.on hb7 B3.out.lt).free 0; have f1 := (B3.out.on hb7 B3.out.lt).free 1; have f2 := (B3.out.on hb7 B3.out.lt).free 2)))
    refine bodyPost_ret (v := .tuple #[valV (b2 true), .int .i64 0]) (by simp [results, Tryd.results13, go_sem, z0, z1, z2]) rfl ⟨rfl, ?_⟩
    exact ((((HB6.out.trans (hb7.mono HB6.out.size))).setCell (p := ⟨w.heap.size + 1 + 1, 0, none⟩) (by show w.heap.size ≤ w.heap.size + 1 + 1; omega) _).setCell (p := ⟨w.heap.size + 1 + 1, 1, none⟩) (by show w.heap.size ≤ w.heap.size + 1 + 1; omega) _).setCell (p := ⟨w.heap.size + 1 + 1, 2, none⟩) (by show w.heap.size ≤ w.heap.size + 1 + 1; omega) _
  · go_wp2_with (first | (go_at_call 40; ((with_reducible refine (rtruth_any false _).mono ?_); rintro e w7 ⟨rfl, hb7⟩; have z0 : w7.cell? ⟨w.heap.size + 1 + 1, 0, none⟩ = some (.int .i64 0) := (B3.out.on hb7 B3.out.lt).at_ 0; have z1 : w7.cell? ⟨w.heap.size + 1 + 1, 1, none⟩ = some (.int .i64 0) := (B3.out.on hb7 B3.out.lt).at_ 1; have z2 : w7.cell? ⟨w.heap.size + 1 + 1, 2, none⟩ = some (.string ⟨#[]⟩) := (B3.out.on hb7 B3.out.lt).at_ 2; have f0 := (B3.out.on hb7 B3.out.lt).free 0; have f1 := (B3.out.on hb7 B3.out.lt).free 1; have f2 := (B3.out.on hb7 B3.out.lt).free 2)))
    refine bodyPost_ret (v := .tuple #[valV (b2 false), .int .i64 0]) (by simp [results, Tryd.results13, go_sem, z0, z1, z2]) rfl ⟨rfl, ?_⟩
    exact ((((HB6.out.trans (hb7.mono HB6.out.size))).setCell (p := ⟨w.heap.size + 1 + 1, 0, none⟩) (by show w.heap.size ≤ w.heap.size + 1 + 1; omega) _).setCell (p := ⟨w.heap.size + 1 + 1, 1, none⟩) (by show w.heap.size ≤ w.heap.size + 1 + 1; omega) _).setCell (p := ⟨w.heap.size + 1 + 1, 2, none⟩) (by show w.heap.size ≤ w.heap.size + 1 + 1; omega) _
  · go_wp2_with (first | (go_at_call 40; ((with_reducible refine (rtruth_any false _).mono ?_); rintro e w7 ⟨rfl, hb7⟩; have z0 : w7.cell? ⟨w.heap.size + 1 + 1, 0, none⟩ = some (.int .i64 0) := (B3.out.on hb7 B3.out.lt).at_ 0; have z1 : w7.cell? ⟨w.heap.size + 1 + 1, 1, none⟩ = some (.int .i64 0) := (B3.out.on hb7 B3.out.lt).at_ 1; have z2 : w7.cell? ⟨w.heap.size + 1 + 1, 2, none⟩ = some (.string ⟨#[]⟩) := (B3.out.on hb7 B3.out.lt).at_ 2; have f0 := (B3.out.on hb7 B3.out.lt).free 0; have f1 := (B3.out.on hb7 B3.out.lt).free 1; have f2 := (B3.out.on hb7 B3.out.lt).free 2)))
    refine bodyPost_ret (v := .tuple #[valV (b2 false), .int .i64 0]) (by simp [results, Tryd.results13, go_sem, z0, z1, z2]) rfl ⟨rfl, ?_⟩
    exact ((((HB6.out.trans (hb7.mono HB6.out.size))).setCell (p := ⟨w.heap.size + 1 + 1, 0, none⟩) (by show w.heap.size ≤ w.heap.size + 1 + 1; omega) _).setCell (p := ⟨w.heap.size + 1 + 1, 1, none⟩) (by show w.heap.size ≤ w.heap.size + 1 + 1; omega) _).setCell (p := ⟨w.heap.size + 1 + 1, 2, none⟩) (by show w.heap.size ≤ w.heap.size + 1 + 1; omega) _
set_option maxRecDepth 1000000 in
set_option maxHeartbeats 4000000 in
theorem rtexts_gt (x y : Vt) (hx : WV x.1 x.2.1 x.2.2) (hy : WV y.1 y.2.1 y.2.2) (h7 : x.1 = 7 ∧ y.1 = 7) (w : World) :
    Calls Tryd.prog 13 #[.string ⟨#[62]⟩, valV x, valV y] w fun e w' => e = .returned (.tuple #[valV (stR .gt (sgnT x y)).1, .int .i64 (stR .gt (sgnT x y)).2]) ∧ Below w.heap.size w w' := by
  rw [sgn_texts h7]
  obtain ⟨W0, hW⟩ : ∃ v, v = tri w x y := ⟨_, rfl⟩
  have hB : Below w.heap.size w W0 := hW ▸ tri_below w x y
  have b1 := tri_x w x y
  have b2' := tri_y w x y
  have b3 := tri_r w x y
  rw [← hW] at b1 b2' b3
  have hw0 := hW.symm
  unfold tri two at hw0
  clear hW
  obtain ⟨xk, xn, xs⟩ := x
  obtain ⟨yk, yn, ys⟩ := y
  simp only at h7 hx hy b1 b2' b3 hw0 ⊢
  obtain ⟨rfl, rfl⟩ := h7
  have HC := text_cmp hx hy
  obtain ⟨ux, lx, -, zx⟩ := text_units hx
  obtain ⟨uy, ly, -, zy⟩ := text_units hy
  have c3 := cmpB_three xs.data.toList ys.data.toList
  rw [← HC] at c3 ⊢
  have L1 := Veil.mk (W.list_any xs (by omega))
  have L2 := Veil.mk (W.list_any ys (by omega))
  have CM : Veil (∀ a b ca cb wx, W.Nums .i64 wx a (W.unitsS xs).length (W.unitsS xs) → W.Nums .i64 wx b (W.unitsS ys).length (W.unitsS ys) → Calls Tryd.prog 41 #[.slice a (W.unitsS xs).length ca, .slice b (W.unitsS ys).length cb] wx fun e w' => e = .returned (.int .i64 (W.cmpU (W.unitsS xs) (W.unitsS ys))) ∧ Below wx.heap.size wx w') :=
    ⟨fun a b ca cb wx h1 h2 => W.refCompare_any a b _ _ ca cb _ _ (by omega) (by omega) ux uy wx h1 h2⟩
  obtain ⟨l, hl⟩ : ∃ l, l = W.unitsS xs := ⟨_, rfl⟩
  obtain ⟨r, hr⟩ : ∃ l, l = W.unitsS ys := ⟨_, rfl⟩
  rw [← hl] at L1 CM c3 ⊢
  rw [← hr] at L2 CM c3 ⊢
  clear hl hr ux uy lx ly zx zy HC hx hy
  obtain ⟨c, hc⟩ : ∃ c, c = W.cmpU l r := ⟨_, rfl⟩
  rw [← hc] at CM c3 ⊢
  clear hc
  have HW := Lib.hid hw0
  clear hw0
  have p0 : W0.cell? ⟨w.heap.size, 0, none⟩ = some (.int .i64 7) := b1.at_ 0
  have p1 : W0.cell? ⟨w.heap.size, 1, none⟩ = some (.int .i64 xn) := b1.at_ 1
  have p2 : W0.cell? ⟨w.heap.size, 2, none⟩ = some (.string xs) := b1.at_ 2
  have q0 : W0.cell? ⟨w.heap.size + 1, 0, none⟩ = some (.int .i64 7) := b2'.at_ 0
  have q1 : W0.cell? ⟨w.heap.size + 1, 1, none⟩ = some (.int .i64 yn) := b2'.at_ 1
  have q2 : W0.cell? ⟨w.heap.size + 1, 2, none⟩ = some (.string ys) := b2'.at_ 2
  have B3 := Veil.mk b3
  have HS := Veil.mk (And.intro b1 b2')
  clear b1 b2' b3
  go_enter Tryd.func13, Tryd.ntmps13
  go_upto_region 1 with (fail)
  rw [HW.out]
  go_upto_region 16 with (fail)
  go_cut [12] (fun s12 wx => s12 = .int .i64 c ∧ Below W0.heap.size W0 wx)
  case first =>
    go_region_held3 (fun w' => w'.cell? ⟨w.heap.size, 2, none⟩ = some (.string xs) ∧ w'.cell? ⟨w.heap.size + 1, 2, none⟩ = some (.string ys)) (first | (refine (fun (hq : Below W0.heap.size W0 _) => (⟨(HS.out.1.on hq HS.out.1.lt).at_ 2, (HS.out.2.on hq HS.out.2.lt).at_ 2⟩ : _ ∧ _)) ?_; repeat (first | (with_reducible exact Below.refl _ _) | (with_reducible refine Below.drew ?_) | (with_reducible refine M.blw_alloc _ ?_) | (with_reducible refine M.blw_call ?_ hb2) | (with_reducible refine M.blw_call ?_ hb3) | (with_reducible refine M.blw_call ?_ hb4)))) (first | (go_at_call 42; first | ((with_reducible refine (L1.out _).mono ?_); intro e w2 hp; obtain ⟨v, rfl, hown, hb2⟩ := hp; obtain ⟨a2, c2, rfl, hn2⟩ := W.own_nums hown; have H2 := Veil.mk hn2; clear hn2 hown) | ((with_reducible refine (L2.out _).mono ?_); intro e w3 hp; obtain ⟨v, rfl, hown, hb3⟩ := hp; obtain ⟨a3, c3', rfl, hn3⟩ := W.own_nums hown; have H3 := Veil.mk hn3; clear hn3 hown)) | (go_at_call 41; ((with_reducible refine (CM.out _ _ _ _ _ (H2.out.on hb3) H3.out).mono ?_); rintro e w4 ⟨rfl, hb4⟩)))
    go_wp2_with fail
    go_meet
    exact ⟨rfl, by repeat (first | (with_reducible exact Below.refl _ _) | (with_reducible refine Below.drew ?_) | (with_reducible refine M.blw_alloc _ ?_) | (with_reducible refine M.blw_call ?_ hb2) | (with_reducible refine M.blw_call ?_ hb3) | (with_reducible refine M.blw_call ?_ hb4))⟩
  case rest =>
  obtain ⟨rfl, hb6⟩ := hcut
  obtain ⟨w6, hw6⟩ : ∃ v, v = wc := ⟨_, rfl⟩
  rw [← hw6] at hb6 ⊢
  clear hw6
  replace B3 := Veil.mk (B3.out.on hb6 B3.out.lt)
  have HB6 := Veil.mk (hB.trans (hb6.mono hB.size))
  clear hb6 L1 L2 CM HS p0 p1 p2 q0 q1 q2
  rcases c3 with rfl | rfl | rfl
  · go_wp2_with (first | (go_at_call 40; ((with_reducible refine (rtruth_any false _).mono ?_); rintro e w7 ⟨rfl, hb7⟩; have z0 : w7.cell? ⟨w.heap.size + 1 + 1, 0, none⟩ = some (.int .i64 0) := (B3.out.on hb7 B3.out.lt).at_ 0; have z1 : w7.cell? ⟨w.heap.size + 1 + 1, 1, none⟩ = some (.int .i64 0) := (B3.out.on hb7 B3.out.lt).at_ 1; have z2 : w7.cell? ⟨w.heap.size + 1 + 1, 2, none⟩ = some (.string ⟨#[]⟩) := (B3.out.on hb7 B3.out.lt).at_ 2; have f0 := (B3.out.on hb7 B3.out.lt).free 0; have f1 := (B3.out.on hb7 B3.out.lt).free 1; have f2 := (B3.out.on hb7 B3.out.lt).free 2)))
    refine bodyPost_ret (v := .tuple #[valV (b2 false), .int .i64 0]) (by simp [results, Tryd.results13, go_sem, z0, z1, z2]) rfl ⟨rfl, ?_⟩
    exact ((((HB6.out.trans (hb7.mono HB6.out.size))).setCell (p := ⟨w.heap.size + 1 + 1, 0, none⟩) (by show w.heap.size ≤ w.heap.size + 1 + 1; omega) _).setCell (p := ⟨w.heap.size + 1 + 1, 1, none⟩) (by show w.heap.size ≤ w.heap.size + 1 + 1; omega) _).setCell (p := ⟨w.heap.size + 1 + 1, 2, none⟩) (by show w.heap.size ≤ w.heap.size + 1 + 1; omega) _
  · go_wp2_with (first | (go_at_call 40; ((with_reducible refine (rtruth_any false _).mono ?_); rintro e w7 ⟨rfl, hb7⟩; have z0 : w7.cell? ⟨w.heap.size + 1 + 1, 0, none⟩ = some (.int .i64 0) := (B3.out.on hb7 B3.out.lt).at_ 0; have z1 : w7.cell? ⟨w.heap.size + 1 + 1, 1, none⟩ = some (.int .i64 0) := (B3.out.on hb7 B3.out.lt).at_ 1; have z2 : w7.cell? ⟨w.heap.size + 1 + 1, 2, none⟩ = some (.string ⟨#[]⟩) := (B3.out.on hb7 B3.out.lt).at_ 2; have f0 := (B3.out.on hb7 B3.out.lt).free 0; have f1 := (B3.out.on hb7 B3.out.lt).free 1; have f2 := (B3.out.on hb7 B3.out.lt).free 2)))
    refine bodyPost_ret (v := .tuple #[valV (b2 false), .int .i64 0]) (by simp [results, Tryd.results13, go_sem, z0, z1, z2]) rfl ⟨rfl, ?_⟩
    exact ((((HB6.out.trans (hb7.mono HB6.out.size))).setCell (p := ⟨w.heap.size + 1 + 1, 0, none⟩) (by show w.heap.size ≤ w.heap.size + 1 + 1; omega) _).setCell (p := ⟨w.heap.size + 1 + 1, 1, none⟩) (by show w.heap.size ≤ w.heap.size + 1 + 1; omega) _).setCell (p := ⟨w.heap.size + 1 + 1, 2, none⟩) (by show w.heap.size ≤ w.heap.size + 1 + 1; omega) _
  · go_wp2_with (first | (go_at_call 40; ((with_reducible refine (rtruth_any true _).mono ?_); rintro e w7 ⟨rfl, hb7⟩; have z0 : w7.cell? ⟨w.heap.size + 1 + 1, 0, none⟩ = some (.int .i64 0) := (B3.out.on hb7 B3.out.lt).at_ 0; have z1 : w7.cell? ⟨w.heap.size + 1 + 1, 1, none⟩ = some (.int .i64 0) := (B3.out.on hb7 B3.out.lt).at_ 1; have z2 : w7.cell? ⟨w.heap.size + 1 + 1, 2, none⟩ = some (.string ⟨#[]⟩) := (B3.out.on hb7 B3.out.lt).at_ 2; have f0 := (B3.out.on hb7 B3.out.lt).free 0; have f1 := (B3.out.on hb7 B3.out.lt).free 1; have f2 := (B3.out.on hb7 B3.out.lt).free 2)))
    refine bodyPost_ret (v := .tuple #[valV (b2 true), .int .i64 0]) (by simp [results, Tryd.results13, go_sem, z0, z1, z2]) rfl ⟨rfl, ?_⟩
    exact ((((HB6.out.trans (hb7.mono HB6.out.size))).setCell (p := ⟨w.heap.size + 1 + 1, 0, none⟩) (by show w.heap.size ≤ w.heap.size + 1 + 1; omega) _).setCell (p := ⟨w.heap.size + 1 + 1, 1, none⟩) (by show w.heap.size ≤ w.heap.size + 1 + 1; omega) _).setCell (p := ⟨w.heap.size + 1 + 1, 2, none⟩) (by show w.heap.size ≤ w.heap.size + 1 + 1; omega) _
set_option maxRecDepth 1000000 in
set_option maxHeartbeats 4000000 in
theorem rtexts_le (x y : Vt) (hx : WV x.1 x.2.1 x.2.2) (hy : WV y.1 y.2.1 y.2.2) (h7 : x.1 = 7 ∧ y.1 = 7) (w : World) :
    Calls Tryd.prog 13 #[.string ⟨#[60, 61]⟩, valV x, valV y] w fun e w' => e = .returned (.tuple #[valV (stR .le (sgnT x y)).1, .int .i64 (stR .le (sgnT x y)).2]) ∧ Below w.heap.size w w' := by
  rw [sgn_texts h7]
  obtain ⟨W0, hW⟩ : ∃ v, v = tri w x y := ⟨_, rfl⟩
  have hB : Below w.heap.size w W0 := hW ▸ tri_below w x y
  have b1 := tri_x w x y
  have b2' := tri_y w x y
  have b3 := tri_r w x y
  rw [← hW] at b1 b2' b3
  have hw0 := hW.symm
  unfold tri two at hw0
  clear hW
  obtain ⟨xk, xn, xs⟩ := x
  obtain ⟨yk, yn, ys⟩ := y
  simp only at h7 hx hy b1 b2' b3 hw0 ⊢
  obtain ⟨rfl, rfl⟩ := h7
  have HC := text_cmp hx hy
  obtain ⟨ux, lx, -, zx⟩ := text_units hx
  obtain ⟨uy, ly, -, zy⟩ := text_units hy
  have c3 := cmpB_three xs.data.toList ys.data.toList
  rw [← HC] at c3 ⊢
  have L1 := Veil.mk (W.list_any xs (by omega))
  have L2 := Veil.mk (W.list_any ys (by omega))
  have CM : Veil (∀ a b ca cb wx, W.Nums .i64 wx a (W.unitsS xs).length (W.unitsS xs) → W.Nums .i64 wx b (W.unitsS ys).length (W.unitsS ys) → Calls Tryd.prog 41 #[.slice a (W.unitsS xs).length ca, .slice b (W.unitsS ys).length cb] wx fun e w' => e = .returned (.int .i64 (W.cmpU (W.unitsS xs) (W.unitsS ys))) ∧ Below wx.heap.size wx w') :=
    ⟨fun a b ca cb wx h1 h2 => W.refCompare_any a b _ _ ca cb _ _ (by omega) (by omega) ux uy wx h1 h2⟩
  obtain ⟨l, hl⟩ : ∃ l, l = W.unitsS xs := ⟨_, rfl⟩
  obtain ⟨r, hr⟩ : ∃ l, l = W.unitsS ys := ⟨_, rfl⟩
  rw [← hl] at L1 CM c3 ⊢
  rw [← hr] at L2 CM c3 ⊢
  clear hl hr ux uy lx ly zx zy HC hx hy
  obtain ⟨c, hc⟩ : ∃ c, c = W.cmpU l r := ⟨_, rfl⟩
  rw [← hc] at CM c3 ⊢
  clear hc
  have HW := Lib.hid hw0
  clear hw0
  have p0 : W0.cell? ⟨w.heap.size, 0, none⟩ = some (.int .i64 7) := b1.at_ 0
  have p1 : W0.cell? ⟨w.heap.size, 1, none⟩ = some (.int .i64 xn) := b1.at_ 1
  have p2 : W0.cell? ⟨w.heap.size, 2, none⟩ = some (.string xs) := b1.at_ 2
  have q0 : W0.cell? ⟨w.heap.size + 1, 0, none⟩ = some (.int .i64 7) := b2'.at_ 0
  have q1 : W0.cell? ⟨w.heap.size + 1, 1, none⟩ = some (.int .i64 yn) := b2'.at_ 1
  have q2 : W0.cell? ⟨w.heap.size + 1, 2, none⟩ = some (.string ys) := b2'.at_ 2
  have B3 := Veil.mk b3
  have HS := Veil.mk (And.intro b1 b2')
  clear b1 b2' b3
  go_enter Tryd.func13, Tryd.ntmps13
  go_upto_region 1 with (fail)
  rw [HW.out]
  go_upto_region 16 with (fail)
  go_cut [12] (fun s12 wx => s12 = .int .i64 c ∧ Below W0.heap.size W0 wx)
  case first =>
    go_region_held3 (fun w' => w'.cell? ⟨w.heap.size, 2, none⟩ = some (.string xs) ∧ w'.cell? ⟨w.heap.size + 1, 2, none⟩ = some (.string ys)) (first | (refine (fun (hq : Below W0.heap.size W0 _) => (⟨(HS.out.1.on hq HS.out.1.lt).at_ 2, (HS.out.2.on hq HS.out.2.lt).at_ 2⟩ : _ ∧ _)) ?_; repeat (first | (with_reducible exact Below.refl _ _) | (with_reducible refine Below.drew ?_) | (with_reducible refine M.blw_alloc _ ?_) | (with_reducible refine M.blw_call ?_ hb2) | (with_reducible refine M.blw_call ?_ hb3) | (with_reducible refine M.blw_call ?_ hb4)))) (first | (go_at_call 42; first | ((with_reducible refine (L1.out _).mono ?_); intro e w2 hp; obtain ⟨v, rfl, hown, hb2⟩ := hp; obtain ⟨a2, c2, rfl, hn2⟩ := W.own_nums hown; have H2 := Veil.mk hn2; clear hn2 hown) | ((with_reducible refine (L2.out _).mono ?_); intro e w3 hp; obtain ⟨v, rfl, hown, hb3⟩ := hp; obtain ⟨a3, c3', rfl, hn3⟩ := W.own_nums hown; have H3 := Veil.mk hn3; clear hn3 hown)) | (go_at_call 41; ((with_reducible refine (CM.out _ _ _ _ _ (H2.out.on hb3) H3.out).mono ?_); rintro e w4 ⟨rfl, hb4⟩)))
    go_wp2_with fail
    go_meet
    exact ⟨rfl, by repeat (first | (with_reducible exact Below.refl _ _) | (with_reducible refine Below.drew ?_) | (with_reducible refine M.blw_alloc _ ?_) | (with_reducible refine M.blw_call ?_ hb2) | (with_reducible refine M.blw_call ?_ hb3) | (with_reducible refine M.blw_call ?_ hb4))⟩
  case rest =>
  obtain ⟨rfl, hb6⟩ := hcut
  obtain ⟨w6, hw6⟩ : ∃ v, v = wc := ⟨_, rfl⟩
  rw [← hw6] at hb6 ⊢
  clear hw6
  replace B3 := Veil.mk (B3.out.on hb6 B3.out.lt)
  have HB6 := Veil.mk (hB.trans (hb6.mono hB.size))
  clear hb6 L1 L2 CM HS p0 p1 p2 q0 q1 q2
  rcases c3 with rfl | rfl | rfl
  · go_wp2_with (first | (go_at_call 40; ((with_reducible refine (rtruth_any true _).mono ?_); rintro e w7 ⟨rfl, hb7⟩; have z0 : w7.cell? ⟨w.heap.size + 1 + 1, 0, none⟩ = some (.int .i64 0) := (B3.out.on hb7 B3.out.lt).at_ 0; have z1 : w7.cell? ⟨w.heap.size + 1 + 1, 1, none⟩ = some (.int .i64 0) := (B3.out.on hb7 B3.out.lt).at_ 1; have z2 : w7.cell? ⟨w.heap.size + 1 + 1, 2, none⟩ = some (.string ⟨#[]⟩) := (B3.out.on hb7 B3.out.lt).at_ 2; have f0 := (B3.out.on hb7 B3.out.lt).free 0; have f1 := (B3.out.on hb7 B3.out.lt).free 1; have f2 := (B3.out.on hb7 B3.out.lt).free 2)))
    refine bodyPost_ret (v := .tuple #[valV (b2 true), .int .i64 0]) (by simp [results, Tryd.results13, go_sem, z0, z1, z2]) rfl ⟨rfl, ?_⟩
    exact ((((HB6.out.trans (hb7.mono HB6.out.size))).setCell (p := ⟨w.heap.size + 1 + 1, 0, none⟩) (by show w.heap.size ≤ w.heap.size + 1 + 1; omega) _).setCell (p := ⟨w.heap.size + 1 + 1, 1, none⟩) (by show w.heap.size ≤ w.heap.size + 1 + 1; omega) _).setCell (p := ⟨w.heap.size + 1 + 1, 2, none⟩) (by show w.heap.size ≤ w.heap.size + 1 + 1; omega) _
  · go_wp2_with (first | (go_at_call 40; ((with_reducible refine (rtruth_any true _).mono ?_); rintro e w7 ⟨rfl, hb7⟩; have z0 : w7.cell? ⟨w.heap.size + 1 + 1, 0, none⟩ = some (.int .i64 0) := (B3.out.on hb7 B3.out.lt).at_ 0; have z1 : w7.cell? ⟨w.heap.size + 1 + 1, 1, none⟩ = some (.int .i64 0) := (B3.out.on hb7 B3.out.lt).at_ 1; have z2 : w7.cell? ⟨w.heap.size + 1 + 1, 2, none⟩ = some (.string ⟨#[]⟩) := (B3.out.on hb7 B3.out.lt).at_ 2; have f0 := (B3.out.on hb7 B3.out.lt).free 0; have f1 := (B3.out.on hb7 B3.out.lt).free 1; have f2 := (B3.out.on hb7 B3.out.lt).free 2)))
    refine bodyPost_ret (v := .tuple #[valV (b2 true), .int .i64 0]) (by simp [results, Tryd.results13, go_sem, z0, z1, z2]) rfl ⟨rfl, ?_⟩
    exact ((((HB6.out.trans (hb7.mono HB6.out.size))).setCell (p := ⟨w.heap.size + 1 + 1, 0, none⟩) (by show w.heap.size ≤ w.heap.size + 1 + 1; omega) _).setCell (p := ⟨w.heap.size + 1 + 1, 1, none⟩) (by show w.heap.size ≤ w.heap.size + 1 + 1; omega) _).setCell (p := ⟨w.heap.size + 1 + 1, 2, none⟩) (by show w.heap.size ≤ w.heap.size + 1 + 1; omega) _
  · go_wp2_with (first | (go_at_call 40; ((with_reducible refine (rtruth_any false _).mono ?_); rintro e w7 ⟨rfl, hb7⟩; have z0 : w7.cell? ⟨w.heap.size + 1 + 1, 0, none⟩ = some (.int .i64 0) := (B3.out.on hb7 B3.out.lt).at_ 0; have z1 : w7.cell? ⟨w.heap.size + 1 + 1, 1, none⟩ = some (.int .i64 0) := (B3.out.on hb7 B3.out.lt).at_ 1; have z2 : w7.cell? ⟨w.heap.size + 1 + 1, 2, none⟩ = some (.string ⟨#[]⟩) := (B3.out.on hb7 B3.out.lt).at_ 2; have f0 := (B3.out.on hb7 B3.out.lt).free 0; have f1 := (B3.out.on hb7 B3.out.lt).free 1; have f2 := (B3.out.on hb7 B3.out.lt).free 2)))
    refine bodyPost_ret (v := .tuple #[valV (b2 false), .int .i64 0]) (by simp [results, Tryd.results13, go_sem, z0, z1, z2]) rfl ⟨rfl, ?_⟩
    exact ((((HB6.out.trans (hb7.mono HB6.out.size))).setCell (p := ⟨w.heap.size + 1 + 1, 0, none⟩) (by show w.heap.size ≤ w.heap.size + 1 + 1; omega) _).setCell (p := ⟨w.heap.size + 1 + 1, 1, none⟩) (by show w.heap.size ≤ w.heap.size + 1 + 1; omega) _).setCell (p := ⟨w.heap.size + 1 + 1, 2, none⟩) (by show w.heap.size ≤ w.heap.size + 1 + 1; omega) _
set_option maxRecDepth 1000000 in
set_option maxHeartbeats 4000000 in
theorem rtexts_ge (x y : Vt) (hx : WV x.1 x.2.1 x.2.2) (hy : WV y.1 y.2.1 y.2.2) (h7 : x.1 = 7 ∧ y.1 = 7) (w : World) :
    Calls Tryd.prog 13 #[.string ⟨#[62, 61]⟩, valV x, valV y] w fun e w' => e = .returned (.tuple #[valV (stR .ge (sgnT x y)).1, .int .i64 (stR .ge (sgnT x y)).2]) ∧ Below w.heap.size w w' := by
  rw [sgn_texts h7]
  obtain ⟨W0, hW⟩ : ∃ v, v = tri w x y := ⟨_, rfl⟩
  have hB : Below w.heap.size w W0 := hW ▸ tri_below w x y
  have b1 := tri_x w x y
  have b2' := tri_y w x y
  have b3 := tri_r w x y
  rw [← hW] at b1 b2' b3
  have hw0 := hW.symm
  unfold tri two at hw0
  clear hW
  obtain ⟨xk, xn, xs⟩ := x
  obtain ⟨yk, yn, ys⟩ := y
  simp only at h7 hx hy b1 b2' b3 hw0 ⊢
  obtain ⟨rfl, rfl⟩ := h7
  have HC := text_cmp hx hy
  obtain ⟨ux, lx, -, zx⟩ := text_units hx
  obtain ⟨uy, ly, -, zy⟩ := text_units hy
  have c3 := cmpB_three xs.data.toList ys.data.toList
  rw [← HC] at c3 ⊢
  have L1 := Veil.mk (W.list_any xs (by omega))
  have L2 := Veil.mk (W.list_any ys (by omega))
  have CM : Veil (∀ a b ca cb wx, W.Nums .i64 wx a (W.unitsS xs).length (W.unitsS xs) → W.Nums .i64 wx b (W.unitsS ys).length (W.unitsS ys) → Calls Tryd.prog 41 #[.slice a (W.unitsS xs).length ca, .slice b (W.unitsS ys).length cb] wx fun e w' => e = .returned (.int .i64 (W.cmpU (W.unitsS xs) (W.unitsS ys))) ∧ Below wx.heap.size wx w') :=
    ⟨fun a b ca cb wx h1 h2 => W.refCompare_any a b _ _ ca cb _ _ (by omega) (by omega) ux uy wx h1 h2⟩
  obtain ⟨l, hl⟩ : ∃ l, l = W.unitsS xs := ⟨_, rfl⟩
  obtain ⟨r, hr⟩ : ∃ l, l = W.unitsS ys := ⟨_, rfl⟩
  rw [← hl] at L1 CM c3 ⊢
  rw [← hr] at L2 CM c3 ⊢
  clear hl hr ux uy lx ly zx zy HC hx hy
  obtain ⟨c, hc⟩ : ∃ c, c = W.cmpU l r := ⟨_, rfl⟩
  rw [← hc] at CM c3 ⊢
  clear hc
  have HW := Lib.hid hw0
  clear hw0
  have p0 : W0.cell? ⟨w.heap.size, 0, none⟩ = some (.int .i64 7) := b1.at_ 0
  have p1 : W0.cell? ⟨w.heap.size, 1, none⟩ = some (.int .i64 xn) := b1.at_ 1
  have p2 : W0.cell? ⟨w.heap.size, 2, none⟩ = some (.string xs) := b1.at_ 2
  have q0 : W0.cell? ⟨w.heap.size + 1, 0, none⟩ = some (.int .i64 7) := b2'.at_ 0
  have q1 : W0.cell? ⟨w.heap.size + 1, 1, none⟩ = some (.int .i64 yn) := b2'.at_ 1
  have q2 : W0.cell? ⟨w.heap.size + 1, 2, none⟩ = some (.string ys) := b2'.at_ 2
  have B3 := Veil.mk b3
  have HS := Veil.mk (And.intro b1 b2')
  clear b1 b2' b3
  go_enter Tryd.func13, Tryd.ntmps13
  go_upto_region 1 with (fail)
  rw [HW.out]
  go_upto_region 16 with (fail)
  go_cut [12] (fun s12 wx => s12 = .int .i64 c ∧ Below W0.heap.size W0 wx)
  case first =>
    go_region_held3 (fun w' => w'.cell? ⟨w.heap.size, 2, none⟩ = some (.string xs) ∧ w'.cell? ⟨w.heap.size + 1, 2, none⟩ = some (.string ys)) (first | (refine (fun (hq : Below W0.heap.size W0 _) => (⟨(HS.out.1.on hq HS.out.1.lt).at_ 2, (HS.out.2.on hq HS.out.2.lt).at_ 2⟩ : _ ∧ _)) ?_; repeat (first | (with_reducible exact Below.refl _ _) | (with_reducible refine Below.drew ?_) | (with_reducible refine M.blw_alloc _ ?_) | (with_reducible refine M.blw_call ?_ hb2) | (with_reducible refine M.blw_call ?_ hb3) | (with_reducible refine M.blw_call ?_ hb4)))) (first | (go_at_call 42; first | ((with_reducible refine (L1.out _).mono ?_); intro e w2 hp; obtain ⟨v, rfl, hown, hb2⟩ := hp; obtain ⟨a2, c2, rfl, hn2⟩ := W.own_nums hown; have H2 := Veil.mk hn2; clear hn2 hown) | ((with_reducible refine (L2.out _).mono ?_); intro e w3 hp; obtain ⟨v, rfl, hown, hb3⟩ := hp; obtain ⟨a3, c3', rfl, hn3⟩ := W.own_nums hown; have H3 := Veil.mk hn3; clear hn3 hown)) | (go_at_call 41; ((with_reducible refine (CM.out _ _ _ _ _ (H2.out.on hb3) H3.out).mono ?_); rintro e w4 ⟨rfl, hb4⟩)))
    go_wp2_with fail
    go_meet
    exact ⟨rfl, by repeat (first | (with_reducible exact Below.refl _ _) | (with_reducible refine Below.drew ?_) | (with_reducible refine M.blw_alloc _ ?_) | (with_reducible refine M.blw_call ?_ hb2) | (with_reducible refine M.blw_call ?_ hb3) | (with_reducible refine M.blw_call ?_ hb4))⟩
  case rest =>
  obtain ⟨rfl, hb6⟩ := hcut
  obtain ⟨w6, hw6⟩ : ∃ v, v = wc := ⟨_, rfl⟩
  rw [← hw6] at hb6 ⊢
  clear hw6
  replace B3 := Veil.mk (B3.out.on hb6 B3.out.lt)
  have HB6 := Veil.mk (hB.trans (hb6.mono hB.size))
  clear hb6 L1 L2 CM HS p0 p1 p2 q0 q1 q2
  rcases c3 with rfl | rfl | rfl
  · go_wp2_with (first | (go_at_call 40; ((with_reducible refine (rtruth_any false _).mono ?_); rintro e w7 ⟨rfl, hb7⟩; have z0 : w7.cell? ⟨w.heap.size + 1 + 1, 0, none⟩ = some (.int .i64 0) := (B3.out.on hb7 B3.out.lt).at_ 0; have z1 : w7.cell? ⟨w.heap.size + 1 + 1, 1, none⟩ = some (.int .i64 0) := (B3.out.on hb7 B3.out.lt).at_ 1; have z2 : w7.cell? ⟨w.heap.size + 1 + 1, 2, none⟩ = some (.string ⟨#[]⟩) := (B3.out.on hb7 B3.out.lt).at_ 2; have f0 := (B3.out.on hb7 B3.out.lt).free 0; have f1 := (B3.out.on hb7 B3.out.lt).free 1; have f2 := (B3.out.on hb7 B3.out.lt).free 2)))
    refine bodyPost_ret (v := .tuple #[valV (b2 false), .int .i64 0]) (by simp [results, Tryd.results13, go_sem, z0, z1, z2]) rfl ⟨rfl, ?_⟩
    exact ((((HB6.out.trans (hb7.mono HB6.out.size))).setCell (p := ⟨w.heap.size + 1 + 1, 0, none⟩) (by show w.heap.size ≤ w.heap.size + 1 + 1; omega) _).setCell (p := ⟨w.heap.size + 1 + 1, 1, none⟩) (by show w.heap.size ≤ w.heap.size + 1 + 1; omega) _).setCell (p := ⟨w.heap.size + 1 + 1, 2, none⟩) (by show w.heap.size ≤ w.heap.size + 1 + 1; omega) _
  · go_wp2_with (first | (go_at_call 40; ((with_reducible refine (rtruth_any true _).mono ?_); rintro e w7 ⟨rfl, hb7⟩; have z0 : w7.cell? ⟨w.heap.size + 1 + 1, 0, none⟩ = some (.int .i64 0) := (B3.out.on hb7 B3.out.lt).at_ 0; have z1 : w7.cell? ⟨w.heap.size + 1 + 1, 1, none⟩ = some (.int .i64 0) := (B3.out.on hb7 B3.out.lt).at_ 1; have z2 : w7.cell? ⟨w.heap.size + 1 + 1, 2, none⟩ = some (.string ⟨#[]⟩) := (B3.out.on hb7 B3.out.lt).at_ 2; have f0 := (B3.out.on hb7 B3.out.lt).free 0; have f1 := (B3.out.on hb7 B3.out.lt).free 1; have f2 := (B3.out.on hb7 B3.out.lt).free 2)))
    refine bodyPost_ret (v := .tuple #[valV (b2 true), .int .i64 0]) (by simp [results, Tryd.results13, go_sem, z0, z1, z2]) rfl ⟨rfl, ?_⟩
    exact ((((HB6.out.trans (hb7.mono HB6.out.size))).setCell (p := ⟨w.heap.size + 1 + 1, 0, none⟩) (by show w.heap.size ≤ w.heap.size + 1 + 1; omega) _).setCell (p := ⟨w.heap.size + 1 + 1, 1, none⟩) (by show w.heap.size ≤ w.heap.size + 1 + 1; omega) _).setCell (p := ⟨w.heap.size + 1 + 1, 2, none⟩) (by show w.heap.size ≤ w.heap.size + 1 + 1; omega) _
  · go_wp2_with (first | (go_at_call 40; ((with_reducible refine (rtruth_any true _).mono ?_); rintro e w7 ⟨rfl, hb7⟩; have z0 : w7.cell? ⟨w.heap.size + 1 + 1, 0, none⟩ = some (.int .i64 0) := (B3.out.on hb7 B3.out.lt).at_ 0; have z1 : w7.cell? ⟨w.heap.size + 1 + 1, 1, none⟩ = some (.int .i64 0) := (B3.out.on hb7 B3.out.lt).at_ 1; have z2 : w7.cell? ⟨w.heap.size + 1 + 1, 2, none⟩ = some (.string ⟨#[]⟩) := (B3.out.on hb7 B3.out.lt).at_ 2; have f0 := (B3.out.on hb7 B3.out.lt).free 0; have f1 := (B3.out.on hb7 B3.out.lt).free 1; have f2 := (B3.out.on hb7 B3.out.lt).free 2)))
    refine bodyPost_ret (v := .tuple #[valV (b2 true), .int .i64 0]) (by simp [results, Tryd.results13, go_sem, z0, z1, z2]) rfl ⟨rfl, ?_⟩
    exact ((((HB6.out.trans (hb7.mono HB6.out.size))).setCell (p := ⟨w.heap.size + 1 + 1, 0, none⟩) (by show w.heap.size ≤ w.heap.size + 1 + 1; omega) _).setCell (p := ⟨w.heap.size + 1 + 1, 1, none⟩) (by show w.heap.size ≤ w.heap.size + 1 + 1; omega) _).setCell (p := ⟨w.heap.size + 1 + 1, 2, none⟩) (by show w.heap.size ≤ w.heap.size + 1 + 1; omega) _
end Go.Proofs.YtbkgophgclpijaaDoor
