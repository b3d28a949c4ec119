/- Tables: the document's example. -/
import Derived.Test.YthlhchaapdhbfaaFr
namespace Go.Proofs.Ythlhchaapdhbfaa
open Go.RowKit

abbrev kN (n : Int) : Vt := (3, n, ⟨#[]⟩)
abbrev eN (n : Int) : En := (kN n, kN 0, 0)
set_option maxRecDepth 100000 in
theorem kfun_any (n : Int) (w : World) : Calls Try.prog 60 #[.int .i64 n] w fun e w' => e = .returned (.agg #[.int .i64 3, .int .i64 n, .string ⟨#[]⟩]) ∧ Below w.heap.size w w' := by
  have hZ := Box.new w 82 #[.int .i64 0, .int .i64 0, .string ⟨#[]⟩]
  obtain ⟨W, hW⟩ : ∃ W, W = w.alloc (.cells #[.int .i64 0, .int .i64 0, .string ⟨#[]⟩] 82) := ⟨_, rfl⟩
  have hBW : Below w.heap.size w W := by rw [hW]; exact (Below.refl _ _).alloc (Nat.le_refl _) _
  rw [← hW] at hZ
  have z0 : W.cell? ⟨w.heap.size, 0, none⟩ = some (.int .i64 0) := hZ.at_ 0
  have z1 : W.cell? ⟨w.heap.size, 1, none⟩ = some (.int .i64 0) := hZ.at_ 1
  have z2 : W.cell? ⟨w.heap.size, 2, none⟩ = some (.string ⟨#[]⟩) := hZ.at_ 2
  have g0 := hZ.free 0
  have g1 := hZ.free 1
  have g2 := hZ.free 2
  have HW := Veil.mk hW
  clear hW
  go_enter Try.func60, Try.ntmps60
  go_upto_region 1 with (fail)
  rw [← HW.out]
  go_wp2
  have hb := ((hBW.setCell (p := ⟨w.heap.size, 0, none⟩) (Nat.le_refl _) (.int .i64 3)).setCell (p := ⟨w.heap.size, 1, none⟩) (Nat.le_refl _) (.int .i64 n)).setCell (p := ⟨w.heap.size, 2, none⟩) (Nat.le_refl _) (.string ⟨#[]⟩)
  have hZ2 := ((hZ.put 0 (.int .i64 3)).put 1 (.int .i64 n)).put 2 (.string ⟨#[]⟩)
  have y0 := hZ2.at_ 0
  have y1 := hZ2.at_ 1
  have y2 := hZ2.at_ 2
  exact bodyPost_ret (v := .agg #[.int .i64 3, .int .i64 n, .string ⟨#[]⟩]) (by simp [results, Try.results60, go_sem, y0, y1, y2]) rfl ⟨rfl, hb⟩
theorem next_kb {B t : Nat} {O : Ob} {w : World} (h : Tb B t O w) (h1 : O.1.length < 40000) (c : Nat) (n : Int) (r : List En) (hi : O.2[0]? = some (c, eN n :: r)) :
    Calls Try.prog 42 #[.pointer (some ⟨c, 0, none⟩)] w fun e w' => e = .returned (.tuple #[.agg #[.int .i64 3, .int .i64 n, .string ⟨#[]⟩], .agg #[.int .i64 3, .int .i64 0, .string ⟨#[]⟩], .int .i64 0, .bool true]) ∧ Tb B t (O.1, O.2.set 0 (c, r)) w' ∧ Fr B w w' := next_tb h h1 0 c (eN n) r hi
set_option maxRecDepth 100000 in
theorem len_cell (t : Nat) (n : Int) (w : World) (c2 : w.cell? ⟨t, 2, none⟩ = some (.int .i64 n)) : Calls Try.prog 41 #[.pointer (some ⟨t, 0, none⟩)] w fun e w' => e = .returned (.int .i64 n) ∧ w' = w := by
  go_enter Try.func41, Try.ntmps41
  go_wp2
  go_ret
  exact ⟨rfl, rfl⟩
theorem Tb.cnt {B t : Nat} {O : Ob} {w : World} (h : Tb B t O w) : w.cell? ⟨t, 2, none⟩ = some (.int .i64 (O.1.length : Int)) ∧ t < w.heap.size := by
  obtain ⟨T, vs, vb, vc, hT, hG, ho⟩ := h
  rw [← (obs_sizes hG ho).1]
  exact ⟨hT.box.at_ 2, hT.box.lt⟩
theorem two_box (w : World) (a b : Array Value) : Box ((w.alloc (.cells a 82)).alloc (.cells b 82)) w.heap.size 82 a := (Box.new w _ _).more _
theorem two_below (w : World) (a b : Array Value) : Below w.heap.size w ((w.alloc (.cells a 82)).alloc (.cells b 82)) := ((Below.refl _ _).alloc (Nat.le_refl _) _).alloc (by simp) _
set_option maxHeartbeats 4000000 in
set_option maxRecDepth 100000 in
theorem fit_any (w : World) : Calls Try.prog 32 #[] w fun e w' => e = .returned (.bool true) ∧ Below w.heap.size w w' := by
  have HKF := Veil.mk kfun_any
  go_enter Try.func32, Try.ntmps32
  go_upto_region 3 with (first | (go_at_call 34; ((with_reducible refine (new_tb (B := w.heap.size) (Nat.le_refl _)).mono ?_); rintro e w1 ⟨t, rfl, hTb, hFr⟩)))
  go_upto_region 4 with (first | (go_at_call 60; ((with_reducible refine (HKF.out _ _).mono ?_); rintro e wk ⟨rfl, hbk⟩; replace hFr := hFr.trans (Fr.of_below hTb.le hbk); replace hTb := hTb.on hbk; clear hbk)) | (go_at_call 39; ((with_reducible refine (put_tb hTb (by simp) (by simp) (kN 1) (kN 0) 0 (by decide)).mono ?_); rintro e wp ⟨rfl, hTb', hFr'⟩; replace hFr := hFr.trans hFr'; replace hTb := hTb'; clear hFr' hTb')))
  rw [show putO ([], []) (keyT (kN 1)) (kN 0) 0 = ([eN 1], []) by simp [putO, hasK, keyT, kN]] at hTb
  go_upto_region 5 with (first | (go_at_call 60; ((with_reducible refine (HKF.out _ _).mono ?_); rintro e wk ⟨rfl, hbk⟩; replace hFr := hFr.trans (Fr.of_below hTb.le hbk); replace hTb := hTb.on hbk; clear hbk)) | (go_at_call 39; ((with_reducible refine (put_tb hTb (by simp) (by simp) (kN 2) (kN 0) 0 (by decide)).mono ?_); rintro e wp ⟨rfl, hTb', hFr'⟩; replace hFr := hFr.trans hFr'; replace hTb := hTb'; clear hFr' hTb')))
  rw [show putO ([eN 1], []) (keyT (kN 2)) (kN 0) 0 = ([eN 1, eN 2], []) by simp [putO, hasK, keyT, kN]] at hTb
  go_upto_region 6 with (first | (go_at_call 38; ((with_reducible refine (cursor_tb hTb (by simp)).mono ?_); rintro e wp ⟨c, rfl, hTb', hFr'⟩; replace hFr := hFr.trans hFr'; replace hTb := hTb'; clear hFr' hTb')))
  replace hTb : Tb w.heap.size t ([eN 1, eN 2], [(c, [eN 1, eN 2])]) _ := hTb
  go_upto_region 7 with (first | (go_at_call 42; ((with_reducible refine (next_kb hTb (by simp) c 1 [eN 2] rfl).mono ?_); rintro e wn ⟨rfl, hTb', hFr'⟩; replace hFr := hFr.trans hFr'; replace hTb := hTb'; clear hFr' hTb')))
  replace hTb : Tb w.heap.size t ([eN 1, eN 2], [(c, [eN 2])]) wn := hTb
  have bA := two_box wn (#[.int .i64 3, .int .i64 1, .string ⟨#[]⟩]) (#[.int .i64 3, .int .i64 0, .string ⟨#[]⟩])
  have lA := two_below wn (#[.int .i64 3, .int .i64 1, .string ⟨#[]⟩]) (#[.int .i64 3, .int .i64 0, .string ⟨#[]⟩])
  generalize hgA : wn.heap.size = gA at bA
  generalize (wn.alloc (.cells #[.int .i64 3, .int .i64 1, .string ⟨#[]⟩] 82)).alloc (.cells #[.int .i64 3, .int .i64 0, .string ⟨#[]⟩] 82) = A at bA lA ⊢
  replace hFr := hFr.trans (Fr.of_below hTb.le lA)
  replace hTb := hTb.on lA
  have hKe := Fr.refl w.heap.size A
  clear lA
  go_upto_region 8 with (first | (go_at_call 60; ((with_reducible refine (HKF.out _ _).mono ?_); rintro e wk ⟨rfl, hbk⟩; replace hFr := hFr.trans (Fr.of_below hTb.le hbk); replace hKe := hKe.trans (Fr.of_below hTb.le hbk); replace hTb := hTb.on hbk; clear hbk)) | (go_at_call 40; ((with_reducible refine (del_tb hTb (by simp) (by simp) (kN 2) (by decide)).mono ?_); rintro e wp ⟨r, rfl, hr, hTb', hFr'⟩; replace hFr := hFr.trans hFr'; replace hKe := hKe.trans hFr'; replace hTb := hTb'; clear hFr' hTb' hr)))
  rw [show delO ([eN 1, eN 2], [(c, [eN 2])]) (keyT (kN 2)) = ([eN 1], [(c, [])]) by simp [delO, dropK, keyT, kN, eN]] at hTb
  go_upto_region 9 with (first | (go_at_call 60; ((with_reducible refine (HKF.out _ _).mono ?_); rintro e wk ⟨rfl, hbk⟩; replace hFr := hFr.trans (Fr.of_below hTb.le hbk); replace hKe := hKe.trans (Fr.of_below hTb.le hbk); replace hTb := hTb.on hbk; clear hbk)) | (go_at_call 39; ((with_reducible refine (put_tb hTb (by simp) (by simp) (kN 3) (kN 0) 0 (by decide)).mono ?_); rintro e wp ⟨rfl, hTb', hFr'⟩; replace hFr := hFr.trans hFr'; replace hKe := hKe.trans hFr'; replace hTb := hTb'; clear hFr' hTb')))
  rw [show putO ([eN 1], [(c, [])]) (keyT (kN 3)) (kN 0) 0 = ([eN 1, eN 3], [(c, [eN 3])]) by simp [putO, hasK, keyT, kN]] at hTb
  go_upto_region 10 with (first | (go_at_call 60; ((with_reducible refine (HKF.out _ _).mono ?_); rintro e wk ⟨rfl, hbk⟩; replace hFr := hFr.trans (Fr.of_below hTb.le hbk); replace hKe := hKe.trans (Fr.of_below hTb.le hbk); replace hTb := hTb.on hbk; clear hbk)) | (go_at_call 39; ((with_reducible refine (put_tb hTb (by simp) (by simp) (kN 2) (kN 0) 0 (by decide)).mono ?_); rintro e wp ⟨rfl, hTb', hFr'⟩; replace hFr := hFr.trans hFr'; replace hKe := hKe.trans hFr'; replace hTb := hTb'; clear hFr' hTb')))
  rw [show putO ([eN 1, eN 3], [(c, [eN 3])]) (keyT (kN 2)) (kN 0) 0 = ([eN 1, eN 3, eN 2], [(c, [eN 3, eN 2])]) by simp [putO, hasK, keyT, kN]] at hTb
  replace bA := hKe.kept _ _ bA
  clear hKe
  have hKe := Fr.refl w.heap.size wp
  go_upto_region 11 with (first | (go_at_call 42; ((with_reducible refine (next_kb hTb (by simp) c 3 [eN 2] rfl).mono ?_); rintro e wn ⟨rfl, hTb', hFr'⟩; replace hFr := hFr.trans hFr'; replace hKe := hKe.trans hFr'; replace hTb := hTb'; clear hFr' hTb')))
  replace bA := hKe.kept _ _ bA
  clear hKe
  replace hTb : Tb w.heap.size t ([eN 1, eN 3, eN 2], [(c, [eN 2])]) wn := hTb
  have bC := two_box wn (#[.int .i64 3, .int .i64 3, .string ⟨#[]⟩]) (#[.int .i64 3, .int .i64 0, .string ⟨#[]⟩])
  have lC := two_below wn (#[.int .i64 3, .int .i64 3, .string ⟨#[]⟩]) (#[.int .i64 3, .int .i64 0, .string ⟨#[]⟩])
  generalize hgC : wn.heap.size = gC at bC
  generalize (wn.alloc (.cells #[.int .i64 3, .int .i64 3, .string ⟨#[]⟩] 82)).alloc (.cells #[.int .i64 3, .int .i64 0, .string ⟨#[]⟩] 82) = C at bC lC ⊢
  replace hFr := hFr.trans (Fr.of_below hTb.le lC)
  replace hTb := hTb.on lC
  replace bA := bA.on lC bA.lt
  clear lC
  have hKe := Fr.refl w.heap.size C
  go_upto_region 12 with (first | (go_at_call 42; ((with_reducible refine (next_kb hTb (by simp) c 2 [] rfl).mono ?_); rintro e wn ⟨rfl, hTb', hFr'⟩; replace hFr := hFr.trans hFr'; replace hKe := hKe.trans hFr'; replace hTb := hTb'; clear hFr' hTb')))
  replace bA := hKe.kept _ _ bA
  replace bC := hKe.kept _ _ bC
  clear hKe
  replace hTb : Tb w.heap.size t ([eN 1, eN 3, eN 2], [(c, [])]) wn := hTb
  have bD := two_box wn (#[.int .i64 3, .int .i64 2, .string ⟨#[]⟩]) (#[.int .i64 3, .int .i64 0, .string ⟨#[]⟩])
  have lD := two_below wn (#[.int .i64 3, .int .i64 2, .string ⟨#[]⟩]) (#[.int .i64 3, .int .i64 0, .string ⟨#[]⟩])
  generalize hgD : wn.heap.size = gD at bD
  generalize (wn.alloc (.cells #[.int .i64 3, .int .i64 2, .string ⟨#[]⟩] 82)).alloc (.cells #[.int .i64 3, .int .i64 0, .string ⟨#[]⟩] 82) = D at bD lD ⊢
  replace hFr := hFr.trans (Fr.of_below hTb.le lD)
  replace hTb := hTb.on lD
  replace bA := bA.on lD bA.lt
  replace bC := bC.on lD bC.lt
  clear lD
  have HTB := Veil.mk hTb
  have HLOW := Veil.mk hFr.low
  obtain ⟨t2, lt⟩ := hTb.cnt
  replace t2 : D.cell? ⟨t, 2, none⟩ = some (.int .i64 3) := t2
  have lA := bA.lt
  have lC := bC.lt
  have lD := bD.lt
  have a0 : D.cell? ⟨gA, 0, none⟩ = some (.int .i64 3) := bA.at_ 0
  have a1 : D.cell? ⟨gA, 1, none⟩ = some (.int .i64 1) := bA.at_ 1
  have a2 : D.cell? ⟨gA, 2, none⟩ = some (.string ⟨#[]⟩) := bA.at_ 2
  have c0 : D.cell? ⟨gC, 0, none⟩ = some (.int .i64 3) := bC.at_ 0
  have c1 : D.cell? ⟨gC, 1, none⟩ = some (.int .i64 3) := bC.at_ 1
  have c2 : D.cell? ⟨gC, 2, none⟩ = some (.string ⟨#[]⟩) := bC.at_ 2
  have d0 : D.cell? ⟨gD, 0, none⟩ = some (.int .i64 3) := bD.at_ 0
  have d1 : D.cell? ⟨gD, 1, none⟩ = some (.int .i64 2) := bD.at_ 1
  have d2 : D.cell? ⟨gD, 2, none⟩ = some (.string ⟨#[]⟩) := bD.at_ 2
  have hbD : Below D.heap.size D D.drew := (Below.refl _ _).drew
  clear hTb hFr bA bC bD
  go_region_held3 (fun w' => w'.cell? ⟨gA, 0, none⟩ = some (.int .i64 3) ∧ w'.cell? ⟨gA, 1, none⟩ = some (.int .i64 1) ∧ w'.cell? ⟨gA, 2, none⟩ = some (.string ⟨#[]⟩) ∧ w'.cell? ⟨gC, 0, none⟩ = some (.int .i64 3) ∧ w'.cell? ⟨gC, 1, none⟩ = some (.int .i64 3) ∧ w'.cell? ⟨gC, 2, none⟩ = some (.string ⟨#[]⟩) ∧ w'.cell? ⟨gD, 0, none⟩ = some (.int .i64 3) ∧ w'.cell? ⟨gD, 1, none⟩ = some (.int .i64 2) ∧ w'.cell? ⟨gD, 2, none⟩ = some (.string ⟨#[]⟩) ∧ w'.cell? ⟨t, 2, none⟩ = some (.int .i64 3)) (go_keep) (first | (go_at_call 60; ((with_reducible refine (HKF.out _ _).mono ?_); rintro e w1 ⟨rfl, hb1⟩; replace hbD := blw2 hbD hb1; clear hb1; have y0 := (hbD.cell (p := ⟨gA, 0, none⟩) lA).trans a0; have y1 := (hbD.cell (p := ⟨gA, 1, none⟩) lA).trans a1; have y2 := (hbD.cell (p := ⟨gA, 2, none⟩) lA).trans a2; have y3 := (hbD.cell (p := ⟨gC, 0, none⟩) lC).trans c0; have y4 := (hbD.cell (p := ⟨gC, 1, none⟩) lC).trans c1; have y5 := (hbD.cell (p := ⟨gC, 2, none⟩) lC).trans c2; have y6 := (hbD.cell (p := ⟨gD, 0, none⟩) lD).trans d0; have y7 := (hbD.cell (p := ⟨gD, 1, none⟩) lD).trans d1; have y8 := (hbD.cell (p := ⟨gD, 2, none⟩) lD).trans d2; have y9 := (hbD.cell (p := ⟨t, 2, none⟩) lt).trans t2)) | (go_at_call 41; ((with_reducible refine (len_cell t 3 _ (by assumption)).mono ?_); rintro e w1 ⟨rfl, rfl⟩)))
  all_goals
    clear HTB
    go_wp2
    go_ret
    exact ⟨rfl, HLOW.out.trans (hbD.mono HLOW.out.size)⟩
end Go.Proofs.Ythlhchaapdhbfaa
