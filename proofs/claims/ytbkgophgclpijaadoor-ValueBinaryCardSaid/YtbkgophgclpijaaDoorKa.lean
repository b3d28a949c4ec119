/- Joining values: join, Binary at + with a text. -/
import Derived.Test.YtbkgophgclpijaaDoorGc
import Derived.Test.YtbkgophgclpijaaDoorHb
import Derived.WalkSpells
import Derived.WalkLawsBesides
namespace Go.Proofs.YtbkgophgclpijaaDoor
open Go.RowKit

theorem plain_size {x : Vt} (hx : WV x.1 x.2.1 x.2.2) : (plainT x).size ≤ 100 ∧ Ascii (plainT x) := by
  unfold plainT
  by_cases h : 3 ≤ x.1 ∧ x.1 ≤ 6
  · rw [if_pos h]
    exact ⟨txt_size (wv_num hx h).1, txt_ascii _ _⟩
  rw [if_neg h]
  by_cases h0 : x.1 = 0
  · rw [if_pos h0]; exact ⟨by decide, by unfold Ascii; decide⟩
  rw [if_neg h0]
  by_cases h1 : x.1 = 1
  · rw [if_pos h1]; exact ⟨by decide, by unfold Ascii; decide⟩
  rw [if_neg h1]
  by_cases h2 : x.2.1 = 0
  · rw [if_pos h2]; exact ⟨by decide, by unfold Ascii; decide⟩
  rw [if_neg h2]; exact ⟨by decide, by unfold Ascii; decide⟩
theorem textT_size {x : Vt} (hx : WV x.1 x.2.1 x.2.2) : (textT x).1.size ≤ 4000 := by
  unfold textT
  by_cases h7 : x.1 = 7
  · rw [if_pos h7]
    rcases hx with ⟨h, _, _⟩ | ⟨h, _, _⟩ | ⟨h, _⟩ | ⟨_, _, l, _, hl, h⟩ | ⟨h, _, _, _⟩
    · omega
    · omega
    · rcases h with ⟨h, _⟩ | ⟨h, _⟩ | ⟨h, _⟩ | ⟨h, _⟩ | ⟨h, _⟩ <;> omega
    · rw [h]
      show (l.flatMap W.u2).toArray.size ≤ _
      rw [List.size_toArray, W.flat_length]
      omega
    · omega
  rw [if_neg h7]
  by_cases h8 : x.1 = 8
  · rw [if_pos h8]; show W.e0.size ≤ _; decide
  rw [if_neg h8]
  by_cases h9 : x.1 = 9 ∨ x.1 = 10
  · rw [if_pos h9]; show W.e0.size ≤ _; decide
  rw [if_neg h9]
  obtain ⟨h1, h2⟩ := plain_size hx
  show (W.ofB (plainT x)).toArray.size ≤ _
  rw [List.size_toArray, ofB_ascii _ h2, W.flat_length, codes_length]
  omega
def joinT (x y : Vt) : Vt × Int := if (textT x).2 = 0 then (if (textT y).2 = 0 then ((7, 0, (textT x).1 ++ (textT y).1), 0) else ((0, 0, W.e0), (textT y).2)) else ((0, 0, W.e0), (textT x).2)
theorem textJoin_any (a b : ByteArray) (ha : a.size ≤ 4000) (hb : b.size ≤ 4000) (w : World) :
    Calls Tryd.prog 58 #[.string a, .string b] w fun e w' => e = .returned (.tuple #[.string (a ++ b), .bool true]) ∧ w = w' :=
  W.join_in a b (by omega) (by omega) (by omega) w

set_option maxRecDepth 100000 in
set_option maxHeartbeats 4000000 in
theorem join_any (x y : Vt) (hx : WV x.1 x.2.1 x.2.2) (hy : WV y.1 y.2.1 y.2.2) (w : World) (hT : M.Tb w) :
    Calls Tryd.prog 35 #[valV x, valV y] w fun e w' => e = .returned (.tuple #[valV (joinT x y).1, .int .i64 (joinT x y).2]) ∧ Below w.heap.size w w' := by
  have N1 := Veil.mk (fun wx => text_any x hx wx)
  have N2 := Veil.mk (fun wx => text_any y hy wx)
  have s1 := textT_size hx
  have s2 := textT_size hy
  obtain ⟨W0, hW⟩ : ∃ v, v = tri w x y := ⟨_, rfl⟩
  have hB : Below w.heap.size w W0 := hW ▸ tri_below w x y
  have b1 := tri_x w x y
  have b2' := tri_y w x y
  have b3 := tri_r w x y
  rw [← hW] at b1 b2' b3
  have hw0 := hW.symm
  unfold tri two at hw0
  clear hW
  have HT := Veil.mk (hT.on hB)
  unfold joinT
  clear hx hy hT
  obtain ⟨tx, htx⟩ : ∃ p, p = textT x := ⟨_, rfl⟩
  obtain ⟨ty, hty⟩ : ∃ p, p = textT y := ⟨_, rfl⟩
  rw [← htx] at N1 s1 ⊢
  rw [← hty] at N2 s2 ⊢
  clear htx hty
  obtain ⟨ts, tn⟩ := tx
  obtain ⟨us, un⟩ := ty
  obtain ⟨xk, xn, xs⟩ := x
  obtain ⟨yk, yn, ys⟩ := y
  simp only at N1 N2 s1 s2 b1 b2' b3 hw0 ⊢
  have TJ := Veil.mk (textJoin_any ts us s1 s2)
  have HW := Lib.hid hw0
  clear hw0 s1 s2
  have p0 : W0.cell? ⟨w.heap.size, 0, none⟩ = some (.int .i64 xk) := b1.at_ 0
  have p1 : W0.cell? ⟨w.heap.size, 1, none⟩ = some (.int .i64 xn) := b1.at_ 1
  have p2 : W0.cell? ⟨w.heap.size, 2, none⟩ = some (.string xs) := b1.at_ 2
  have B2 := Veil.mk b2'
  have B3 := Veil.mk b3
  clear b1 b2' b3
  by_cases h0 : tn = 0
  case neg =>
    have h0b : (tn != 0) = true := by simpa using h0
    have h0c : (tn == 0) = false := by simpa using h0
    rw [if_neg h0]
    clear h0 N2 TJ
    go_enter Tryd.func35, Tryd.ntmps35
    go_upto_region 1 with (fail)
    rw [HW.out]
    go_wp2_with (first | (go_at_call 23; first | ((with_reducible refine (N1.out _ HT.out).mono ?_); rintro e w3 ⟨rfl, hb3⟩; have z3 := B3.out.on hb3 B3.out.lt; have z0 : w3.cell? ⟨w.heap.size + 1 + 1, 0, none⟩ = some (.int .i64 0) := z3.at_ 0; have z1 : w3.cell? ⟨w.heap.size + 1 + 1, 1, none⟩ = some (.int .i64 0) := z3.at_ 1; have z2 : w3.cell? ⟨w.heap.size + 1 + 1, 2, none⟩ = some (.string ⟨#[]⟩) := z3.at_ 2; have f0 := z3.free 0; have f1 := z3.free 1; have f2 := z3.free 2; have y3 := B2.out.on hb3 B2.out.lt; have q0 : w3.cell? ⟨w.heap.size + 1, 0, none⟩ = some (.int .i64 yk) := y3.at_ 0; have q1 : w3.cell? ⟨w.heap.size + 1, 1, none⟩ = some (.int .i64 yn) := y3.at_ 1; have q2 : w3.cell? ⟨w.heap.size + 1, 2, none⟩ = some (.string ys) := y3.at_ 2)))
    refine bodyPost_ret (v := .tuple #[W.V 0 0 W.e0, .int .i64 tn]) (by simp [results, Tryd.results35, go_sem, z0, z1, z2]) rfl ⟨rfl, ?_⟩
    exact ((((hB.trans (hb3.mono hB.size))).setCell (p := ⟨w.heap.size + 1 + 1, 0, none⟩) (by show w.heap.size ≤ w.heap.size + 1 + 1; omega) _).setCell (p := ⟨w.heap.size + 1 + 1, 1, none⟩) (by show w.heap.size ≤ w.heap.size + 1 + 1; omega) _).setCell (p := ⟨w.heap.size + 1 + 1, 2, none⟩) (by show w.heap.size ≤ w.heap.size + 1 + 1; omega) _
  subst h0
  rw [if_pos rfl]
  by_cases h1 : un = 0
  case neg =>
    have h1b : (un != 0) = true := by simpa using h1
    have h1c : (un == 0) = false := by simpa using h1
    rw [if_neg h1]
    clear h1 TJ
    go_enter Tryd.func35, Tryd.ntmps35
    go_upto_region 1 with (fail)
    rw [HW.out]
    go_wp2_with (first | (go_at_call 23; first | ((with_reducible refine (N1.out _ HT.out).mono ?_); rintro e w3 ⟨rfl, hb3⟩; have z3 := B3.out.on hb3 B3.out.lt; have z0 : w3.cell? ⟨w.heap.size + 1 + 1, 0, none⟩ = some (.int .i64 0) := z3.at_ 0; have z1 : w3.cell? ⟨w.heap.size + 1 + 1, 1, none⟩ = some (.int .i64 0) := z3.at_ 1; have z2 : w3.cell? ⟨w.heap.size + 1 + 1, 2, none⟩ = some (.string ⟨#[]⟩) := z3.at_ 2; have f0 := z3.free 0; have f1 := z3.free 1; have f2 := z3.free 2; have y3 := B2.out.on hb3 B2.out.lt; have q0 : w3.cell? ⟨w.heap.size + 1, 0, none⟩ = some (.int .i64 yk) := y3.at_ 0; have q1 : w3.cell? ⟨w.heap.size + 1, 1, none⟩ = some (.int .i64 yn) := y3.at_ 1; have q2 : w3.cell? ⟨w.heap.size + 1, 2, none⟩ = some (.string ys) := y3.at_ 2) | ((with_reducible refine (N2.out _ (HT.out.on hb3)).mono ?_); rintro e w4 ⟨rfl, hb4⟩; have hb34 := hb3.trans (hb4.mono hb3.size); have z4 := B3.out.on hb34 B3.out.lt; have z0 : w4.cell? ⟨w.heap.size + 1 + 1, 0, none⟩ = some (.int .i64 0) := z4.at_ 0; have z1 : w4.cell? ⟨w.heap.size + 1 + 1, 1, none⟩ = some (.int .i64 0) := z4.at_ 1; have z2 : w4.cell? ⟨w.heap.size + 1 + 1, 2, none⟩ = some (.string ⟨#[]⟩) := z4.at_ 2; have f0 := z4.free 0; have f1 := z4.free 1; have f2 := z4.free 2)))
    refine bodyPost_ret (v := .tuple #[W.V 0 0 W.e0, .int .i64 un]) (by simp [results, Tryd.results35, go_sem, z0, z1, z2]) rfl ⟨rfl, ?_⟩
    exact ((((hB.trans (hb34.mono hB.size))).setCell (p := ⟨w.heap.size + 1 + 1, 0, none⟩) (by show w.heap.size ≤ w.heap.size + 1 + 1; omega) _).setCell (p := ⟨w.heap.size + 1 + 1, 1, none⟩) (by show w.heap.size ≤ w.heap.size + 1 + 1; omega) _).setCell (p := ⟨w.heap.size + 1 + 1, 2, none⟩) (by show w.heap.size ≤ w.heap.size + 1 + 1; omega) _
  subst h1
  rw [if_pos rfl]
  go_enter Tryd.func35, Tryd.ntmps35
  go_upto_region 1 with (fail)
  rw [HW.out]
  go_wp2_with (first | (go_at_call 23; first | ((with_reducible refine (N1.out _ HT.out).mono ?_); rintro e w3 ⟨rfl, hb3⟩; have z3 := B3.out.on hb3 B3.out.lt; have z0 : w3.cell? ⟨w.heap.size + 1 + 1, 0, none⟩ = some (.int .i64 0) := z3.at_ 0; have z1 : w3.cell? ⟨w.heap.size + 1 + 1, 1, none⟩ = some (.int .i64 0) := z3.at_ 1; have z2 : w3.cell? ⟨w.heap.size + 1 + 1, 2, none⟩ = some (.string ⟨#[]⟩) := z3.at_ 2; have f0 := z3.free 0; have f1 := z3.free 1; have f2 := z3.free 2; have y3 := B2.out.on hb3 B2.out.lt; have q0 : w3.cell? ⟨w.heap.size + 1, 0, none⟩ = some (.int .i64 yk) := y3.at_ 0; have q1 : w3.cell? ⟨w.heap.size + 1, 1, none⟩ = some (.int .i64 yn) := y3.at_ 1; have q2 : w3.cell? ⟨w.heap.size + 1, 2, none⟩ = some (.string ys) := y3.at_ 2) | ((with_reducible refine (N2.out _ (HT.out.on hb3)).mono ?_); rintro e w4 ⟨rfl, hb4⟩; have hb34 := hb3.trans (hb4.mono hb3.size); have z4 := B3.out.on hb34 B3.out.lt; have z0 : w4.cell? ⟨w.heap.size + 1 + 1, 0, none⟩ = some (.int .i64 0) := z4.at_ 0; have z1 : w4.cell? ⟨w.heap.size + 1 + 1, 1, none⟩ = some (.int .i64 0) := z4.at_ 1; have z2 : w4.cell? ⟨w.heap.size + 1 + 1, 2, none⟩ = some (.string ⟨#[]⟩) := z4.at_ 2; have f0 := z4.free 0; have f1 := z4.free 1; have f2 := z4.free 2)) | (go_at_call 58; ((with_reducible refine (TJ.out _).mono ?_); rintro e w' ⟨rfl, rfl⟩)))
  refine bodyPost_ret (v := .tuple #[W.V 7 0 (ts ++ us), .int .i64 0]) (by simp [results, Tryd.results35, go_sem, z0, z1, z2]) rfl ⟨rfl, ?_⟩
  exact ((((hB.trans (hb34.mono hB.size))).setCell (p := ⟨w.heap.size + 1 + 1, 0, none⟩) (by show w.heap.size ≤ w.heap.size + 1 + 1; omega) _).setCell (p := ⟨w.heap.size + 1 + 1, 1, none⟩) (by show w.heap.size ≤ w.heap.size + 1 + 1; omega) _).setCell (p := ⟨w.heap.size + 1 + 1, 2, none⟩) (by show w.heap.size ≤ w.heap.size + 1 + 1; omega) _

set_option maxRecDepth 100000 in
set_option maxHeartbeats 4000000 in
theorem binary_join (x y : Vt) (hx : WV x.1 x.2.1 x.2.2) (hy : WV y.1 y.2.1 y.2.2) (h : x.1 = 7 ∨ y.1 = 7) (w : World) (hT : M.Tb w) :
    Calls Tryd.prog 12 #[.string ⟨#[43]⟩, valV x, valV y] w fun e w' => e = .returned (.tuple #[valV (joinT x y).1, .int .i64 (joinT x y).2]) ∧ Below w.heap.size w w' := by
  have J := Veil.mk (fun wx => join_any x y hx hy wx)
  obtain ⟨W0, hW⟩ : ∃ v, v = tri w x y := ⟨_, rfl⟩
  have hB : Below w.heap.size w W0 := hW ▸ tri_below w x y
  have b1 := tri_x w x y
  have b2' := tri_y w x y
  have b3 := tri_r w x y
  rw [← hW] at b1 b2' b3
  have hw0 := hW.symm
  unfold tri two at hw0
  clear hW
  have HT := Veil.mk (hT.on hB)
  obtain ⟨r, hr⟩ : ∃ r, r = joinT x y := ⟨_, rfl⟩
  rw [← hr] at J ⊢
  clear hr hx hy hT
  obtain ⟨⟨rk, rn, rs⟩, rt⟩ := r
  obtain ⟨xk, xn, xs⟩ := x
  obtain ⟨yk, yn, ys⟩ := y
  simp only at h J b1 b2' b3 hw0 ⊢
  have HW := Lib.hid hw0
  clear hw0
  have p0 : W0.cell? ⟨w.heap.size, 0, none⟩ = some (.int .i64 xk) := b1.at_ 0
  have p1 : W0.cell? ⟨w.heap.size, 1, none⟩ = some (.int .i64 xn) := b1.at_ 1
  have p2 : W0.cell? ⟨w.heap.size, 2, none⟩ = some (.string xs) := b1.at_ 2
  have q0 : W0.cell? ⟨w.heap.size + 1, 0, none⟩ = some (.int .i64 yk) := b2'.at_ 0
  have q1 : W0.cell? ⟨w.heap.size + 1, 1, none⟩ = some (.int .i64 yn) := b2'.at_ 1
  have q2 : W0.cell? ⟨w.heap.size + 1, 2, none⟩ = some (.string ys) := b2'.at_ 2
  have B3 := Veil.mk b3
  clear b1 b2' b3
  rcases (show (xk = 7 ∧ yk = 7) ∨ (xk = 7 ∧ ¬ yk = 7) ∨ (¬ xk = 7 ∧ yk = 7) by omega) with ⟨rfl, rfl⟩ | ⟨rfl, h2⟩ | ⟨h2, rfl⟩
  · skip
    clear h
    go_enter Tryd.func12, Tryd.ntmps12
    go_upto_region 1 with (fail)
    rw [HW.out]
    go_wp2_with (first | (go_at_call 35; ((with_reducible refine (J.out _ HT.out).mono ?_); rintro e w3 ⟨rfl, hb3⟩; have z3 := B3.out.on hb3 B3.out.lt; have z0 : w3.cell? ⟨w.heap.size + 1 + 1, 0, none⟩ = some (.int .i64 0) := z3.at_ 0; have z1 : w3.cell? ⟨w.heap.size + 1 + 1, 1, none⟩ = some (.int .i64 0) := z3.at_ 1; have z2 : w3.cell? ⟨w.heap.size + 1 + 1, 2, none⟩ = some (.string ⟨#[]⟩) := z3.at_ 2; have f0 := z3.free 0; have f1 := z3.free 1; have f2 := z3.free 2)))
    refine bodyPost_ret (v := .tuple #[W.V rk rn rs, .int .i64 rt]) (by simp [results, Tryd.results12, go_sem, z0, z1, z2]) rfl ⟨rfl, ?_⟩
    exact (((hB.trans (hb3.mono hB.size)).setCell (p := ⟨w.heap.size + 1 + 1, 0, none⟩) (by show w.heap.size ≤ w.heap.size + 1 + 1; omega) _).setCell (p := ⟨w.heap.size + 1 + 1, 1, none⟩) (by show w.heap.size ≤ w.heap.size + 1 + 1; omega) _).setCell (p := ⟨w.heap.size + 1 + 1, 2, none⟩) (by show w.heap.size ≤ w.heap.size + 1 + 1; omega) _
  · have h2b : (yk == 7) = false := by simpa using h2
    clear h h2
    go_enter Tryd.func12, Tryd.ntmps12
    go_upto_region 1 with (fail)
    rw [HW.out]
    go_wp2_with (first | (go_at_call 35; ((with_reducible refine (J.out _ HT.out).mono ?_); rintro e w3 ⟨rfl, hb3⟩; have z3 := B3.out.on hb3 B3.out.lt; have z0 : w3.cell? ⟨w.heap.size + 1 + 1, 0, none⟩ = some (.int .i64 0) := z3.at_ 0; have z1 : w3.cell? ⟨w.heap.size + 1 + 1, 1, none⟩ = some (.int .i64 0) := z3.at_ 1; have z2 : w3.cell? ⟨w.heap.size + 1 + 1, 2, none⟩ = some (.string ⟨#[]⟩) := z3.at_ 2; have f0 := z3.free 0; have f1 := z3.free 1; have f2 := z3.free 2)))
    refine bodyPost_ret (v := .tuple #[W.V rk rn rs, .int .i64 rt]) (by simp [results, Tryd.results12, go_sem, z0, z1, z2]) rfl ⟨rfl, ?_⟩
    exact (((hB.trans (hb3.mono hB.size)).setCell (p := ⟨w.heap.size + 1 + 1, 0, none⟩) (by show w.heap.size ≤ w.heap.size + 1 + 1; omega) _).setCell (p := ⟨w.heap.size + 1 + 1, 1, none⟩) (by show w.heap.size ≤ w.heap.size + 1 + 1; omega) _).setCell (p := ⟨w.heap.size + 1 + 1, 2, none⟩) (by show w.heap.size ≤ w.heap.size + 1 + 1; omega) _
  · have h2b : (xk == 7) = false := by simpa using h2
    clear h h2
    go_enter Tryd.func12, Tryd.ntmps12
    go_upto_region 1 with (fail)
    rw [HW.out]
    go_wp2_with (first | (go_at_call 35; ((with_reducible refine (J.out _ HT.out).mono ?_); rintro e w3 ⟨rfl, hb3⟩; have z3 := B3.out.on hb3 B3.out.lt; have z0 : w3.cell? ⟨w.heap.size + 1 + 1, 0, none⟩ = some (.int .i64 0) := z3.at_ 0; have z1 : w3.cell? ⟨w.heap.size + 1 + 1, 1, none⟩ = some (.int .i64 0) := z3.at_ 1; have z2 : w3.cell? ⟨w.heap.size + 1 + 1, 2, none⟩ = some (.string ⟨#[]⟩) := z3.at_ 2; have f0 := z3.free 0; have f1 := z3.free 1; have f2 := z3.free 2)))
    refine bodyPost_ret (v := .tuple #[W.V rk rn rs, .int .i64 rt]) (by simp [results, Tryd.results12, go_sem, z0, z1, z2]) rfl ⟨rfl, ?_⟩
    exact (((hB.trans (hb3.mono hB.size)).setCell (p := ⟨w.heap.size + 1 + 1, 0, none⟩) (by show w.heap.size ≤ w.heap.size + 1 + 1; omega) _).setCell (p := ⟨w.heap.size + 1 + 1, 1, none⟩) (by show w.heap.size ≤ w.heap.size + 1 + 1; omega) _).setCell (p := ⟨w.heap.size + 1 + 1, 2, none⟩) (by show w.heap.size ≤ w.heap.size + 1 + 1; omega) _
end Go.Proofs.YtbkgophgclpijaaDoor
