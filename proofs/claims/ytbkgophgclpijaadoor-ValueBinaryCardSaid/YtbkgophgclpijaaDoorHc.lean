/- Binary at the order operators. -/
import Derived.Test.YtbkgophgclpijaaDoorHb
namespace Go.Proofs.YtbkgophgclpijaaDoor
open Go.RowKit

theorem cmpB_ne2 : ∀ (a b : List UInt8), Lib.compareBytes a b ≠ 2
  | [], [] => by simp [Lib.compareBytes]
  | [], _ :: _ => by simp [Lib.compareBytes]
  | _ :: _, [] => by simp [Lib.compareBytes]
  | x :: r, y :: t => by
    have := cmpB_ne2 r t
    unfold Lib.compareBytes
    split
    · decide
    split
    · decide
    · exact this
theorem truth_f (w : World) : Calls Tryd.prog 34 #[.bool false] w fun e w' => e = .returned (W.V 2 0 W.e0) ∧ w.alloc (W.bxs 2 0 W.e0) = w' := W.truth_any false w
theorem truth_t (w : World) : Calls Tryd.prog 34 #[.bool true] w fun e w' => e = .returned (W.V 2 1 W.e0) ∧ w.alloc (W.bxs 2 1 W.e0) = w' := W.truth_any true w
theorem sgn_texts {x y : Vt} (h : x.1 = 7 ∧ y.1 = 7) : sgnT x y = (0, Lib.compareBytes x.2.2.data.toList y.2.2.data.toList) := if_pos h
theorem sgn_calc {x y : Vt} (h : ¬ (x.1 = 7 ∧ y.1 = 7)) : sgnT x y = calcS x y := if_neg h
set_option maxRecDepth 100000 in
set_option maxHeartbeats 4000000 in
theorem binary_lt (x y : Vt) (hx : WV x.1 x.2.1 x.2.2) (hy : WV y.1 y.2.1 y.2.2) (w : World) :
    Calls Tryd.prog 12 #[.string ⟨#[60]⟩, valV x, valV y] w fun e w' => e = .returned (.tuple #[valV (stR .lt (sgnT x y)).1, .int .i64 (stR .lt (sgnT x y)).2]) ∧ Below w.heap.size w w' := by
  by_cases h : x.1 = 7 ∧ y.1 = 7
  · rw [sgn_texts h]
    obtain ⟨xk, xn, xs⟩ := x
    obtain ⟨yk, yn, ys⟩ := y
    simp only at h
    obtain ⟨rfl, rfl⟩ := h
    clear hx hy
    have C1 := Veil.mk (compareT_any xs ys)
    have hc2 := cmpB_ne2 xs.data.toList ys.data.toList
    simp only
    obtain ⟨c, hc⟩ : ∃ c, c = Lib.compareBytes xs.data.toList ys.data.toList := ⟨_, rfl⟩
    rw [← hc] at C1 hc2 ⊢
    have OD := Veil.mk (ordered_lt c)
    obtain ⟨b, hb⟩ : ∃ b, b = ordS .lt c := ⟨_, rfl⟩
    have HE : Hid (stR .lt (0, c) = (b2 b, 0)) := by
      show _ = _
      rw [hb]
      unfold stR ordB
      rw [if_pos rfl, if_neg hc2]
    rw [← hb] at OD
    clear hc2 hc hb
    cases b
    · go_enter Tryd.func12, Tryd.ntmps12
      go_wp2_with (first | (go_at_call 36; ((with_reducible refine (isOrder_lt _).mono ?_); rintro e w' ⟨rfl, rfl⟩)) | (go_at_call 38; ((with_reducible refine (C1.out _).mono ?_); rintro e w' ⟨rfl, rfl⟩)) | (go_at_call 37; ((with_reducible refine (OD.out _).mono ?_); rintro e w' ⟨rfl, rfl⟩)) | (go_at_call 34; first | ((with_reducible refine (truth_f _).mono ?_); rintro e w' ⟨rfl, rfl⟩) | ((with_reducible refine (truth_t _).mono ?_); rintro e w' ⟨rfl, rfl⟩)))
      refine bodyPost_ret (v := .tuple #[W.V 2 0 W.e0, .int .i64 0]) (by simp [results, Tryd.results12, go_sem]) rfl ⟨by rw [HE.out] <;> rfl, ?_⟩
      exact M.blw_alloc _ (M.blw_alloc _ (M.blw_alloc _ (M.blw_alloc _ (Below.refl _ _))))
    · go_enter Tryd.func12, Tryd.ntmps12
      go_wp2_with (first | (go_at_call 36; ((with_reducible refine (isOrder_lt _).mono ?_); rintro e w' ⟨rfl, rfl⟩)) | (go_at_call 38; ((with_reducible refine (C1.out _).mono ?_); rintro e w' ⟨rfl, rfl⟩)) | (go_at_call 37; ((with_reducible refine (OD.out _).mono ?_); rintro e w' ⟨rfl, rfl⟩)) | (go_at_call 34; first | ((with_reducible refine (truth_f _).mono ?_); rintro e w' ⟨rfl, rfl⟩) | ((with_reducible refine (truth_t _).mono ?_); rintro e w' ⟨rfl, rfl⟩)))
      refine bodyPost_ret (v := .tuple #[W.V 2 1 W.e0, .int .i64 0]) (by simp [results, Tryd.results12, go_sem]) rfl ⟨by rw [HE.out] <;> rfl, ?_⟩
      exact M.blw_alloc _ (M.blw_alloc _ (M.blw_alloc _ (M.blw_alloc _ (Below.refl _ _))))
  · rw [sgn_calc h]
    have CA : Veil (∀ wx, Calls Tryd.prog 39 #[.string ⟨#[60]⟩, valV x, valV y] wx fun e w' => e = .returned (.tuple #[valV (stR .lt (calcS x y)).1, .int .i64 (stR .lt (calcS x y)).2]) ∧ Below wx.heap.size wx w') := ⟨fun wx => calc_any .lt x y hx hy wx⟩
    have b3 := tri_r w x y
    obtain ⟨r, hr⟩ : ∃ r, r = stR .lt (calcS x y) := ⟨_, rfl⟩
    rw [← hr] at CA ⊢
    clear hr hx hy
    obtain ⟨⟨rk, rn, rs⟩, rt⟩ := r
    obtain ⟨xk, xn, xs⟩ := x
    obtain ⟨yk, yn, ys⟩ := y
    unfold tri two at b3
    simp only at h CA b3 ⊢
    have B3 := Veil.mk b3
    clear b3
    by_cases h1 : xk = 7
    · have h2 : (yk == 7) = false := by
        have : ¬ yk = 7 := fun e => h ⟨h1, e⟩
        simpa using this
      subst h1
      clear h
      go_enter Tryd.func12, Tryd.ntmps12
      go_wp2_with (first | (go_at_call 39; ((with_reducible refine (CA.out _).mono ?_); rintro e w2 ⟨rfl, hb2⟩; have z3 := B3.out.on hb2 (by simp); have z0 : w2.cell? ⟨w.heap.size + 1 + 1, 0, none⟩ = some (.int .i64 0) := z3.at_ 0; have z1 : w2.cell? ⟨w.heap.size + 1 + 1, 1, none⟩ = some (.int .i64 0) := z3.at_ 1; have z2 : w2.cell? ⟨w.heap.size + 1 + 1, 2, none⟩ = some (.string ⟨#[]⟩) := z3.at_ 2; have f0 := z3.free 0; have f1 := z3.free 1; have f2 := z3.free 2)))
      refine bodyPost_ret (v := .tuple #[W.V rk rn rs, .int .i64 rt]) (by simp [results, Tryd.results12, go_sem, z0, z1, z2]) rfl ⟨rfl, ?_⟩
      exact ((((((Below.refl w.heap.size w).alloc (Nat.le_refl _) _).alloc (by simp) _).alloc (by simp; omega) _).trans (hb2.mono (by simp; omega))).setCell (p := ⟨w.heap.size + 1 + 1, 0, none⟩) (by show w.heap.size ≤ w.heap.size + 1 + 1; omega) _).setCell (p := ⟨w.heap.size + 1 + 1, 1, none⟩) (by show w.heap.size ≤ w.heap.size + 1 + 1; omega) _ |>.setCell (p := ⟨w.heap.size + 1 + 1, 2, none⟩) (by show w.heap.size ≤ w.heap.size + 1 + 1; omega) _
    · have h2 : (xk == 7) = false := by simpa using h1
      clear h h1
      go_enter Tryd.func12, Tryd.ntmps12
      go_wp2_with (first | (go_at_call 39; ((with_reducible refine (CA.out _).mono ?_); rintro e w2 ⟨rfl, hb2⟩; have z3 := B3.out.on hb2 (by simp); have z0 : w2.cell? ⟨w.heap.size + 1 + 1, 0, none⟩ = some (.int .i64 0) := z3.at_ 0; have z1 : w2.cell? ⟨w.heap.size + 1 + 1, 1, none⟩ = some (.int .i64 0) := z3.at_ 1; have z2 : w2.cell? ⟨w.heap.size + 1 + 1, 2, none⟩ = some (.string ⟨#[]⟩) := z3.at_ 2; have f0 := z3.free 0; have f1 := z3.free 1; have f2 := z3.free 2)))
      refine bodyPost_ret (v := .tuple #[W.V rk rn rs, .int .i64 rt]) (by simp [results, Tryd.results12, go_sem, z0, z1, z2]) rfl ⟨rfl, ?_⟩
      exact ((((((Below.refl w.heap.size w).alloc (Nat.le_refl _) _).alloc (by simp) _).alloc (by simp; omega) _).trans (hb2.mono (by simp; omega))).setCell (p := ⟨w.heap.size + 1 + 1, 0, none⟩) (by show w.heap.size ≤ w.heap.size + 1 + 1; omega) _).setCell (p := ⟨w.heap.size + 1 + 1, 1, none⟩) (by show w.heap.size ≤ w.heap.size + 1 + 1; omega) _ |>.setCell (p := ⟨w.heap.size + 1 + 1, 2, none⟩) (by show w.heap.size ≤ w.heap.size + 1 + 1; omega) _
set_option maxRecDepth 100000 in
set_option maxHeartbeats 4000000 in
theorem binary_gt (x y : Vt) (hx : WV x.1 x.2.1 x.2.2) (hy : WV y.1 y.2.1 y.2.2) (w : World) :
    Calls Tryd.prog 12 #[.string ⟨#[62]⟩, valV x, valV y] w fun e w' => e = .returned (.tuple #[valV (stR .gt (sgnT x y)).1, .int .i64 (stR .gt (sgnT x y)).2]) ∧ Below w.heap.size w w' := by
  by_cases h : x.1 = 7 ∧ y.1 = 7
  · rw [sgn_texts h]
    obtain ⟨xk, xn, xs⟩ := x
    obtain ⟨yk, yn, ys⟩ := y
    simp only at h
    obtain ⟨rfl, rfl⟩ := h
    clear hx hy
    have C1 := Veil.mk (compareT_any xs ys)
    have hc2 := cmpB_ne2 xs.data.toList ys.data.toList
    simp only
    obtain ⟨c, hc⟩ : ∃ c, c = Lib.compareBytes xs.data.toList ys.data.toList := ⟨_, rfl⟩
    rw [← hc] at C1 hc2 ⊢
    have OD := Veil.mk (ordered_gt c)
    obtain ⟨b, hb⟩ : ∃ b, b = ordS .gt c := ⟨_, rfl⟩
    have HE : Hid (stR .gt (0, c) = (b2 b, 0)) := by
      show _ = _
      rw [hb]
      unfold stR ordB
      rw [if_pos rfl, if_neg hc2]
    rw [← hb] at OD
    clear hc2 hc hb
    cases b
    · go_enter Tryd.func12, Tryd.ntmps12
      go_wp2_with (first | (go_at_call 36; ((with_reducible refine (isOrder_gt _).mono ?_); rintro e w' ⟨rfl, rfl⟩)) | (go_at_call 38; ((with_reducible refine (C1.out _).mono ?_); rintro e w' ⟨rfl, rfl⟩)) | (go_at_call 37; ((with_reducible refine (OD.out _).mono ?_); rintro e w' ⟨rfl, rfl⟩)) | (go_at_call 34; first | ((with_reducible refine (truth_f _).mono ?_); rintro e w' ⟨rfl, rfl⟩) | ((with_reducible refine (truth_t _).mono ?_); rintro e w' ⟨rfl, rfl⟩)))
      refine bodyPost_ret (v := .tuple #[W.V 2 0 W.e0, .int .i64 0]) (by simp [results, Tryd.results12, go_sem]) rfl ⟨by rw [HE.out] <;> rfl, ?_⟩
      exact M.blw_alloc _ (M.blw_alloc _ (M.blw_alloc _ (M.blw_alloc _ (Below.refl _ _))))
    · go_enter Tryd.func12, Tryd.ntmps12
      go_wp2_with (first | (go_at_call 36; ((with_reducible refine (isOrder_gt _).mono ?_); rintro e w' ⟨rfl, rfl⟩)) | (go_at_call 38; ((with_reducible refine (C1.out _).mono ?_); rintro e w' ⟨rfl, rfl⟩)) | (go_at_call 37; ((with_reducible refine (OD.out _).mono ?_); rintro e w' ⟨rfl, rfl⟩)) | (go_at_call 34; first | ((with_reducible refine (truth_f _).mono ?_); rintro e w' ⟨rfl, rfl⟩) | ((with_reducible refine (truth_t _).mono ?_); rintro e w' ⟨rfl, rfl⟩)))
      refine bodyPost_ret (v := .tuple #[W.V 2 1 W.e0, .int .i64 0]) (by simp [results, Tryd.results12, go_sem]) rfl ⟨by rw [HE.out] <;> rfl, ?_⟩
      exact M.blw_alloc _ (M.blw_alloc _ (M.blw_alloc _ (M.blw_alloc _ (Below.refl _ _))))
  · rw [sgn_calc h]
    have CA : Veil (∀ wx, Calls Tryd.prog 39 #[.string ⟨#[62]⟩, valV x, valV y] wx fun e w' => e = .returned (.tuple #[valV (stR .gt (calcS x y)).1, .int .i64 (stR .gt (calcS x y)).2]) ∧ Below wx.heap.size wx w') := ⟨fun wx => calc_any .gt x y hx hy wx⟩
    have b3 := tri_r w x y
    obtain ⟨r, hr⟩ : ∃ r, r = stR .gt (calcS x y) := ⟨_, rfl⟩
    rw [← hr] at CA ⊢
    clear hr hx hy
    obtain ⟨⟨rk, rn, rs⟩, rt⟩ := r
    obtain ⟨xk, xn, xs⟩ := x
    obtain ⟨yk, yn, ys⟩ := y
    unfold tri two at b3
    simp only at h CA b3 ⊢
    have B3 := Veil.mk b3
    clear b3
    by_cases h1 : xk = 7
    · have h2 : (yk == 7) = false := by
        have : ¬ yk = 7 := fun e => h ⟨h1, e⟩
        simpa using this
      subst h1
      clear h
      go_enter Tryd.func12, Tryd.ntmps12
      go_wp2_with (first | (go_at_call 39; ((with_reducible refine (CA.out _).mono ?_); rintro e w2 ⟨rfl, hb2⟩; have z3 := B3.out.on hb2 (by simp); have z0 : w2.cell? ⟨w.heap.size + 1 + 1, 0, none⟩ = some (.int .i64 0) := z3.at_ 0; have z1 : w2.cell? ⟨w.heap.size + 1 + 1, 1, none⟩ = some (.int .i64 0) := z3.at_ 1; have z2 : w2.cell? ⟨w.heap.size + 1 + 1, 2, none⟩ = some (.string ⟨#[]⟩) := z3.at_ 2; have f0 := z3.free 0; have f1 := z3.free 1; have f2 := z3.free 2)))
      refine bodyPost_ret (v := .tuple #[W.V rk rn rs, .int .i64 rt]) (by simp [results, Tryd.results12, go_sem, z0, z1, z2]) rfl ⟨rfl, ?_⟩
      exact ((((((Below.refl w.heap.size w).alloc (Nat.le_refl _) _).alloc (by simp) _).alloc (by simp; omega) _).trans (hb2.mono (by simp; omega))).setCell (p := ⟨w.heap.size + 1 + 1, 0, none⟩) (by show w.heap.size ≤ w.heap.size + 1 + 1; omega) _).setCell (p := ⟨w.heap.size + 1 + 1, 1, none⟩) (by show w.heap.size ≤ w.heap.size + 1 + 1; omega) _ |>.setCell (p := ⟨w.heap.size + 1 + 1, 2, none⟩) (by show w.heap.size ≤ w.heap.size + 1 + 1; omega) _
    · have h2 : (xk == 7) = false := by simpa using h1
      clear h h1
      go_enter Tryd.func12, Tryd.ntmps12
      go_wp2_with (first | (go_at_call 39; ((with_reducible refine (CA.out _).mono ?_); rintro e w2 ⟨rfl, hb2⟩; have z3 := B3.out.on hb2 (by simp); have z0 : w2.cell? ⟨w.heap.size + 1 + 1, 0, none⟩ = some (.int .i64 0) := z3.at_ 0; have z1 : w2.cell? ⟨w.heap.size + 1 + 1, 1, none⟩ = some (.int .i64 0) := z3.at_ 1; have z2 : w2.cell? ⟨w.heap.size + 1 + 1, 2, none⟩ = some (.string ⟨#[]⟩) := z3.at_ 2; have f0 := z3.free 0; have f1 := z3.free 1; have f2 := z3.free 2)))
      refine bodyPost_ret (v := .tuple #[W.V rk rn rs, .int .i64 rt]) (by simp [results, Tryd.results12, go_sem, z0, z1, z2]) rfl ⟨rfl, ?_⟩
      exact ((((((Below.refl w.heap.size w).alloc (Nat.le_refl _) _).alloc (by simp) _).alloc (by simp; omega) _).trans (hb2.mono (by simp; omega))).setCell (p := ⟨w.heap.size + 1 + 1, 0, none⟩) (by show w.heap.size ≤ w.heap.size + 1 + 1; omega) _).setCell (p := ⟨w.heap.size + 1 + 1, 1, none⟩) (by show w.heap.size ≤ w.heap.size + 1 + 1; omega) _ |>.setCell (p := ⟨w.heap.size + 1 + 1, 2, none⟩) (by show w.heap.size ≤ w.heap.size + 1 + 1; omega) _
set_option maxRecDepth 100000 in
set_option maxHeartbeats 4000000 in
theorem binary_le (x y : Vt) (hx : WV x.1 x.2.1 x.2.2) (hy : WV y.1 y.2.1 y.2.2) (w : World) :
    Calls Tryd.prog 12 #[.string ⟨#[60, 61]⟩, valV x, valV y] w fun e w' => e = .returned (.tuple #[valV (stR .le (sgnT x y)).1, .int .i64 (stR .le (sgnT x y)).2]) ∧ Below w.heap.size w w' := by
  by_cases h : x.1 = 7 ∧ y.1 = 7
  · rw [sgn_texts h]
    obtain ⟨xk, xn, xs⟩ := x
    obtain ⟨yk, yn, ys⟩ := y
    simp only at h
    obtain ⟨rfl, rfl⟩ := h
    clear hx hy
    have C1 := Veil.mk (compareT_any xs ys)
    have hc2 := cmpB_ne2 xs.data.toList ys.data.toList
    simp only
    obtain ⟨c, hc⟩ : ∃ c, c = Lib.compareBytes xs.data.toList ys.data.toList := ⟨_, rfl⟩
    rw [← hc] at C1 hc2 ⊢
    have OD := Veil.mk (ordered_le c)
    obtain ⟨b, hb⟩ : ∃ b, b = ordS .le c := ⟨_, rfl⟩
    have HE : Hid (stR .le (0, c) = (b2 b, 0)) := by
      show _ = _
      rw [hb]
      unfold stR ordB
      rw [if_pos rfl, if_neg hc2]
    rw [← hb] at OD
    clear hc2 hc hb
    cases b
    · go_enter Tryd.func12, Tryd.ntmps12
      go_wp2_with (first | (go_at_call 36; ((with_reducible refine (isOrder_le _).mono ?_); rintro e w' ⟨rfl, rfl⟩)) | (go_at_call 38; ((with_reducible refine (C1.out _).mono ?_); rintro e w' ⟨rfl, rfl⟩)) | (go_at_call 37; ((with_reducible refine (OD.out _).mono ?_); rintro e w' ⟨rfl, rfl⟩)) | (go_at_call 34; first | ((with_reducible refine (truth_f _).mono ?_); rintro e w' ⟨rfl, rfl⟩) | ((with_reducible refine (truth_t _).mono ?_); rintro e w' ⟨rfl, rfl⟩)))
      refine bodyPost_ret (v := .tuple #[W.V 2 0 W.e0, .int .i64 0]) (by simp [results, Tryd.results12, go_sem]) rfl ⟨by rw [HE.out] <;> rfl, ?_⟩
      exact M.blw_alloc _ (M.blw_alloc _ (M.blw_alloc _ (M.blw_alloc _ (Below.refl _ _))))
    · go_enter Tryd.func12, Tryd.ntmps12
      go_wp2_with (first | (go_at_call 36; ((with_reducible refine (isOrder_le _).mono ?_); rintro e w' ⟨rfl, rfl⟩)) | (go_at_call 38; ((with_reducible refine (C1.out _).mono ?_); rintro e w' ⟨rfl, rfl⟩)) | (go_at_call 37; ((with_reducible refine (OD.out _).mono ?_); rintro e w' ⟨rfl, rfl⟩)) | (go_at_call 34; first | ((with_reducible refine (truth_f _).mono ?_); rintro e w' ⟨rfl, rfl⟩) | ((with_reducible refine (truth_t _).mono ?_); rintro e w' ⟨rfl, rfl⟩)))
      refine bodyPost_ret (v := .tuple #[W.V 2 1 W.e0, .int .i64 0]) (by simp [results, Tryd.results12, go_sem]) rfl ⟨by rw [HE.out] <;> rfl, ?_⟩
      exact M.blw_alloc _ (M.blw_alloc _ (M.blw_alloc _ (M.blw_alloc _ (Below.refl _ _))))
  · rw [sgn_calc h]
    have CA : Veil (∀ wx, Calls Tryd.prog 39 #[.string ⟨#[60, 61]⟩, valV x, valV y] wx fun e w' => e = .returned (.tuple #[valV (stR .le (calcS x y)).1, .int .i64 (stR .le (calcS x y)).2]) ∧ Below wx.heap.size wx w') := ⟨fun wx => calc_any .le x y hx hy wx⟩
    have b3 := tri_r w x y
    obtain ⟨r, hr⟩ : ∃ r, r = stR .le (calcS x y) := ⟨_, rfl⟩
    rw [← hr] at CA ⊢
    clear hr hx hy
    obtain ⟨⟨rk, rn, rs⟩, rt⟩ := r
    obtain ⟨xk, xn, xs⟩ := x
    obtain ⟨yk, yn, ys⟩ := y
    unfold tri two at b3
    simp only at h CA b3 ⊢
    have B3 := Veil.mk b3
    clear b3
    by_cases h1 : xk = 7
    · have h2 : (yk == 7) = false := by
        have : ¬ yk = 7 := fun e => h ⟨h1, e⟩
        simpa using this
      subst h1
      clear h
      go_enter Tryd.func12, Tryd.ntmps12
      go_wp2_with (first | (go_at_call 39; ((with_reducible refine (CA.out _).mono ?_); rintro e w2 ⟨rfl, hb2⟩; have z3 := B3.out.on hb2 (by simp); have z0 : w2.cell? ⟨w.heap.size + 1 + 1, 0, none⟩ = some (.int .i64 0) := z3.at_ 0; have z1 : w2.cell? ⟨w.heap.size + 1 + 1, 1, none⟩ = some (.int .i64 0) := z3.at_ 1; have z2 : w2.cell? ⟨w.heap.size + 1 + 1, 2, none⟩ = some (.string ⟨#[]⟩) := z3.at_ 2; have f0 := z3.free 0; have f1 := z3.free 1; have f2 := z3.free 2)))
      refine bodyPost_ret (v := .tuple #[W.V rk rn rs, .int .i64 rt]) (by simp [results, Tryd.results12, go_sem, z0, z1, z2]) rfl ⟨rfl, ?_⟩
      exact ((((((Below.refl w.heap.size w).alloc (Nat.le_refl _) _).alloc (by simp) _).alloc (by simp; omega) _).trans (hb2.mono (by simp; omega))).setCell (p := ⟨w.heap.size + 1 + 1, 0, none⟩) (by show w.heap.size ≤ w.heap.size + 1 + 1; omega) _).setCell (p := ⟨w.heap.size + 1 + 1, 1, none⟩) (by show w.heap.size ≤ w.heap.size + 1 + 1; omega) _ |>.setCell (p := ⟨w.heap.size + 1 + 1, 2, none⟩) (by show w.heap.size ≤ w.heap.size + 1 + 1; omega) _
    · have h2 : (xk == 7) = false := by simpa using h1
      clear h h1
      go_enter Tryd.func12, Tryd.ntmps12
      go_wp2_with (first | (go_at_call 39; ((with_reducible refine (CA.out _).mono ?_); rintro e w2 ⟨rfl, hb2⟩; have z3 := B3.out.on hb2 (by simp); have z0 : w2.cell? ⟨w.heap.size + 1 + 1, 0, none⟩ = some (.int .i64 0) := z3.at_ 0; have z1 : w2.cell? ⟨w.heap.size + 1 + 1, 1, none⟩ = some (.int .i64 0) := z3.at_ 1; have z2 : w2.cell? ⟨w.heap.size + 1 + 1, 2, none⟩ = some (.string ⟨#[]⟩) := z3.at_ 2; have f0 := z3.free 0; have f1 := z3.free 1; have f2 := z3.free 2)))
      refine bodyPost_ret (v := .tuple #[W.V rk rn rs, .int .i64 rt]) (by simp [results, Tryd.results12, go_sem, z0, z1, z2]) rfl ⟨rfl, ?_⟩
      exact ((((((Below.refl w.heap.size w).alloc (Nat.le_refl _) _).alloc (by simp) _).alloc (by simp; omega) _).trans (hb2.mono (by simp; omega))).setCell (p := ⟨w.heap.size + 1 + 1, 0, none⟩) (by show w.heap.size ≤ w.heap.size + 1 + 1; omega) _).setCell (p := ⟨w.heap.size + 1 + 1, 1, none⟩) (by show w.heap.size ≤ w.heap.size + 1 + 1; omega) _ |>.setCell (p := ⟨w.heap.size + 1 + 1, 2, none⟩) (by show w.heap.size ≤ w.heap.size + 1 + 1; omega) _
set_option maxRecDepth 100000 in
set_option maxHeartbeats 4000000 in
theorem binary_ge (x y : Vt) (hx : WV x.1 x.2.1 x.2.2) (hy : WV y.1 y.2.1 y.2.2) (w : World) :
    Calls Tryd.prog 12 #[.string ⟨#[62, 61]⟩, valV x, valV y] w fun e w' => e = .returned (.tuple #[valV (stR .ge (sgnT x y)).1, .int .i64 (stR .ge (sgnT x y)).2]) ∧ Below w.heap.size w w' := by
  by_cases h : x.1 = 7 ∧ y.1 = 7
  · rw [sgn_texts h]
    obtain ⟨xk, xn, xs⟩ := x
    obtain ⟨yk, yn, ys⟩ := y
    simp only at h
    obtain ⟨rfl, rfl⟩ := h
    clear hx hy
    have C1 := Veil.mk (compareT_any xs ys)
    have hc2 := cmpB_ne2 xs.data.toList ys.data.toList
    simp only
    obtain ⟨c, hc⟩ : ∃ c, c = Lib.compareBytes xs.data.toList ys.data.toList := ⟨_, rfl⟩
    rw [← hc] at C1 hc2 ⊢
    have OD := Veil.mk (ordered_ge c)
    obtain ⟨b, hb⟩ : ∃ b, b = ordS .ge c := ⟨_, rfl⟩
    have HE : Hid (stR .ge (0, c) = (b2 b, 0)) := by
      show _ = _
      rw [hb]
      unfold stR ordB
      rw [if_pos rfl, if_neg hc2]
    rw [← hb] at OD
    clear hc2 hc hb
    cases b
    · go_enter Tryd.func12, Tryd.ntmps12
      go_wp2_with (first | (go_at_call 36; ((with_reducible refine (isOrder_ge _).mono ?_); rintro e w' ⟨rfl, rfl⟩)) | (go_at_call 38; ((with_reducible refine (C1.out _).mono ?_); rintro e w' ⟨rfl, rfl⟩)) | (go_at_call 37; ((with_reducible refine (OD.out _).mono ?_); rintro e w' ⟨rfl, rfl⟩)) | (go_at_call 34; first | ((with_reducible refine (truth_f _).mono ?_); rintro e w' ⟨rfl, rfl⟩) | ((with_reducible refine (truth_t _).mono ?_); rintro e w' ⟨rfl, rfl⟩)))
      refine bodyPost_ret (v := .tuple #[W.V 2 0 W.e0, .int .i64 0]) (by simp [results, Tryd.results12, go_sem]) rfl ⟨by rw [HE.out] <;> rfl, ?_⟩
      exact M.blw_alloc _ (M.blw_alloc _ (M.blw_alloc _ (M.blw_alloc _ (Below.refl _ _))))
    · go_enter Tryd.func12, Tryd.ntmps12
      go_wp2_with (first | (go_at_call 36; ((with_reducible refine (isOrder_ge _).mono ?_); rintro e w' ⟨rfl, rfl⟩)) | (go_at_call 38; ((with_reducible refine (C1.out _).mono ?_); rintro e w' ⟨rfl, rfl⟩)) | (go_at_call 37; ((with_reducible refine (OD.out _).mono ?_); rintro e w' ⟨rfl, rfl⟩)) | (go_at_call 34; first | ((with_reducible refine (truth_f _).mono ?_); rintro e w' ⟨rfl, rfl⟩) | ((with_reducible refine (truth_t _).mono ?_); rintro e w' ⟨rfl, rfl⟩)))
      refine bodyPost_ret (v := .tuple #[W.V 2 1 W.e0, .int .i64 0]) (by simp [results, Tryd.results12, go_sem]) rfl ⟨by rw [HE.out] <;> rfl, ?_⟩
      exact M.blw_alloc _ (M.blw_alloc _ (M.blw_alloc _ (M.blw_alloc _ (Below.refl _ _))))
  · rw [sgn_calc h]
    have CA : Veil (∀ wx, Calls Tryd.prog 39 #[.string ⟨#[62, 61]⟩, valV x, valV y] wx fun e w' => e = .returned (.tuple #[valV (stR .ge (calcS x y)).1, .int .i64 (stR .ge (calcS x y)).2]) ∧ Below wx.heap.size wx w') := ⟨fun wx => calc_any .ge x y hx hy wx⟩
    have b3 := tri_r w x y
    obtain ⟨r, hr⟩ : ∃ r, r = stR .ge (calcS x y) := ⟨_, rfl⟩
    rw [← hr] at CA ⊢
    clear hr hx hy
    obtain ⟨⟨rk, rn, rs⟩, rt⟩ := r
    obtain ⟨xk, xn, xs⟩ := x
    obtain ⟨yk, yn, ys⟩ := y
    unfold tri two at b3
    simp only at h CA b3 ⊢
    have B3 := Veil.mk b3
    clear b3
    by_cases h1 : xk = 7
    · have h2 : (yk == 7) = false := by
        have : ¬ yk = 7 := fun e => h ⟨h1, e⟩
        simpa using this
      subst h1
      clear h
      go_enter Tryd.func12, Tryd.ntmps12
      go_wp2_with (first | (go_at_call 39; ((with_reducible refine (CA.out _).mono ?_); rintro e w2 ⟨rfl, hb2⟩; have z3 := B3.out.on hb2 (by simp); have z0 : w2.cell? ⟨w.heap.size + 1 + 1, 0, none⟩ = some (.int .i64 0) := z3.at_ 0; have z1 : w2.cell? ⟨w.heap.size + 1 + 1, 1, none⟩ = some (.int .i64 0) := z3.at_ 1; have z2 : w2.cell? ⟨w.heap.size + 1 + 1, 2, none⟩ = some (.string ⟨#[]⟩) := z3.at_ 2; have f0 := z3.free 0; have f1 := z3.free 1; have f2 := z3.free 2)))
      refine bodyPost_ret (v := .tuple #[W.V rk rn rs, .int .i64 rt]) (by simp [results, Tryd.results12, go_sem, z0, z1, z2]) rfl ⟨rfl, ?_⟩
      exact ((((((Below.refl w.heap.size w).alloc (Nat.le_refl _) _).alloc (by simp) _).alloc (by simp; omega) _).trans (hb2.mono (by simp; omega))).setCell (p := ⟨w.heap.size + 1 + 1, 0, none⟩) (by show w.heap.size ≤ w.heap.size + 1 + 1; omega) _).setCell (p := ⟨w.heap.size + 1 + 1, 1, none⟩) (by show w.heap.size ≤ w.heap.size + 1 + 1; omega) _ |>.setCell (p := ⟨w.heap.size + 1 + 1, 2, none⟩) (by show w.heap.size ≤ w.heap.size + 1 + 1; omega) _
    · have h2 : (xk == 7) = false := by simpa using h1
      clear h h1
      go_enter Tryd.func12, Tryd.ntmps12
      go_wp2_with (first | (go_at_call 39; ((with_reducible refine (CA.out _).mono ?_); rintro e w2 ⟨rfl, hb2⟩; have z3 := B3.out.on hb2 (by simp); have z0 : w2.cell? ⟨w.heap.size + 1 + 1, 0, none⟩ = some (.int .i64 0) := z3.at_ 0; have z1 : w2.cell? ⟨w.heap.size + 1 + 1, 1, none⟩ = some (.int .i64 0) := z3.at_ 1; have z2 : w2.cell? ⟨w.heap.size + 1 + 1, 2, none⟩ = some (.string ⟨#[]⟩) := z3.at_ 2; have f0 := z3.free 0; have f1 := z3.free 1; have f2 := z3.free 2)))
      refine bodyPost_ret (v := .tuple #[W.V rk rn rs, .int .i64 rt]) (by simp [results, Tryd.results12, go_sem, z0, z1, z2]) rfl ⟨rfl, ?_⟩
      exact ((((((Below.refl w.heap.size w).alloc (Nat.le_refl _) _).alloc (by simp) _).alloc (by simp; omega) _).trans (hb2.mono (by simp; omega))).setCell (p := ⟨w.heap.size + 1 + 1, 0, none⟩) (by show w.heap.size ≤ w.heap.size + 1 + 1; omega) _).setCell (p := ⟨w.heap.size + 1 + 1, 1, none⟩) (by show w.heap.size ≤ w.heap.size + 1 + 1; omega) _ |>.setCell (p := ⟨w.heap.size + 1 + 1, 2, none⟩) (by show w.heap.size ≤ w.heap.size + 1 + 1; omega) _
theorem binary_order (o : OrdOp) (x y : Vt) (hx : WV x.1 x.2.1 x.2.2) (hy : WV y.1 y.2.1 y.2.2) (w : World) :
    Calls Tryd.prog 12 #[.string o.str, valV x, valV y] w fun e w' => e = .returned (.tuple #[valV (stR o (sgnT x y)).1, .int .i64 (stR o (sgnT x y)).2]) ∧ Below w.heap.size w w' := by
  cases o
  · exact binary_lt x y hx hy w
  · exact binary_gt x y hx hy w
  · exact binary_le x y hx hy w
  · exact binary_ge x y hx hy w
end Go.Proofs.YtbkgophgclpijaaDoor
