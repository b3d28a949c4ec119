/- Strict equality: the program's and the reference's. -/
import Derived.Test.YtbkgophgclpijaaDoorEd
import Derived.Test.YtbkgophgclpijaaDoorMr
namespace Go.Proofs.YtbkgophgclpijaaDoor
open Go.RowKit

def isN (x : Vt) : Prop := 3 ≤ x.1 ∧ x.1 ≤ 6
instance (x : Vt) : Decidable (isN x) := by unfold isN; infer_instance
theorem wv_num {k n : Int} {s : ByteArray} (h : WV k n s) (hk : 3 ≤ k ∧ k ≤ 6) : M.Num k n ∧ s = W.e0 := by
  rcases h with ⟨h1, _⟩ | ⟨h1, _⟩ | ⟨h1, h2⟩ | ⟨h1, _⟩ | ⟨h1, _⟩
  · omega
  · omega
  · exact ⟨h1, h2⟩
  · omega
  · omega
theorem not_num {k : Int} (hk : ¬ (3 ≤ k ∧ k ≤ 6)) : (k == 3) = false ∧ (k == 4) = false ∧ (k == 5) = false ∧ (k == 6) = false := by
  refine ⟨?_, ?_, ?_, ?_⟩ <;> (rw [Bool.eq_false_iff]; simp; omega)
theorem is_no (k n : Int) (s : ByteArray) (hk : ¬ (3 ≤ k ∧ k ≤ 6)) (w : World) : Calls Tryd.prog 46 #[W.V k n s] w fun e w' => e = .returned (.bool false) ∧ Below w.heap.size w w' := by
  obtain ⟨h3, h4, h5, h6⟩ := not_num hk
  clear hk
  go_enter Tryd.func46, Tryd.ntmps46
  go_wp2
  go_ret
  exact ⟨rfl, (Below.refl _ _).alloc (Nat.le_refl _) _⟩
theorem is_yes (k n : Int) (h : M.Num k n) (w : World) : Calls Tryd.prog 46 #[W.V k n W.e0] w fun e w' => e = .returned (.bool true) ∧ Below w.heap.size w w' :=
  (M.is_any k n h w).mono fun _ _ he => ⟨he.1, he.2 ▸ (Below.refl _ _).alloc (Nat.le_refl _) _⟩
theorem rnum_no (k n : Int) (s : ByteArray) (hk : ¬ (3 ≤ k ∧ k ≤ 6)) (w : World) : Calls Tryd.prog 48 #[W.V k n s] w fun e w' => e = .returned (.bool false) ∧ Below w.heap.size w w' := by
  obtain ⟨h3, h4, h5, h6⟩ := not_num hk
  clear hk
  go_enter Tryd.func48, Tryd.ntmps48
  go_wp2
  go_ret
  exact ⟨rfl, (Below.refl _ _).alloc (Nat.le_refl _) _⟩
theorem rnum_yes (k n : Int) (s : ByteArray) (h : 3 ≤ k ∧ k ≤ 6) (w : World) : Calls Tryd.prog 48 #[W.V k n s] w fun e w' => e = .returned (.bool true) ∧ Below w.heap.size w w' := by
  rcases (show k = 3 ∨ k = 4 ∨ k = 5 ∨ k = 6 by omega) with rfl | rfl | rfl | rfl
  all_goals
    go_enter Tryd.func48, Tryd.ntmps48
    go_wp2
    go_ret
    exact ⟨rfl, (Below.refl _ _).alloc (Nat.le_refl _) _⟩
def strictT (x y : Vt) : Bool := if isN x ∧ isN y then M.eqR x.1 x.2.1 y.1 y.2.1 else eqB x y
/-- Two values in their boxes, as a function of two values lays them. -/
abbrev two (w : World) (x y : Vt) : World := (w.alloc (.cells #[.int .i64 x.1, .int .i64 x.2.1, .string x.2.2] 27)).alloc (.cells #[.int .i64 y.1, .int .i64 y.2.1, .string y.2.2] 27)
/-- The six cells of two values in blocks a and b. -/
def Six (w' : World) (a b : Nat) (x y : Vt) : Prop := w'.cell? ⟨a, 0, none⟩ = some (.int .i64 x.1) ∧ w'.cell? ⟨a, 1, none⟩ = some (.int .i64 x.2.1) ∧ w'.cell? ⟨a, 2, none⟩ = some (.string x.2.2) ∧ w'.cell? ⟨b, 0, none⟩ = some (.int .i64 y.1) ∧ w'.cell? ⟨b, 1, none⟩ = some (.int .i64 y.2.1) ∧ w'.cell? ⟨b, 2, none⟩ = some (.string y.2.2)
theorem Six.on {w w' : World} {a b : Nat} {x y : Vt} (h : Six w a b x y) (hb : Below w.heap.size w w') : Six w' a b x y :=
  ⟨cell_later hb h.1 (Nat.le_refl _), cell_later hb h.2.1 (Nat.le_refl _), cell_later hb h.2.2.1 (Nat.le_refl _), cell_later hb h.2.2.2.1 (Nat.le_refl _), cell_later hb h.2.2.2.2.1 (Nat.le_refl _), cell_later hb h.2.2.2.2.2 (Nat.le_refl _)⟩
theorem two_six (w : World) (x y : Vt) : Six (two w x y) w.heap.size (w.heap.size + 1) x y := by
  have b1 : Box (two w x y) w.heap.size 27 #[.int .i64 x.1, .int .i64 x.2.1, .string x.2.2] := (Box.new _ _ _).more _
  have b2 : Box (two w x y) (w.heap.size + 1) 27 #[.int .i64 y.1, .int .i64 y.2.1, .string y.2.2] := by
    have := Box.new (w.alloc (.cells #[.int .i64 x.1, .int .i64 x.2.1, .string x.2.2] 27)) 27 #[.int .i64 y.1, .int .i64 y.2.1, .string y.2.2]
    simpa using this
  exact ⟨b1.at_ 0, b1.at_ 1, b1.at_ 2, b2.at_ 0, b2.at_ 1, b2.at_ 2⟩
theorem two_below (w : World) (x y : Vt) : Below w.heap.size w (two w x y) := ((Below.refl _ _).alloc (Nat.le_refl _) _).alloc (by simp) _

set_option maxRecDepth 100000 in
set_option maxHeartbeats 2000000 in
theorem strict_any (x y : Vt) (hx : WV x.1 x.2.1 x.2.2) (hy : WV y.1 y.2.1 y.2.2) (w : World) : Calls Tryd.prog 15 #[valV x, valV y] w fun e w' => e = .returned (.bool (strictT x y)) ∧ Below w.heap.size w w' := by
  obtain ⟨WW, hW⟩ : ∃ W, W = two w x y := ⟨_, rfl⟩
  have hB : Below w.heap.size w WW := hW ▸ two_below w x y
  have HS : Veil (Six WW w.heap.size (w.heap.size + 1) x y) := ⟨hW ▸ two_six w x y⟩
  have hw0 := hW.symm
  unfold two at hw0
  obtain ⟨xk, xn, xs⟩ := x
  obtain ⟨yk, yn, ys⟩ := y
  simp only at hx hy hw0
  have HW := Lib.hid hw0
  obtain ⟨p0, p1, p2, r0, r1, r2⟩ := HS.out
  simp only at p0 p1 p2 r0 r1 r2
  clear hW hw0
  by_cases h1 : 3 ≤ xk ∧ xk ≤ 6
  · obtain ⟨nx, rfl⟩ := wv_num hx h1
    by_cases h2 : 3 ≤ yk ∧ yk ≤ 6
    · obtain ⟨ny, rfl⟩ := wv_num hy h2
      have HE : Hid (strictT (xk, xn, W.e0) (yk, yn, W.e0) = M.eqR xk xn yk yn) := if_pos ⟨h1, h2⟩
      have ix := Veil.mk (is_yes xk xn nx)
      have iy := Veil.mk (is_yes yk yn ny)
      have ie := Veil.mk (M.equal_any xk xn yk yn nx ny)
      clear hx hy h1 h2 nx ny
      go_enter Tryd.func15, Tryd.ntmps15
      go_upto_region 1 with (fail)
      rw [HW.out]
      go_wp2_with (first | (go_at_call 46; first | ((with_reducible refine (ix.out _).mono ?_); rintro e w2 ⟨rfl, hb2⟩; obtain ⟨p0, p1, p2, r0, r1, r2⟩ := HS.out.on hb2) | ((with_reducible refine (iy.out _).mono ?_); rintro e w3 ⟨rfl, hb3⟩; obtain ⟨p0, p1, p2, r0, r1, r2⟩ := HS.out.on (hb2.trans (hb3.mono hb2.size)))) | (go_at_call 47; ((with_reducible refine (ie.out _).mono ?_); rintro e w4 ⟨rfl, hb4⟩)))
      go_ret
      exact ⟨by rw [HE.out]; rfl, hB.trans ((hb2.trans ((hb3.trans (hb4.mono hb3.size)).mono hb2.size)).mono hB.size)⟩
    · have HE : Hid (strictT (xk, xn, W.e0) (yk, yn, ys) = false) := by
        show _ = _
        have e1 : ¬ (isN (xk, xn, W.e0) ∧ isN (yk, yn, ys)) := fun h => h2 h.2
        unfold strictT
        rw [if_neg e1]
        refine decide_eq_false (fun e => ?_)
        injection e with e
        omega
      have hne : ¬ xk = yk := by omega
      have ix := Veil.mk (is_yes xk xn nx)
      have iy := Veil.mk (is_no yk yn ys h2)
      clear hx hy h1 h2 nx
      go_enter Tryd.func15, Tryd.ntmps15
      go_upto_region 1 with (fail)
      rw [HW.out]
      go_wp2_with (first | (go_at_call 46; first | ((with_reducible refine (ix.out _).mono ?_); rintro e w2 ⟨rfl, hb2⟩; obtain ⟨p0, p1, p2, r0, r1, r2⟩ := HS.out.on hb2) | ((with_reducible refine (iy.out _).mono ?_); rintro e w3 ⟨rfl, hb3⟩; obtain ⟨p0, p1, p2, r0, r1, r2⟩ := HS.out.on (hb2.trans (hb3.mono hb2.size)))))
      go_ret
      exact ⟨by rw [HE.out]; rfl, hB.trans ((hb2.trans (hb3.mono hb2.size)).mono hB.size)⟩
  · have e1 : ¬ (isN (xk, xn, xs) ∧ isN (yk, yn, ys)) := fun h => h1 h.1
    have HE : Hid (strictT (xk, xn, xs) (yk, yn, ys) = eqB (xk, xn, xs) (yk, yn, ys)) := by show _ = _; unfold strictT; rw [if_neg e1]
    have ix := Veil.mk (is_no xk xn xs h1)
    clear hx hy h1 e1
    by_cases h : (xk, xn, xs) = (yk, yn, ys)
    · have HF : Hid (eqB (xk, xn, xs) (yk, yn, ys) = true) := decide_eq_true h
      injection h with ea eb
      injection eb with eb ec
      subst ea eb ec
      go_enter Tryd.func15, Tryd.ntmps15
      go_upto_region 1 with (fail)
      rw [HW.out]
      go_wp2_with (first | (go_at_call 46; first | ((with_reducible refine (ix.out _).mono ?_); rintro e w2 ⟨rfl, hb2⟩; obtain ⟨p0, p1, p2, r0, r1, r2⟩ := HS.out.on hb2) | ((with_reducible refine (ix.out _).mono ?_); rintro e w3 ⟨rfl, hb3⟩; obtain ⟨p0, p1, p2, r0, r1, r2⟩ := HS.out.on (hb2.trans (hb3.mono hb2.size)))))
      go_ret
      exact ⟨by rw [HE.out, HF.out]; rfl, hB.trans (hb2.mono hB.size)⟩
    · have HF : Hid (eqB (xk, xn, xs) (yk, yn, ys) = false) := decide_eq_false h
      have hne := vne2 h
      simp only at hne
      clear h
      rcases hne with g1 | ⟨g1, g2⟩ | ⟨g1, g2, g3⟩
      case' inr.inl => subst g1
      case' inr.inr => subst g1 g2
      all_goals
        go_enter Tryd.func15, Tryd.ntmps15
        go_upto_region 1 with (fail)
        rw [HW.out]
        go_wp2_with (first | (go_at_call 46; first | ((with_reducible refine (ix.out _).mono ?_); rintro e w2 ⟨rfl, hb2⟩; obtain ⟨p0, p1, p2, r0, r1, r2⟩ := HS.out.on hb2) | ((with_reducible refine (ix.out _).mono ?_); rintro e w3 ⟨rfl, hb3⟩; obtain ⟨p0, p1, p2, r0, r1, r2⟩ := HS.out.on (hb2.trans (hb3.mono hb2.size)))))
        go_ret
        exact ⟨by rw [HE.out, HF.out]; rfl, hB.trans (hb2.mono hB.size)⟩
end Go.Proofs.YtbkgophgclpijaaDoor
