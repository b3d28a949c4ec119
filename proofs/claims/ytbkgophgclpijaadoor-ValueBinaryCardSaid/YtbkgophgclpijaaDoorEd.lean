/- Same, SameZero and the law's test of zero. -/
import Derived.Test.YtbkgophgclpijaaDoorEc
import Derived.Deep.RegionHeld3
namespace Go.Proofs.YtbkgophgclpijaaDoor
open Go.RowKit

theorem vne2 {x y : Vt} (h : ¬ x = y) : (¬ x.1 = y.1) ∨ (x.1 = y.1 ∧ ¬ x.2.1 = y.2.1) ∨ (x.1 = y.1 ∧ x.2.1 = y.2.1 ∧ ¬ x.2.2.toList = y.2.2.toList) := vne (fun e => h e.symm)
def eqB (x y : Vt) : Bool := decide (x = y)
set_option maxRecDepth 100000 in
theorem same_any (x y : Vt) (w : World) : Calls Tryd.prog 17 #[valV x, valV y] w fun e w' => e = .returned (.bool (eqB x y)) ∧ Below w.heap.size w w' := by
  have hB : Below w.heap.size w ((w.alloc (.cells #[.int .i64 x.1, .int .i64 x.2.1, .string x.2.2] 27)).alloc (.cells #[.int .i64 y.1, .int .i64 y.2.1, .string y.2.2] 27)) := ((Below.refl _ _).alloc (Nat.le_refl _) _).alloc (by simp) _
  by_cases h : x = y
  · have HE : Hid (eqB x y = true) := decide_eq_true h
    subst h
    obtain ⟨k, n, s⟩ := x
    simp only at hB
    go_enter Tryd.func17, Tryd.ntmps17
    go_wp2
    go_ret
    exact ⟨by rw [HE.out]; rfl, hB⟩
  · have HE : Hid (eqB x y = false) := decide_eq_false h
    have hne := vne2 h
    obtain ⟨k, n, s⟩ := x
    obtain ⟨k2, n2, s2⟩ := y
    simp only at hB hne
    clear h
    rcases hne with h1 | ⟨h1, h2⟩ | ⟨h1, h2, h3⟩
    · go_enter Tryd.func17, Tryd.ntmps17
      go_wp2
      go_ret
      exact ⟨by rw [HE.out]; rfl, hB⟩
    · subst h1
      go_enter Tryd.func17, Tryd.ntmps17
      go_wp2
      go_ret
      exact ⟨by rw [HE.out]; rfl, hB⟩
    · subst h1 h2
      go_enter Tryd.func17, Tryd.ntmps17
      go_wp2
      go_ret
      exact ⟨by rw [HE.out]; rfl, hB⟩

set_option maxRecDepth 100000 in
theorem sameZero_any (x y : Vt) (hx : WV x.1 x.2.1 x.2.2) (hy : WV y.1 y.2.1 y.2.2) (w : World) : Calls Tryd.prog 18 #[valV x, valV y] w fun e w' => e = .returned (.bool (eqB (keyT x) (keyT y))) ∧ Below w.heap.size w w' := by
  have KX := Veil.mk (key_any x hx)
  have KY := Veil.mk (key_any y hy)
  obtain ⟨p, hp⟩ : ∃ p, p = keyT x := ⟨_, rfl⟩
  obtain ⟨q, hq⟩ : ∃ q, q = keyT y := ⟨_, rfl⟩
  rw [← hp] at KX ⊢
  rw [← hq] at KY ⊢
  clear hp hq
  obtain ⟨W, hW⟩ : ∃ W, W = (w.alloc (.cells #[.int .i64 x.1, .int .i64 x.2.1, .string x.2.2] 27)).alloc (.cells #[.int .i64 y.1, .int .i64 y.2.1, .string y.2.2] 27) := ⟨_, rfl⟩
  have hB : Below w.heap.size w W := by rw [hW]; exact ((Below.refl _ _).alloc (Nat.le_refl _) _).alloc (by simp) _
  have b1 : Box W w.heap.size 27 #[.int .i64 x.1, .int .i64 x.2.1, .string x.2.2] := by rw [hW]; exact (Box.new _ _ _).more _
  have b2 : Box W (w.heap.size + 1) 27 #[.int .i64 y.1, .int .i64 y.2.1, .string y.2.2] := by
    rw [hW]
    have := Box.new (w.alloc (.cells #[.int .i64 x.1, .int .i64 x.2.1, .string x.2.2] 27)) 27 #[.int .i64 y.1, .int .i64 y.2.1, .string y.2.2]
    simpa using this
  have a0 : W.cell? ⟨w.heap.size, 0, none⟩ = some (.int .i64 x.1) := b1.at_ 0
  have a1 : W.cell? ⟨w.heap.size, 1, none⟩ = some (.int .i64 x.2.1) := b1.at_ 1
  have a2 : W.cell? ⟨w.heap.size, 2, none⟩ = some (.string x.2.2) := b1.at_ 2
  have c0 : W.cell? ⟨w.heap.size + 1, 0, none⟩ = some (.int .i64 y.1) := b2.at_ 0
  have c1 : W.cell? ⟨w.heap.size + 1, 1, none⟩ = some (.int .i64 y.2.1) := b2.at_ 1
  have c2 : W.cell? ⟨w.heap.size + 1, 2, none⟩ = some (.string y.2.2) := b2.at_ 2
  have HW := Lib.hid hW.symm
  obtain ⟨xk, xn, xs⟩ := x
  obtain ⟨yk, yn, ys⟩ := y
  simp only at a0 a1 a2 c0 c1 c2 HW
  clear hW hx hy b1 b2
  go_enter Tryd.func18, Tryd.ntmps18
  go_upto_region 1 with (fail)
  rw [HW.out]
  have HS : Veil (∀ w', Below W.heap.size W w' → w'.cell? ⟨w.heap.size, 0, none⟩ = some (.int .i64 xk) ∧ w'.cell? ⟨w.heap.size, 1, none⟩ = some (.int .i64 xn) ∧ w'.cell? ⟨w.heap.size, 2, none⟩ = some (.string xs) ∧ w'.cell? ⟨w.heap.size + 1, 0, none⟩ = some (.int .i64 yk) ∧ w'.cell? ⟨w.heap.size + 1, 1, none⟩ = some (.int .i64 yn) ∧ w'.cell? ⟨w.heap.size + 1, 2, none⟩ = some (.string ys)) :=
    ⟨fun w' h => ⟨cell_later h a0 (Nat.le_refl _), cell_later h a1 (Nat.le_refl _), cell_later h a2 (Nat.le_refl _), cell_later h c0 (Nat.le_refl _), cell_later h c1 (Nat.le_refl _), cell_later h c2 (Nat.le_refl _)⟩⟩
  by_cases h : p = q
  · have HE : Hid (eqB p q = true) := decide_eq_true h
    subst h
    obtain ⟨pk, pn, ps⟩ := p
    go_region_held3 (fun w' => w'.cell? ⟨w.heap.size, 0, none⟩ = some (.int .i64 xk) ∧ w'.cell? ⟨w.heap.size, 1, none⟩ = some (.int .i64 xn) ∧ w'.cell? ⟨w.heap.size, 2, none⟩ = some (.string xs) ∧ w'.cell? ⟨w.heap.size + 1, 0, none⟩ = some (.int .i64 yk) ∧ w'.cell? ⟨w.heap.size + 1, 1, none⟩ = some (.int .i64 yn) ∧ w'.cell? ⟨w.heap.size + 1, 2, none⟩ = some (.string ys))
      (first | exact HS.out _ ((Below.refl _ _).drew.trans (hb2.trans (hb3.mono hb2.size))) | exact HS.out _ ((Below.refl _ _).drew.trans (hb3.trans (hb2.mono hb3.size))) | exact HS.out _ ((Below.refl _ _).drew.trans hb2) | exact HS.out _ ((Below.refl _ _).drew.trans hb3) | exact HS.out _ (Below.refl _ _).drew)
      (first | (go_at_call 20; first | ((with_reducible refine (KX.out _).mono ?_); rintro e w2 ⟨rfl, hb2⟩) | ((with_reducible refine (KY.out _).mono ?_); rintro e w3 ⟨rfl, hb3⟩)))
    go_wp2
    go_ret
    exact ⟨by rw [HE.out]; rfl, by first | exact hB.trans (((Below.refl _ _).drew.trans (hb2.trans (hb3.mono hb2.size))).mono hB.size) | exact hB.trans (((Below.refl _ _).drew.trans (hb3.trans (hb2.mono hb3.size))).mono hB.size)⟩
  · have HE : Hid (eqB p q = false) := decide_eq_false h
    have hne := vne2 h
    obtain ⟨pk, pn, ps⟩ := p
    obtain ⟨qk, qn, qs⟩ := q
    simp only at hne
    clear h
    rcases hne with h1 | ⟨h1, h2⟩ | ⟨h1, h2, h3⟩
    · skip
      go_region_held3 (fun w' => w'.cell? ⟨w.heap.size, 0, none⟩ = some (.int .i64 xk) ∧ w'.cell? ⟨w.heap.size, 1, none⟩ = some (.int .i64 xn) ∧ w'.cell? ⟨w.heap.size, 2, none⟩ = some (.string xs) ∧ w'.cell? ⟨w.heap.size + 1, 0, none⟩ = some (.int .i64 yk) ∧ w'.cell? ⟨w.heap.size + 1, 1, none⟩ = some (.int .i64 yn) ∧ w'.cell? ⟨w.heap.size + 1, 2, none⟩ = some (.string ys))
        (first | exact HS.out _ ((Below.refl _ _).drew.trans (hb2.trans (hb3.mono hb2.size))) | exact HS.out _ ((Below.refl _ _).drew.trans (hb3.trans (hb2.mono hb3.size))) | exact HS.out _ ((Below.refl _ _).drew.trans hb2) | exact HS.out _ ((Below.refl _ _).drew.trans hb3) | exact HS.out _ (Below.refl _ _).drew)
        (first | (go_at_call 20; first | ((with_reducible refine (KX.out _).mono ?_); rintro e w2 ⟨rfl, hb2⟩) | ((with_reducible refine (KY.out _).mono ?_); rintro e w3 ⟨rfl, hb3⟩)))
      go_wp2
      go_ret
      exact ⟨by rw [HE.out]; rfl, by first | exact hB.trans (((Below.refl _ _).drew.trans (hb2.trans (hb3.mono hb2.size))).mono hB.size) | exact hB.trans (((Below.refl _ _).drew.trans (hb3.trans (hb2.mono hb3.size))).mono hB.size)⟩
    · subst h1
      go_region_held3 (fun w' => w'.cell? ⟨w.heap.size, 0, none⟩ = some (.int .i64 xk) ∧ w'.cell? ⟨w.heap.size, 1, none⟩ = some (.int .i64 xn) ∧ w'.cell? ⟨w.heap.size, 2, none⟩ = some (.string xs) ∧ w'.cell? ⟨w.heap.size + 1, 0, none⟩ = some (.int .i64 yk) ∧ w'.cell? ⟨w.heap.size + 1, 1, none⟩ = some (.int .i64 yn) ∧ w'.cell? ⟨w.heap.size + 1, 2, none⟩ = some (.string ys))
        (first | exact HS.out _ ((Below.refl _ _).drew.trans (hb2.trans (hb3.mono hb2.size))) | exact HS.out _ ((Below.refl _ _).drew.trans (hb3.trans (hb2.mono hb3.size))) | exact HS.out _ ((Below.refl _ _).drew.trans hb2) | exact HS.out _ ((Below.refl _ _).drew.trans hb3) | exact HS.out _ (Below.refl _ _).drew)
        (first | (go_at_call 20; first | ((with_reducible refine (KX.out _).mono ?_); rintro e w2 ⟨rfl, hb2⟩) | ((with_reducible refine (KY.out _).mono ?_); rintro e w3 ⟨rfl, hb3⟩)))
      go_wp2
      go_ret
      exact ⟨by rw [HE.out]; rfl, by first | exact hB.trans (((Below.refl _ _).drew.trans (hb2.trans (hb3.mono hb2.size))).mono hB.size) | exact hB.trans (((Below.refl _ _).drew.trans (hb3.trans (hb2.mono hb3.size))).mono hB.size)⟩
    · subst h1 h2
      go_region_held3 (fun w' => w'.cell? ⟨w.heap.size, 0, none⟩ = some (.int .i64 xk) ∧ w'.cell? ⟨w.heap.size, 1, none⟩ = some (.int .i64 xn) ∧ w'.cell? ⟨w.heap.size, 2, none⟩ = some (.string xs) ∧ w'.cell? ⟨w.heap.size + 1, 0, none⟩ = some (.int .i64 yk) ∧ w'.cell? ⟨w.heap.size + 1, 1, none⟩ = some (.int .i64 yn) ∧ w'.cell? ⟨w.heap.size + 1, 2, none⟩ = some (.string ys))
        (first | exact HS.out _ ((Below.refl _ _).drew.trans (hb2.trans (hb3.mono hb2.size))) | exact HS.out _ ((Below.refl _ _).drew.trans (hb3.trans (hb2.mono hb3.size))) | exact HS.out _ ((Below.refl _ _).drew.trans hb2) | exact HS.out _ ((Below.refl _ _).drew.trans hb3) | exact HS.out _ (Below.refl _ _).drew)
        (first | (go_at_call 20; first | ((with_reducible refine (KX.out _).mono ?_); rintro e w2 ⟨rfl, hb2⟩) | ((with_reducible refine (KY.out _).mono ?_); rintro e w3 ⟨rfl, hb3⟩)))
      go_wp2
      go_ret
      exact ⟨by rw [HE.out]; rfl, by first | exact hB.trans (((Below.refl _ _).drew.trans (hb2.trans (hb3.mono hb2.size))).mono hB.size) | exact hB.trans (((Below.refl _ _).drew.trans (hb3.trans (hb2.mono hb3.size))).mono hB.size)⟩

/-- The law's own test of zero. -/
def zeroT (x : Vt) : Bool := decide (x.1 = 6) || (decide (x.1 = 3) && decide (x.2.1 = 0))
theorem zero_any (x : Vt) (w : World) : Calls Tryd.prog 14 #[valV x] w fun e w' => e = .returned (.bool (zeroT x)) ∧ Below w.heap.size w w' := by
  obtain ⟨k, n, s⟩ := x
  have hB : Below w.heap.size w (w.alloc (.cells #[.int .i64 k, .int .i64 n, .string s] 27)) := (Below.refl _ _).alloc (Nat.le_refl _) _
  by_cases h6 : k = 6
  · have HE : Hid (zeroT (k, n, s) = true) := by show _ = _; simp [zeroT, h6]
    subst h6
    go_enter Tryd.func14, Tryd.ntmps14
    go_wp2
    go_ret
    exact ⟨by rw [HE.out]; rfl, hB⟩
  have h6b : (k == 6) = false := by simpa using h6
  by_cases h3 : k = 3
  · subst h3
    have HE : Hid (zeroT (3, n, s) = (n == 0)) := by show _ = _; simp [zeroT]; rfl
    clear h6 h6b
    go_enter Tryd.func14, Tryd.ntmps14
    go_wp2
    go_ret
    exact ⟨by rw [HE.out]; rfl, hB⟩
  have h3b : (k == 3) = false := by simpa using h3
  have HE : Hid (zeroT (k, n, s) = false) := by show _ = _; simp [zeroT, h6, h3]
  clear h6 h3
  go_enter Tryd.func14, Tryd.ntmps14
  go_wp2
  go_ret
  exact ⟨by rw [HE.out]; rfl, hB⟩
end Go.Proofs.YtbkgophgclpijaaDoor
