/- Comparing two values: calculate and Binary at the order operators. -/
import Derived.Test.YtbkgophgclpijaaDoorHa
import Derived.Deep.DeepCutAuto
namespace Go.Proofs.YtbkgophgclpijaaDoor
open Go.RowKit

theorem number_num {x : Vt} (hx : WV x.1 x.2.1 x.2.2) (h : (numberT x).2 = 0) : M.Num (numberT x).1.1 (numberT x).1.2.1 ∧ (numberT x).1.2.2 = W.e0 := by
  obtain ⟨k, n, s⟩ := x
  simp only at hx
  rcases wv_ways hx with ⟨rfl, rfl, rfl⟩ | ⟨rfl, rfl, rfl⟩ | ⟨rfl, rfl, rfl⟩ | ⟨rfl, rfl, rfl⟩ | ⟨rfl, rfl, rfl⟩ | ⟨rfl, rfl, rfl⟩ | ⟨rfl, rfl, rfl⟩ | ⟨rfl, rfl, rfl⟩ | ⟨rfl, rfl, rfl⟩ | ⟨rfl, hn, rfl⟩ | ⟨rfl, rfl, _⟩ | ⟨rfl, _, rfl⟩ | ⟨rfl, _, rfl⟩
  · exact ⟨.inl ⟨rfl, rfl⟩, rfl⟩
  · exact ⟨.inr (.inr (.inr (.inr ⟨rfl, by decide, by decide⟩))), rfl⟩
  · exact absurd h (by decide)
  · exact ⟨.inr (.inr (.inr (.inr ⟨rfl, by decide, by decide⟩))), rfl⟩
  · exact ⟨.inr (.inr (.inr (.inr ⟨rfl, by decide, by decide⟩))), rfl⟩
  · exact ⟨.inl ⟨rfl, rfl⟩, rfl⟩
  · exact ⟨.inr (.inl ⟨rfl, rfl⟩), rfl⟩
  · exact ⟨.inr (.inr (.inl ⟨rfl, rfl⟩)), rfl⟩
  · exact ⟨.inr (.inr (.inr (.inl ⟨rfl, rfl⟩))), rfl⟩
  · exact ⟨.inr (.inr (.inr (.inr ⟨rfl, hn.1, hn.2⟩))), rfl⟩
  · exact absurd h (by unfold numberT; simp)
  · exact absurd h (by unfold numberT; simp)
  · exact absurd h (by unfold numberT; simp)
def b2 (b : Bool) : Vt := (2, if b then 1 else 0, W.e0)
def calcS (x y : Vt) : Int × Int := if (numberT x).2 = 0 then (if (numberT y).2 = 0 then (0, M.cmpR (numberT x).1.1 (numberT x).1.2.1 (numberT y).1.1 (numberT y).1.2.1) else ((numberT y).2, 0)) else ((numberT x).2, 0)
/-- A status, and a sign. -/
def sgnT (x y : Vt) : Int × Int := if x.1 = 7 ∧ y.1 = 7 then (0, Lib.compareBytes x.2.2.data.toList y.2.2.data.toList) else calcS x y
def stR (o : OrdOp) (p : Int × Int) : Vt × Int := if p.1 = 0 then (b2 (ordB o p.2), 0) else ((0, 0, W.e0), p.1)
theorem truthT_any (b : Bool) (w : World) : Calls Tryd.prog 34 #[.bool b] w fun e w' => e = .returned (valV (b2 b)) ∧ Below w.heap.size w w' :=
  (W.truth_any b w).mono fun _ _ h => ⟨h.1, h.2 ▸ (Below.refl _ _).alloc (Nat.le_refl _) _⟩
/-- Two values and a result in their boxes. -/
abbrev tri (w : World) (x y : Vt) : World := (two w x y).alloc (.cells #[.int .i64 0, .int .i64 0, .string ⟨#[]⟩] 27)
theorem tri_x (w : World) (x y : Vt) : Box (tri w x y) w.heap.size 27 #[.int .i64 x.1, .int .i64 x.2.1, .string x.2.2] := ((Box.new _ _ _).more _).more _
theorem tri_y (w : World) (x y : Vt) : Box (tri w x y) (w.heap.size + 1) 27 #[.int .i64 y.1, .int .i64 y.2.1, .string y.2.2] := by
  have := (Box.new (w.alloc (.cells #[.int .i64 x.1, .int .i64 x.2.1, .string x.2.2] 27)) 27 #[.int .i64 y.1, .int .i64 y.2.1, .string y.2.2]).more (.cells #[.int .i64 0, .int .i64 0, .string ⟨#[]⟩] 27)
  simpa using this
theorem tri_r (w : World) (x y : Vt) : Box (tri w x y) (w.heap.size + 1 + 1) 27 #[.int .i64 0, .int .i64 0, .string ⟨#[]⟩] := by
  have := Box.new (two w x y) 27 #[.int .i64 0, .int .i64 0, .string ⟨#[]⟩]
  simpa using this
theorem tri_below (w : World) (x y : Vt) : Below w.heap.size w (tri w x y) := (two_below w x y).alloc (two_below w x y).size _

set_option maxRecDepth 100000 in
set_option maxHeartbeats 4000000 in
theorem calc_any (o : OrdOp) (x y : Vt) (hx : WV x.1 x.2.1 x.2.2) (hy : WV y.1 y.2.1 y.2.2) (w : World) :
    Calls Tryd.prog 39 #[.string o.str, valV x, valV y] w fun e w' => e = .returned (.tuple #[valV (stR o (calcS x y)).1, .int .i64 (stR o (calcS x y)).2]) ∧ Below w.heap.size w w' := by
  have N1 := Veil.mk (number_any x hx)
  have N2 := Veil.mk (number_any y hy)
  have M1 := Veil.mk (number_num hx)
  have M2 := Veil.mk (number_num hy)
  obtain ⟨W0, hW⟩ : ∃ v, v = tri w x y := ⟨_, rfl⟩
  have hB : Below w.heap.size w W0 := hW ▸ tri_below w x y
  have b1 := tri_x w x y
  have b2' := tri_y w x y
  have b3 := tri_r w x y
  rw [← hW] at b1 b2' b3
  have hw0 := hW.symm
  unfold tri two at hw0
  clear hW
  obtain ⟨s, hs⟩ : ∃ s, s = o.str := ⟨_, rfl⟩
  have OR : Veil (∀ wx, Calls Tryd.prog 36 #[.string s] wx fun e w' => e = .returned (.bool true) ∧ wx = w') := ⟨fun wx => hs ▸ isOrder_any o wx⟩
  have CC : Veil (∀ k1 n1 k2 n2, M.Num k1 n1 → M.Num k2 n2 → ∀ wx, Calls Tryd.prog 60 #[.string s, W.V k1 n1 W.e0, W.V k2 n2 W.e0] wx fun e w' => e = .returned (.bool (ordB o (M.cmpR k1 n1 k2 n2))) ∧ Below wx.heap.size wx w') := ⟨fun k1 n1 k2 n2 h1 h2 wx => hs ▸ compare_any o k1 n1 k2 n2 h1 h2 wx⟩
  rw [← hs]
  have HR : Veil (calcS x y = calcS x y) := ⟨rfl⟩
  unfold calcS at HR ⊢
  clear HR hs hx hy
  obtain ⟨nx, hnx⟩ : ∃ p, p = numberT x := ⟨_, rfl⟩
  obtain ⟨ny, hny⟩ : ∃ p, p = numberT y := ⟨_, rfl⟩
  rw [← hnx] at N1 M1 ⊢
  rw [← hny] at N2 M2 ⊢
  clear hnx hny
  obtain ⟨⟨nk, nn, ns⟩, st⟩ := nx
  obtain ⟨⟨mk, mn, ms⟩, tt⟩ := ny
  obtain ⟨xk, xn, xs⟩ := x
  obtain ⟨yk, yn, ys⟩ := y
  simp only at N1 N2 M1 M2 b1 b2' b3 hw0 ⊢
  have HW := Lib.hid hw0
  clear hw0
  have p0 : W0.cell? ⟨w.heap.size, 0, none⟩ = some (.int .i64 xk) := b1.at_ 0
  have p1 : W0.cell? ⟨w.heap.size, 1, none⟩ = some (.int .i64 xn) := b1.at_ 1
  have p2 : W0.cell? ⟨w.heap.size, 2, none⟩ = some (.string xs) := b1.at_ 2
  have B2 := Veil.mk b2'
  have B3 := Veil.mk b3
  clear b1 b2' b3
  by_cases h0 : st = 0
  case neg =>
    have h0b : (st != 0) = true := by simpa using h0
    have h0c : (st == 0) = false := by simpa using h0
    rw [if_neg h0]
    have HE : Hid (stR o (st, 0) = ((0, 0, W.e0), st)) := if_neg h0
    clear h0 M1 M2 N2 CC OR
    go_enter Tryd.func39, Tryd.ntmps39
    go_upto_region 1 with (fail)
    rw [HW.out]
    go_cut [8, 9] (fun sa sb wx => ∃ g : Nat, sa = .pointer (some ⟨g, 0, none⟩) ∧ sb = .int .i64 st ∧ Box wx g 27 #[.int .i64 nk, .int .i64 nn, .string ns] ∧ Below W0.heap.size W0 wx)
    case first =>
      go_wp2_with (first | (go_at_call 21; ((with_reducible refine (N1.out _).mono ?_); rintro e w2 ⟨rfl, hb2⟩)))
      go_meet
      exact ⟨w2.heap.size, rfl, rfl, Box.new _ _ _, hb2.alloc hb2.size _⟩
    case rest =>
    obtain ⟨g8, rfl, rfl, bq8, hb8⟩ := hcut
    obtain ⟨w3, hw8⟩ : ∃ v, v = wc := ⟨_, rfl⟩
    rw [← hw8] at hb8 bq8 ⊢
    clear hw8
    replace B2 := Veil.mk (B2.out.on hb8 B2.out.lt)
    replace B3 := Veil.mk (B3.out.on hb8 B3.out.lt)
    have HB8 := Veil.mk (hB.trans (hb8.mono hB.size))
    have Q8 := Veil.mk bq8
    clear bq8 hb8
    have z0 : w3.cell? ⟨w.heap.size + 1 + 1, 0, none⟩ = some (.int .i64 0) := B3.out.at_ 0
    have z1 : w3.cell? ⟨w.heap.size + 1 + 1, 1, none⟩ = some (.int .i64 0) := B3.out.at_ 1
    have z2 : w3.cell? ⟨w.heap.size + 1 + 1, 2, none⟩ = some (.string ⟨#[]⟩) := B3.out.at_ 2
    have f0 := B3.out.free 0
    have f1 := B3.out.free 1
    have f2 := B3.out.free 2
    go_wp2
    refine bodyPost_ret (v := .tuple #[W.V 0 0 W.e0, .int .i64 st]) (by simp [results, Tryd.results39, go_sem, z0, z1, z2]) rfl ⟨by rw [HE.out], ?_⟩
    exact ((HB8.out.setCell (p := ⟨w.heap.size + 1 + 1, 0, none⟩) (by show w.heap.size ≤ w.heap.size + 1 + 1; omega) _).setCell (p := ⟨w.heap.size + 1 + 1, 1, none⟩) (by show w.heap.size ≤ w.heap.size + 1 + 1; omega) _).setCell (p := ⟨w.heap.size + 1 + 1, 2, none⟩) (by show w.heap.size ≤ w.heap.size + 1 + 1; omega) _
  subst h0
  rw [if_pos rfl]
  obtain ⟨hn1, rfl⟩ := M1.out rfl
  clear M1
  by_cases h1 : tt = 0
  case neg =>
    have h1b : (tt != 0) = true := by simpa using h1
    have h1c : (tt == 0) = false := by simpa using h1
    rw [if_neg h1]
    have HE : Hid (stR o (tt, 0) = ((0, 0, W.e0), tt)) := if_neg h1
    clear h1 M2 CC OR
    go_enter Tryd.func39, Tryd.ntmps39
    go_upto_region 1 with (fail)
    rw [HW.out]
    go_cut [8, 9] (fun sa sb wx => ∃ g : Nat, sa = .pointer (some ⟨g, 0, none⟩) ∧ sb = .int .i64 0 ∧ Box wx g 27 #[.int .i64 nk, .int .i64 nn, .string W.e0] ∧ Below W0.heap.size W0 wx)
    case first =>
      go_wp2_with (first | (go_at_call 21; ((with_reducible refine (N1.out _).mono ?_); rintro e w2 ⟨rfl, hb2⟩)))
      go_meet
      exact ⟨w2.heap.size, rfl, rfl, Box.new _ _ _, hb2.alloc hb2.size _⟩
    case rest =>
    obtain ⟨g8, rfl, rfl, bq8, hb8⟩ := hcut
    obtain ⟨w3, hw8⟩ : ∃ v, v = wc := ⟨_, rfl⟩
    rw [← hw8] at hb8 bq8 ⊢
    clear hw8
    replace B2 := Veil.mk (B2.out.on hb8 B2.out.lt)
    replace B3 := Veil.mk (B3.out.on hb8 B3.out.lt)
    have HB8 := Veil.mk (hB.trans (hb8.mono hB.size))
    have Q8 := Veil.mk bq8
    clear bq8 hb8
    have q0 : w3.cell? ⟨w.heap.size + 1, 0, none⟩ = some (.int .i64 yk) := B2.out.at_ 0
    have q1 : w3.cell? ⟨w.heap.size + 1, 1, none⟩ = some (.int .i64 yn) := B2.out.at_ 1
    have q2 : w3.cell? ⟨w.heap.size + 1, 2, none⟩ = some (.string ys) := B2.out.at_ 2
    go_upto_region 4 with (fail)
    go_cut [10, 9] (fun sa sb wx => ∃ g : Nat, sa = .pointer (some ⟨g, 0, none⟩) ∧ sb = .int .i64 tt ∧ Box wx g 27 #[.int .i64 mk, .int .i64 mn, .string ms] ∧ Below w3.heap.size w3 wx)
    case first =>
      go_wp2_with (first | (go_at_call 21; ((with_reducible refine (N2.out _).mono ?_); rintro e w2 ⟨rfl, hb2⟩)))
      go_meet
      exact ⟨w2.heap.size, rfl, rfl, Box.new _ _ _, hb2.alloc hb2.size _⟩
    case rest =>
    obtain ⟨g10, rfl, rfl, bq10, hb10⟩ := hcut
    obtain ⟨w4, hw10⟩ : ∃ v, v = wc := ⟨_, rfl⟩
    rw [← hw10] at hb10 bq10 ⊢
    clear hw10
    replace B3 := Veil.mk (B3.out.on hb10 B3.out.lt)
    have HB10 := Veil.mk (HB8.out.trans (hb10.mono HB8.out.size))
    have Q10 := Veil.mk bq10
    clear bq10 hb10
    have z0 : w4.cell? ⟨w.heap.size + 1 + 1, 0, none⟩ = some (.int .i64 0) := B3.out.at_ 0
    have z1 : w4.cell? ⟨w.heap.size + 1 + 1, 1, none⟩ = some (.int .i64 0) := B3.out.at_ 1
    have z2 : w4.cell? ⟨w.heap.size + 1 + 1, 2, none⟩ = some (.string ⟨#[]⟩) := B3.out.at_ 2
    have f0 := B3.out.free 0
    have f1 := B3.out.free 1
    have f2 := B3.out.free 2
    clear q0 q1 q2
    go_wp2
    refine bodyPost_ret (v := .tuple #[W.V 0 0 W.e0, .int .i64 tt]) (by simp [results, Tryd.results39, go_sem, z0, z1, z2]) rfl ⟨by rw [HE.out], ?_⟩
    exact ((HB10.out.setCell (p := ⟨w.heap.size + 1 + 1, 0, none⟩) (by show w.heap.size ≤ w.heap.size + 1 + 1; omega) _).setCell (p := ⟨w.heap.size + 1 + 1, 1, none⟩) (by show w.heap.size ≤ w.heap.size + 1 + 1; omega) _).setCell (p := ⟨w.heap.size + 1 + 1, 2, none⟩) (by show w.heap.size ≤ w.heap.size + 1 + 1; omega) _
  subst h1
  rw [if_pos rfl]
  obtain ⟨hn2, rfl⟩ := M2.out rfl
  clear M2
  have C1 := Veil.mk (CC.out nk nn mk mn hn1 hn2)
  obtain ⟨c, hc⟩ : ∃ c, c = M.cmpR nk nn mk mn := ⟨_, rfl⟩
  rw [← hc] at C1 ⊢
  obtain ⟨b, hb⟩ : ∃ b, b = ordB o c := ⟨_, rfl⟩
  have HE : Hid (stR o (0, c) = (b2 b, 0)) := by show _ = _; rw [hb]; rfl
  rw [← hb] at C1
  clear hc hb CC hn1 hn2
  have TT := Veil.mk (truthT_any b)
  have HB2 := Lib.hid (show b2 b = (2, (if b then 1 else 0), W.e0) from rfl)
  go_enter Tryd.func39, Tryd.ntmps39
  go_upto_region 1 with (fail)
  rw [HW.out]
  go_cut [8, 9] (fun sa sb wx => ∃ g : Nat, sa = .pointer (some ⟨g, 0, none⟩) ∧ sb = .int .i64 0 ∧ Box wx g 27 #[.int .i64 nk, .int .i64 nn, .string W.e0] ∧ Below W0.heap.size W0 wx)
  case first =>
    go_wp2_with (first | (go_at_call 21; ((with_reducible refine (N1.out _).mono ?_); rintro e w2 ⟨rfl, hb2⟩)))
    go_meet
    exact ⟨w2.heap.size, rfl, rfl, Box.new _ _ _, hb2.alloc hb2.size _⟩
  case rest =>
  obtain ⟨g8, rfl, rfl, bq8, hb8⟩ := hcut
  obtain ⟨w3, hw8⟩ : ∃ v, v = wc := ⟨_, rfl⟩
  rw [← hw8] at hb8 bq8 ⊢
  clear hw8
  replace B2 := Veil.mk (B2.out.on hb8 B2.out.lt)
  replace B3 := Veil.mk (B3.out.on hb8 B3.out.lt)
  have HB8 := Veil.mk (hB.trans (hb8.mono hB.size))
  have Q8 := Veil.mk bq8
  clear bq8 hb8
  have q0 : w3.cell? ⟨w.heap.size + 1, 0, none⟩ = some (.int .i64 yk) := B2.out.at_ 0
  have q1 : w3.cell? ⟨w.heap.size + 1, 1, none⟩ = some (.int .i64 yn) := B2.out.at_ 1
  have q2 : w3.cell? ⟨w.heap.size + 1, 2, none⟩ = some (.string ys) := B2.out.at_ 2
  go_upto_region 4 with (fail)
  go_cut [10, 9] (fun sa sb wx => ∃ g : Nat, sa = .pointer (some ⟨g, 0, none⟩) ∧ sb = .int .i64 0 ∧ Box wx g 27 #[.int .i64 mk, .int .i64 mn, .string W.e0] ∧ Below w3.heap.size w3 wx)
  case first =>
    go_wp2_with (first | (go_at_call 21; ((with_reducible refine (N2.out _).mono ?_); rintro e w2 ⟨rfl, hb2⟩)))
    go_meet
    exact ⟨w2.heap.size, rfl, rfl, Box.new _ _ _, hb2.alloc hb2.size _⟩
  case rest =>
  obtain ⟨g10, rfl, rfl, bq10, hb10⟩ := hcut
  obtain ⟨w4, hw10⟩ : ∃ v, v = wc := ⟨_, rfl⟩
  rw [← hw10] at hb10 bq10 ⊢
  clear hw10
  replace B3 := Veil.mk (B3.out.on hb10 B3.out.lt)
  replace Q8 := Veil.mk (Q8.out.on hb10 Q8.out.lt)
  have HB10 := Veil.mk (HB8.out.trans (hb10.mono HB8.out.size))
  have Q10 := Veil.mk bq10
  clear bq10 hb10
  clear q0 q1 q2 p0 p1 p2
  have p0 : w4.cell? ⟨g8, 0, none⟩ = some (.int .i64 nk) := Q8.out.at_ 0
  have p1 : w4.cell? ⟨g8, 1, none⟩ = some (.int .i64 nn) := Q8.out.at_ 1
  have p2 : w4.cell? ⟨g8, 2, none⟩ = some (.string W.e0) := Q8.out.at_ 2
  have q0 : w4.cell? ⟨g10, 0, none⟩ = some (.int .i64 mk) := Q10.out.at_ 0
  have q1 : w4.cell? ⟨g10, 1, none⟩ = some (.int .i64 mn) := Q10.out.at_ 1
  have q2 : w4.cell? ⟨g10, 2, none⟩ = some (.string W.e0) := Q10.out.at_ 2
  go_wp2_with (first | (go_at_call 36; ((with_reducible refine (OR.out _).mono ?_); rintro e w' ⟨rfl, rfl⟩)) | (go_at_call 60; ((with_reducible refine (C1.out _).mono ?_); rintro e w5 ⟨rfl, hb5⟩)) | (go_at_call 34; ((with_reducible refine (TT.out _).mono ?_); rintro e w6 ⟨rfl, hb6⟩; have hb56 := hb5.trans (hb6.mono hb5.size); have z3 := B3.out.on hb56 B3.out.lt; have z0 : w6.cell? ⟨w.heap.size + 1 + 1, 0, none⟩ = some (.int .i64 0) := z3.at_ 0; have z1 : w6.cell? ⟨w.heap.size + 1 + 1, 1, none⟩ = some (.int .i64 0) := z3.at_ 1; have z2 : w6.cell? ⟨w.heap.size + 1 + 1, 2, none⟩ = some (.string ⟨#[]⟩) := z3.at_ 2; have f0 := z3.free 0; have f1 := z3.free 1; have f2 := z3.free 2)))
  have HBF := HB10.out.trans (hb56.mono HB10.out.size)
  refine bodyPost_ret (v := .tuple #[W.V (b2 b).1 (b2 b).2.1 (b2 b).2.2, .int .i64 0]) (by simp [results, Tryd.results39, go_sem, z0, z1, z2]) rfl ⟨by rw [HE.out], ?_⟩
  exact ((HBF.setCell (p := ⟨w.heap.size + 1 + 1, 0, none⟩) (by show w.heap.size ≤ w.heap.size + 1 + 1; omega) _).setCell (p := ⟨w.heap.size + 1 + 1, 1, none⟩) (by show w.heap.size ≤ w.heap.size + 1 + 1; omega) _).setCell (p := ⟨w.heap.size + 1 + 1, 2, none⟩) (by show w.heap.size ≤ w.heap.size + 1 + 1; omega) _
end Go.Proofs.YtbkgophgclpijaaDoor
