/- ValueConverts: the walk. -/
import Derived.Test.YtbkgophgclpijaaDoorGd
namespace Go.Proofs.YtbkgophgclpijaaDoor
open Go Go.RowKit

theorem run_True (u : Value) (w : World) : (callFunc 26 #[u]).run Tryd.prog w = .ok (.enter 26 #[u]) w := by kernel_rfl
theorem run_RTrue (u : Value) (w : World) : (callFunc 27 #[u]).run Tryd.prog w = .ok (.enter 27 #[u]) w := by kernel_rfl
set_option maxRecDepth 1000000 in
set_option maxHeartbeats 8000000 in
theorem converts_law (ka na : Int) (a : Option Addr) (la ca : Nat) (l : List Nat) (hl : ∀ u ∈ l, u < 65536) (w : World) (hT : M.Tb w) (h1 : W.Nums .u16 w a la l) :
    Calls Tryd.prog 5 #[seedV ka na a la ca] w fun e w' => e = .returned (.bool true) ∧ Below w.heap.size w w' := by
  obtain ⟨W0, hW0⟩ : ∃ W, W = w.alloc (.cells #[.int .i64 ka, .int .i64 na, .slice a la ca] 24) := ⟨_, rfl⟩
  have hB : Below w.heap.size w W0 := by rw [hW0]; exact (Below.refl _ _).alloc (Nat.le_refl _) _
  have b1 : Box W0 w.heap.size 24 #[.int .i64 ka, .int .i64 na, .slice a la ca] := by rw [hW0]; exact Box.new _ _ _
  have HW := Lib.hid hW0.symm
  clear hW0
  have HT := Veil.mk (hT.on hB)
  clear hT
  by_cases ha : 2000 < la
  · have hai : (2000 : Int) < (la : Int) := by omega
    clear h1
    go_enter Tryd.func5, Tryd.ntmps5
    go_upto_region 1 with (fail)
    rw [HW.out]
    go_wp2_with (first | (go_at_call 10; ((with_reducible refine (W.fit_any _).mono ?_); rintro e w1 ⟨rfl, hb1⟩; have sA := b1.on hb1 b1.lt; have c0 : w1.cell? ⟨w.heap.size, 0, none⟩ = some (.int .i64 ka) := sA.at_ 0; have c1 : w1.cell? ⟨w.heap.size, 1, none⟩ = some (.int .i64 na) := sA.at_ 1; have c2 : w1.cell? ⟨w.heap.size, 2, none⟩ = some (.slice a la ca) := sA.at_ 2)))
    go_ret
    exact ⟨rfl, hB.trans (hb1.mono hB.size)⟩
  have hai : ¬ (2000 : Int) < (la : Int) := by omega
  have HL := Veil.mk hl
  have N1 := Veil.mk h1
  clear hl h1 ha
  go_enter Tryd.func5, Tryd.ntmps5
  go_upto_region 1 with (fail)
  rw [HW.out]
  go_upto_region 5 with (first | (go_at_call 10; ((with_reducible refine (W.fit_any _).mono ?_); rintro e w1 ⟨rfl, hb1⟩; have sA := b1.on hb1 b1.lt; have c0 : w1.cell? ⟨w.heap.size, 0, none⟩ = some (.int .i64 ka) := sA.at_ 0; have c1 : w1.cell? ⟨w.heap.size, 1, none⟩ = some (.int .i64 na) := sA.at_ 1; have c2 : w1.cell? ⟨w.heap.size, 2, none⟩ = some (.slice a la ca) := sA.at_ 2)))
  have va := Veil.mk (seed_val ka na a la ca l (by omega) HL.out w1 ((N1.out.on hB).on hb1))
  have HB1 := Veil.mk (hB.trans (hb1.mono hB.size))
  have HT1 := Veil.mk (HT.out.on hb1)
  clear sA b1 hB hb1 hai HT
  go_cut [3] (fun s3 wx => ∃ (g3 : Nat) (x : Vt), s3 = .pointer (some ⟨g3, 0, none⟩) ∧ WV x.1 x.2.1 x.2.2 ∧ Box wx g3 27 #[.int .i64 x.1, .int .i64 x.2.1, .string x.2.2] ∧ Below w1.heap.size w1 wx)
  case first =>
    go_wp2_with (first | (go_at_call 11; ((with_reducible refine (va.out).mono ?_); intro e w2 hp; obtain ⟨k1, n1, s1, wv1, rfl, hb2⟩ := hp)))
    go_meet
    exact ⟨w2.heap.size, (k1, n1, s1), rfl, wv1, Box.new _ _ _, hb2.alloc hb2.size _⟩
  case rest =>
  obtain ⟨g3, x, rfl, hx, bx, hb5⟩ := hcut
  obtain ⟨w5, hw5⟩ : ∃ w5, w5 = wc := ⟨_, rfl⟩
  rw [← hw5] at bx hb5 ⊢
  clear hw5
  have HB5 := Veil.mk (HB1.out.trans (hb5.mono HB1.out.size))
  have HT5 := Veil.mk (HT1.out.on hb5)
  clear va HL N1 HW HB1 HT1 hb5 c0 c1 c2
  have C1 := Veil.mk (number_any x hx)
  have C2 := Veil.mk (rnumber_any x hx)
  have C3 := Veil.mk (fun wx => text_any x hx wx)
  have C4 := Veil.mk (fun wx => rtext_any x hx wx)
  have C5 := Veil.mk (fun wx => property_any x hx wx)
  have C6 := Veil.mk (true_any x hx)
  have C7 := Veil.mk (rtrue_any x hx)
  obtain ⟨nx, hnx⟩ : ∃ p, p = numberT x := ⟨_, rfl⟩
  obtain ⟨tx, htx⟩ : ∃ p, p = textT x := ⟨_, rfl⟩
  obtain ⟨px, hpx⟩ : ∃ p, p = propT x := ⟨_, rfl⟩
  obtain ⟨bt, hbt⟩ : ∃ p, p = trueT x := ⟨_, rfl⟩
  rw [← hnx] at C1 C2
  rw [← htx] at C3 C4
  rw [← hpx] at C5
  rw [← hbt] at C6 C7
  have HP : Hid (px = if x.1 = 8 then (x, 0) else if tx.2 = 0 then ((7, 0, tx.1), 0) else ((0, 0, W.e0), tx.2)) := by show _ = _; rw [hpx, htx]; rfl
  clear hx hnx htx hpx hbt
  obtain ⟨⟨nk, nn, ns⟩, st⟩ := nx
  obtain ⟨ts, tn⟩ := tx
  obtain ⟨⟨pk, pn, ps⟩, pt⟩ := px
  obtain ⟨xk, xn, xs⟩ := x
  simp only at bx HP
  have p0 : w5.cell? ⟨g3, 0, none⟩ = some (.int .i64 xk) := bx.at_ 0
  have p1 : w5.cell? ⟨g3, 1, none⟩ = some (.int .i64 xn) := bx.at_ 1
  have p2 : w5.cell? ⟨g3, 2, none⟩ = some (.string xs) := bx.at_ 2
  have BX := Veil.mk bx
  clear bx
  go_upto_region 6 with (fail)
  go_cut [4, 5] (fun sa sb wx => ∃ g : Nat, sa = .pointer (some ⟨g, 0, none⟩) ∧ sb = .int .i64 st ∧ Box wx g 27 #[.int .i64 nk, .int .i64 nn, .string ns] ∧ Below w5.heap.size w5 wx)
  case first =>
    go_wp2_with (first | (go_at_call 21; ((with_reducible refine (C1.out _).mono ?_); rintro e w2 ⟨rfl, hb2⟩)))
    go_meet
    exact ⟨w2.heap.size, rfl, rfl, Box.new _ _ _, hb2.alloc hb2.size _⟩
  case rest =>
  obtain ⟨g4, rfl, rfl, by4, hb6⟩ := hcut
  obtain ⟨w6, hw6⟩ : ∃ v, v = wc := ⟨_, rfl⟩
  rw [← hw6] at hb6 by4 ⊢
  clear hw6
  replace BX := Veil.mk (BX.out.on hb6 BX.out.lt)
  have Q4 := Veil.mk by4
  clear by4
  have HB6 := Veil.mk (HB5.out.trans (hb6.mono HB5.out.size))
  have HT6 := Veil.mk (HT5.out.on hb6)
  clear HB5 HT5 hb6 p0 p1 p2
  have p0 : w6.cell? ⟨g3, 0, none⟩ = some (.int .i64 xk) := BX.out.at_ 0
  have p1 : w6.cell? ⟨g3, 1, none⟩ = some (.int .i64 xn) := BX.out.at_ 1
  have p2 : w6.cell? ⟨g3, 2, none⟩ = some (.string xs) := BX.out.at_ 2
  go_upto_region 7 with (fail)
  go_cut [6, 7] (fun sa sb wx => ∃ g : Nat, sa = .pointer (some ⟨g, 0, none⟩) ∧ sb = .int .i64 st ∧ Box wx g 27 #[.int .i64 nk, .int .i64 nn, .string ns] ∧ Below w6.heap.size w6 wx)
  case first =>
    go_wp2_with (first | (go_at_call 22; ((with_reducible refine (C2.out _).mono ?_); rintro e w2 ⟨rfl, hb2⟩)))
    go_meet
    exact ⟨w2.heap.size, rfl, rfl, Box.new _ _ _, hb2.alloc hb2.size _⟩
  case rest =>
  obtain ⟨g6, rfl, rfl, by6, hb7⟩ := hcut
  obtain ⟨w7, hw7⟩ : ∃ v, v = wc := ⟨_, rfl⟩
  rw [← hw7] at hb7 by6 ⊢
  clear hw7
  replace BX := Veil.mk (BX.out.on hb7 BX.out.lt)
  replace Q4 := Veil.mk (Q4.out.on hb7 Q4.out.lt)
  have Q6 := Veil.mk by6
  clear by6
  have HB7 := Veil.mk (HB6.out.trans (hb7.mono HB6.out.size))
  have HT7 := Veil.mk (HT6.out.on hb7)
  clear HB6 HT6 hb7 p0 p1 p2
  have p0 : w7.cell? ⟨g3, 0, none⟩ = some (.int .i64 xk) := BX.out.at_ 0
  have p1 : w7.cell? ⟨g3, 1, none⟩ = some (.int .i64 xn) := BX.out.at_ 1
  have p2 : w7.cell? ⟨g3, 2, none⟩ = some (.string xs) := BX.out.at_ 2
  go_upto_region 8 with (fail)
  go_cut [8, 9] (fun sa sb wx => sa = .string ts ∧ sb = .int .i64 tn ∧ Below w7.heap.size w7 wx)
  case first =>
    go_wp2_with (first | (go_at_call 23; ((with_reducible refine (C3.out _ HT7.out).mono ?_); rintro e w2 ⟨rfl, hb2⟩)))
    go_meet
    exact ⟨rfl, rfl, hb2⟩
  case rest =>
  obtain ⟨rfl, rfl, hb8⟩ := hcut
  obtain ⟨w8, hw8⟩ : ∃ v, v = wc := ⟨_, rfl⟩
  rw [← hw8] at hb8 ⊢
  clear hw8
  replace BX := Veil.mk (BX.out.on hb8 BX.out.lt)
  replace Q4 := Veil.mk (Q4.out.on hb8 Q4.out.lt)
  replace Q6 := Veil.mk (Q6.out.on hb8 Q6.out.lt)
  have HB8 := Veil.mk (HB7.out.trans (hb8.mono HB7.out.size))
  have HT8 := Veil.mk (HT7.out.on hb8)
  clear HB7 HT7 hb8 p0 p1 p2
  have p0 : w8.cell? ⟨g3, 0, none⟩ = some (.int .i64 xk) := BX.out.at_ 0
  have p1 : w8.cell? ⟨g3, 1, none⟩ = some (.int .i64 xn) := BX.out.at_ 1
  have p2 : w8.cell? ⟨g3, 2, none⟩ = some (.string xs) := BX.out.at_ 2
  go_upto_region 9 with (fail)
  go_cut [10, 11] (fun sa sb wx => sa = .string ts ∧ sb = .int .i64 tn ∧ Below w8.heap.size w8 wx)
  case first =>
    go_wp2_with (first | (go_at_call 24; ((with_reducible refine (C4.out _ HT8.out).mono ?_); rintro e w2 ⟨rfl, hb2⟩)))
    go_meet
    exact ⟨rfl, rfl, hb2⟩
  case rest =>
  obtain ⟨rfl, rfl, hb9⟩ := hcut
  obtain ⟨w9, hw9⟩ : ∃ v, v = wc := ⟨_, rfl⟩
  rw [← hw9] at hb9 ⊢
  clear hw9
  replace BX := Veil.mk (BX.out.on hb9 BX.out.lt)
  replace Q4 := Veil.mk (Q4.out.on hb9 Q4.out.lt)
  replace Q6 := Veil.mk (Q6.out.on hb9 Q6.out.lt)
  have HB9 := Veil.mk (HB8.out.trans (hb9.mono HB8.out.size))
  have HT9 := Veil.mk (HT8.out.on hb9)
  clear HB8 HT8 hb9 p0 p1 p2
  have p0 : w9.cell? ⟨g3, 0, none⟩ = some (.int .i64 xk) := BX.out.at_ 0
  have p1 : w9.cell? ⟨g3, 1, none⟩ = some (.int .i64 xn) := BX.out.at_ 1
  have p2 : w9.cell? ⟨g3, 2, none⟩ = some (.string xs) := BX.out.at_ 2
  go_upto_region 10 with (fail)
  go_cut [12, 13] (fun sa sb wx => ∃ g : Nat, sa = .pointer (some ⟨g, 0, none⟩) ∧ sb = .int .i64 pt ∧ Box wx g 27 #[.int .i64 pk, .int .i64 pn, .string ps] ∧ Below w9.heap.size w9 wx)
  case first =>
    go_wp2_with (first | (go_at_call 25; ((with_reducible refine (C5.out _ HT9.out).mono ?_); rintro e w2 ⟨rfl, hb2⟩)))
    go_meet
    exact ⟨w2.heap.size, rfl, rfl, Box.new _ _ _, hb2.alloc hb2.size _⟩
  case rest =>
  obtain ⟨g12, rfl, rfl, by12, hb10⟩ := hcut
  obtain ⟨w10, hw10⟩ : ∃ v, v = wc := ⟨_, rfl⟩
  rw [← hw10] at hb10 by12 ⊢
  clear hw10
  replace BX := Veil.mk (BX.out.on hb10 BX.out.lt)
  replace Q4 := Veil.mk (Q4.out.on hb10 Q4.out.lt)
  replace Q6 := Veil.mk (Q6.out.on hb10 Q6.out.lt)
  have Q12 := Veil.mk by12
  clear by12
  have HB10 := Veil.mk (HB9.out.trans (hb10.mono HB9.out.size))
  have HT10 := Veil.mk (HT9.out.on hb10)
  clear HB9 HT9 hb10 p0 p1 p2
  have p0 : w10.cell? ⟨g3, 0, none⟩ = some (.int .i64 xk) := BX.out.at_ 0
  have p1 : w10.cell? ⟨g3, 1, none⟩ = some (.int .i64 xn) := BX.out.at_ 1
  have p2 : w10.cell? ⟨g3, 2, none⟩ = some (.string xs) := BX.out.at_ 2
  clear HT10 C1 C2 C3 C4 C5
  go_upto_region 11 with (fail)
  have a1 := BX.out.atV
  have a2 := Q4.out.atV
  have a3 := Q6.out.atV
  have a4 := Q12.out.atV
  have hs0 : st = 0 ∨ (st == 0) = false := by by_cases h : st = 0; exact .inl h; exact .inr (by simpa using h)
  clear p0 p1 p2
  by_cases h8 : xk = 8
  · obtain ⟨rfl, rfl, rfl, rfl⟩ : pk = xk ∧ pn = xn ∧ ps = xs ∧ pt = 0 := by
      have := HP.out
      rw [if_pos h8] at this
      simp only [Prod.mk.injEq] at this
      exact ⟨this.1.1, this.1.2.1, this.1.2.2, this.2⟩
    subst h8
    have ht0 : tn = 0 ∨ (tn == 0) = false := by by_cases h : tn = 0; exact .inl h; exact .inr (by simpa using h)
    clear HP
    rcases hs0 with rfl | hs0 <;> rcases ht0 with rfl | ht0 <;> cases bt
    all_goals
      refine W.wp_region_fresh (by kernel_rfl) (by kernel_rfl) ?_
      repeat (first | go_big_quiet_skip | (go_big_quiet_want; (first | (go_big_quiet_op; go_big_quiet_on) | (apply W.quiet_load27; exact rfl; exact rfl; (intro wq hw9; first | with_reducible exact W.AtV.later a1 hw9 | with_reducible exact W.AtV.later a2 hw9 | with_reducible exact W.AtV.later a3 hw9 | with_reducible exact W.AtV.later a4 hw9); simp only [Act.put, List.setIfInBounds_toArray, List.set_cons_zero, List.set_cons_succ]; go_big_quiet_on) | (refine W.quiet_call1 (f := 26) (u := W.V 8 pn ps) (v := .bool false) rfl rfl (run_True _) ?_ ?_; (intro wq hw9; exact (C6.out wq).mono (fun _ _ hh => ⟨hh.1, W.blw2 hw9 hh.2⟩)); simp only [Act.put, List.setIfInBounds_toArray, List.set_cons_zero, List.set_cons_succ]; go_big_quiet_on) | (refine W.quiet_call1 (f := 26) (u := W.V 8 pn ps) (v := .bool true) rfl rfl (run_True _) ?_ ?_; (intro wq hw9; exact (C6.out wq).mono (fun _ _ hh => ⟨hh.1, W.blw2 hw9 hh.2⟩)); simp only [Act.put, List.setIfInBounds_toArray, List.set_cons_zero, List.set_cons_succ]; go_big_quiet_on) | (refine W.quiet_call1 (f := 27) (u := W.V 8 pn ps) (v := .bool false) rfl rfl (run_RTrue _) ?_ ?_; (intro wq hw9; exact (C7.out wq).mono (fun _ _ hh => ⟨hh.1, W.blw2 hw9 hh.2⟩)); simp only [Act.put, List.setIfInBounds_toArray, List.set_cons_zero, List.set_cons_succ]; go_big_quiet_on) | (refine W.quiet_call1 (f := 27) (u := W.V 8 pn ps) (v := .bool true) rfl rfl (run_RTrue _) ?_ ?_; (intro wq hw9; exact (C7.out wq).mono (fun _ _ hh => ⟨hh.1, W.blw2 hw9 hh.2⟩)); simp only [Act.put, List.setIfInBounds_toArray, List.set_cons_zero, List.set_cons_succ]; go_big_quiet_on) | (apply W.quiet_pure; (intro wq; go_simp; exact rfl); simp only [Act.put, List.setIfInBounds_toArray, List.set_cons_zero, List.set_cons_succ]; go_big_quiet_on))))
      refine wpQuiet_nil ?_
      intro w9 hb9
      have e1 := BX.out.on hb9 BX.out.lt
      have e2 := Q12.out.on hb9 Q12.out.lt
      have r0 : w9.cell? ⟨g3, 0, none⟩ = some (.int .i64 8) := e1.at_ 0
      have r1 : w9.cell? ⟨g3, 1, none⟩ = some (.int .i64 pn) := e1.at_ 1
      have r2 : w9.cell? ⟨g3, 2, none⟩ = some (.string ps) := e1.at_ 2
      have q0 : w9.cell? ⟨g12, 0, none⟩ = some (.int .i64 8) := e2.at_ 0
      have q1 : w9.cell? ⟨g12, 1, none⟩ = some (.int .i64 pn) := e2.at_ 1
      have q2 : w9.cell? ⟨g12, 2, none⟩ = some (.string ps) := e2.at_ 2
      skip
      go_wp2_with fail
      go_ret
      exact ⟨rfl, HB10.out.trans (hb9.mono HB10.out.size)⟩
  · have h8b : (xk == 8) = false := by simpa using h8
    by_cases ht : tn = 0
    · obtain ⟨rfl, rfl, rfl, rfl⟩ : pk = 7 ∧ pn = 0 ∧ ps = ts ∧ pt = 0 := by
        have := HP.out
        rw [if_neg h8, if_pos ht] at this
        simp only [Prod.mk.injEq] at this
        exact ⟨this.1.1, this.1.2.1, this.1.2.2, this.2⟩
      subst ht
      clear HP h8
      rcases hs0 with rfl | hs0 <;> cases bt
      all_goals
        refine W.wp_region_fresh (by kernel_rfl) (by kernel_rfl) ?_
        repeat (first | go_big_quiet_skip | (go_big_quiet_want; (first | (go_big_quiet_op; go_big_quiet_on) | (apply W.quiet_load27; exact rfl; exact rfl; (intro wq hw9; first | with_reducible exact W.AtV.later a1 hw9 | with_reducible exact W.AtV.later a2 hw9 | with_reducible exact W.AtV.later a3 hw9 | with_reducible exact W.AtV.later a4 hw9); simp only [Act.put, List.setIfInBounds_toArray, List.set_cons_zero, List.set_cons_succ]; go_big_quiet_on) | (refine W.quiet_call1 (f := 26) (u := W.V xk xn xs) (v := .bool false) rfl rfl (run_True _) ?_ ?_; (intro wq hw9; exact (C6.out wq).mono (fun _ _ hh => ⟨hh.1, W.blw2 hw9 hh.2⟩)); simp only [Act.put, List.setIfInBounds_toArray, List.set_cons_zero, List.set_cons_succ]; go_big_quiet_on) | (refine W.quiet_call1 (f := 26) (u := W.V xk xn xs) (v := .bool true) rfl rfl (run_True _) ?_ ?_; (intro wq hw9; exact (C6.out wq).mono (fun _ _ hh => ⟨hh.1, W.blw2 hw9 hh.2⟩)); simp only [Act.put, List.setIfInBounds_toArray, List.set_cons_zero, List.set_cons_succ]; go_big_quiet_on) | (refine W.quiet_call1 (f := 27) (u := W.V xk xn xs) (v := .bool false) rfl rfl (run_RTrue _) ?_ ?_; (intro wq hw9; exact (C7.out wq).mono (fun _ _ hh => ⟨hh.1, W.blw2 hw9 hh.2⟩)); simp only [Act.put, List.setIfInBounds_toArray, List.set_cons_zero, List.set_cons_succ]; go_big_quiet_on) | (refine W.quiet_call1 (f := 27) (u := W.V xk xn xs) (v := .bool true) rfl rfl (run_RTrue _) ?_ ?_; (intro wq hw9; exact (C7.out wq).mono (fun _ _ hh => ⟨hh.1, W.blw2 hw9 hh.2⟩)); simp only [Act.put, List.setIfInBounds_toArray, List.set_cons_zero, List.set_cons_succ]; go_big_quiet_on) | (apply W.quiet_pure; (intro wq; go_simp; exact rfl); simp only [Act.put, List.setIfInBounds_toArray, List.set_cons_zero, List.set_cons_succ]; go_big_quiet_on))))
        refine wpQuiet_nil ?_
        intro w9 hb9
        have e1 := BX.out.on hb9 BX.out.lt
        have e2 := Q12.out.on hb9 Q12.out.lt
        have r0 : w9.cell? ⟨g3, 0, none⟩ = some (.int .i64 xk) := e1.at_ 0
        have r1 : w9.cell? ⟨g3, 1, none⟩ = some (.int .i64 xn) := e1.at_ 1
        have r2 : w9.cell? ⟨g3, 2, none⟩ = some (.string xs) := e1.at_ 2
        have q0 : w9.cell? ⟨g12, 0, none⟩ = some (.int .i64 7) := e2.at_ 0
        have q1 : w9.cell? ⟨g12, 1, none⟩ = some (.int .i64 0) := e2.at_ 1
        have q2 : w9.cell? ⟨g12, 2, none⟩ = some (.string ps) := e2.at_ 2
        skip
        go_wp2_with fail
        go_ret
        exact ⟨rfl, HB10.out.trans (hb9.mono HB10.out.size)⟩
    · obtain ⟨rfl, rfl, rfl, rfl⟩ : pk = 0 ∧ pn = 0 ∧ ps = W.e0 ∧ pt = tn := by
        have := HP.out
        rw [if_neg h8, if_neg ht] at this
        simp only [Prod.mk.injEq] at this
        exact ⟨this.1.1, this.1.2.1, this.1.2.2, this.2⟩
      have htb : (pt == 0) = false := by simpa using ht
      have htc : (pt != 0) = true := by simpa using ht
      clear HP h8 ht
      rcases hs0 with rfl | hs0 <;> cases bt
      all_goals
        refine W.wp_region_fresh (by kernel_rfl) (by kernel_rfl) ?_
        repeat (first | go_big_quiet_skip | (go_big_quiet_want; (first | (go_big_quiet_op; go_big_quiet_on) | (apply W.quiet_load27; exact rfl; exact rfl; (intro wq hw9; first | with_reducible exact W.AtV.later a1 hw9 | with_reducible exact W.AtV.later a2 hw9 | with_reducible exact W.AtV.later a3 hw9 | with_reducible exact W.AtV.later a4 hw9); simp only [Act.put, List.setIfInBounds_toArray, List.set_cons_zero, List.set_cons_succ]; go_big_quiet_on) | (refine W.quiet_call1 (f := 26) (u := W.V xk xn xs) (v := .bool false) rfl rfl (run_True _) ?_ ?_; (intro wq hw9; exact (C6.out wq).mono (fun _ _ hh => ⟨hh.1, W.blw2 hw9 hh.2⟩)); simp only [Act.put, List.setIfInBounds_toArray, List.set_cons_zero, List.set_cons_succ]; go_big_quiet_on) | (refine W.quiet_call1 (f := 26) (u := W.V xk xn xs) (v := .bool true) rfl rfl (run_True _) ?_ ?_; (intro wq hw9; exact (C6.out wq).mono (fun _ _ hh => ⟨hh.1, W.blw2 hw9 hh.2⟩)); simp only [Act.put, List.setIfInBounds_toArray, List.set_cons_zero, List.set_cons_succ]; go_big_quiet_on) | (refine W.quiet_call1 (f := 27) (u := W.V xk xn xs) (v := .bool false) rfl rfl (run_RTrue _) ?_ ?_; (intro wq hw9; exact (C7.out wq).mono (fun _ _ hh => ⟨hh.1, W.blw2 hw9 hh.2⟩)); simp only [Act.put, List.setIfInBounds_toArray, List.set_cons_zero, List.set_cons_succ]; go_big_quiet_on) | (refine W.quiet_call1 (f := 27) (u := W.V xk xn xs) (v := .bool true) rfl rfl (run_RTrue _) ?_ ?_; (intro wq hw9; exact (C7.out wq).mono (fun _ _ hh => ⟨hh.1, W.blw2 hw9 hh.2⟩)); simp only [Act.put, List.setIfInBounds_toArray, List.set_cons_zero, List.set_cons_succ]; go_big_quiet_on) | (apply W.quiet_pure; (intro wq; go_simp; exact rfl); simp only [Act.put, List.setIfInBounds_toArray, List.set_cons_zero, List.set_cons_succ]; go_big_quiet_on))))
        refine wpQuiet_nil ?_
        intro w9 hb9
        have e1 := BX.out.on hb9 BX.out.lt
        have e2 := Q12.out.on hb9 Q12.out.lt
        have r0 : w9.cell? ⟨g3, 0, none⟩ = some (.int .i64 xk) := e1.at_ 0
        have r1 : w9.cell? ⟨g3, 1, none⟩ = some (.int .i64 xn) := e1.at_ 1
        have r2 : w9.cell? ⟨g3, 2, none⟩ = some (.string xs) := e1.at_ 2
        have q0 : w9.cell? ⟨g12, 0, none⟩ = some (.int .i64 0) := e2.at_ 0
        have q1 : w9.cell? ⟨g12, 1, none⟩ = some (.int .i64 0) := e2.at_ 1
        have q2 : w9.cell? ⟨g12, 2, none⟩ = some (.string W.e0) := e2.at_ 2
        skip
        go_wp2_with fail
        go_ret
        exact ⟨rfl, HB10.out.trans (hb9.mono HB10.out.size)⟩
end Go.Proofs.YtbkgophgclpijaaDoor
