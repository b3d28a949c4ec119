/- ValueSame: the walk. -/
import Derived.Test.YtbkgophgclpijaaDoorIc
import Derived.BigQuiet
import Derived.Deep.QuietTactic
namespace Go.Proofs.YtbkgophgclpijaaDoor
open Go Go.RowKit

set_option maxRecDepth 1000000 in
set_option maxHeartbeats 8000000 in
theorem same_law (ka na kb nb : Int) (a b : Option Addr) (la ca lb cb : Nat) (l r : List Nat) (hl : ∀ u ∈ l, u < 65536) (hr : ∀ u ∈ r, u < 65536) (w : World) (h1 : W.Nums .u16 w a la l) (h2 : W.Nums .u16 w b lb r) :
    Calls Tryd.prog 4 #[seedV ka na a la ca, seedV kb nb b lb cb] w fun e w' => e = .returned (.bool true) ∧ Below w.heap.size w w' := by
  by_cases ha : 2000 < la
  · have hai : (2000 : Int) < (la : Int) := by omega
    have HX := Veil.mk (And.intro h1 h2)
    clear h1 h2
    obtain ⟨W0, hW0⟩ : ∃ W, W = (w.alloc (.cells #[.int .i64 ka, .int .i64 na, .slice a la ca] 24)).alloc (.cells #[.int .i64 kb, .int .i64 nb, .slice b lb cb] 24) := ⟨_, rfl⟩
    have hB : Below w.heap.size w W0 := by rw [hW0]; exact ((Below.refl _ _).alloc (Nat.le_refl _) _).alloc (by simp) _
    have b1 : Box W0 w.heap.size 24 #[.int .i64 ka, .int .i64 na, .slice a la ca] := by rw [hW0]; exact (Box.new _ _ _).more _
    have b2 : Box W0 (w.heap.size + 1) 24 #[.int .i64 kb, .int .i64 nb, .slice b lb cb] := by
      rw [hW0]
      have := Box.new (w.alloc (.cells #[.int .i64 ka, .int .i64 na, .slice a la ca] 24)) 24 #[.int .i64 kb, .int .i64 nb, .slice b lb cb]
      simpa using this
    have HW := Lib.hid hW0.symm
    clear hW0
    go_enter Tryd.func4, Tryd.ntmps4
    go_upto_region 1 with (fail)
    rw [HW.out]
    go_wp2_with (first | (go_at_call 10; ((with_reducible refine (W.fit_any _).mono ?_); rintro e w1 ⟨rfl, hb1⟩; have sA := b1.on hb1 b1.lt; have sB := b2.on hb1 b2.lt; have c0 : w1.cell? ⟨w.heap.size, 0, none⟩ = some (.int .i64 ka) := sA.at_ 0; have c1 : w1.cell? ⟨w.heap.size, 1, none⟩ = some (.int .i64 na) := sA.at_ 1; have c2 : w1.cell? ⟨w.heap.size, 2, none⟩ = some (.slice a la ca) := sA.at_ 2; have d0 : w1.cell? ⟨w.heap.size + 1, 0, none⟩ = some (.int .i64 kb) := sB.at_ 0; have d1 : w1.cell? ⟨w.heap.size + 1, 1, none⟩ = some (.int .i64 nb) := sB.at_ 1; have d2 : w1.cell? ⟨w.heap.size + 1, 2, none⟩ = some (.slice b lb cb) := sB.at_ 2)))
    go_ret
    exact ⟨rfl, hB.trans (hb1.mono hB.size)⟩
  by_cases hb : 2000 < lb
  · have hai : ¬ (2000 : Int) < (la : Int) := by omega
    have hbi : (2000 : Int) < (lb : Int) := by omega
    clear h1 h2
    obtain ⟨W0, hW0⟩ : ∃ W, W = (w.alloc (.cells #[.int .i64 ka, .int .i64 na, .slice a la ca] 24)).alloc (.cells #[.int .i64 kb, .int .i64 nb, .slice b lb cb] 24) := ⟨_, rfl⟩
    have hB : Below w.heap.size w W0 := by rw [hW0]; exact ((Below.refl _ _).alloc (Nat.le_refl _) _).alloc (by simp) _
    have b1 : Box W0 w.heap.size 24 #[.int .i64 ka, .int .i64 na, .slice a la ca] := by rw [hW0]; exact (Box.new _ _ _).more _
    have b2 : Box W0 (w.heap.size + 1) 24 #[.int .i64 kb, .int .i64 nb, .slice b lb cb] := by
      rw [hW0]
      have := Box.new (w.alloc (.cells #[.int .i64 ka, .int .i64 na, .slice a la ca] 24)) 24 #[.int .i64 kb, .int .i64 nb, .slice b lb cb]
      simpa using this
    have HW := Lib.hid hW0.symm
    clear hW0
    go_enter Tryd.func4, Tryd.ntmps4
    go_upto_region 1 with (fail)
    rw [HW.out]
    go_wp2_with (first | (go_at_call 10; ((with_reducible refine (W.fit_any _).mono ?_); rintro e w1 ⟨rfl, hb1⟩; have sA := b1.on hb1 b1.lt; have sB := b2.on hb1 b2.lt; have c0 : w1.cell? ⟨w.heap.size, 0, none⟩ = some (.int .i64 ka) := sA.at_ 0; have c1 : w1.cell? ⟨w.heap.size, 1, none⟩ = some (.int .i64 na) := sA.at_ 1; have c2 : w1.cell? ⟨w.heap.size, 2, none⟩ = some (.slice a la ca) := sA.at_ 2; have d0 : w1.cell? ⟨w.heap.size + 1, 0, none⟩ = some (.int .i64 kb) := sB.at_ 0; have d1 : w1.cell? ⟨w.heap.size + 1, 1, none⟩ = some (.int .i64 nb) := sB.at_ 1; have d2 : w1.cell? ⟨w.heap.size + 1, 2, none⟩ = some (.slice b lb cb) := sB.at_ 2)))
    go_ret
    exact ⟨rfl, hB.trans (hb1.mono hB.size)⟩
  have hai : ¬ (2000 : Int) < (la : Int) := by omega
  have hbi : ¬ (2000 : Int) < (lb : Int) := by omega
  obtain ⟨W0, hW0⟩ : ∃ W, W = (w.alloc (.cells #[.int .i64 ka, .int .i64 na, .slice a la ca] 24)).alloc (.cells #[.int .i64 kb, .int .i64 nb, .slice b lb cb] 24) := ⟨_, rfl⟩
  have hB : Below w.heap.size w W0 := by rw [hW0]; exact ((Below.refl _ _).alloc (Nat.le_refl _) _).alloc (by simp) _
  have b1 : Box W0 w.heap.size 24 #[.int .i64 ka, .int .i64 na, .slice a la ca] := by rw [hW0]; exact (Box.new _ _ _).more _
  have b2 : Box W0 (w.heap.size + 1) 24 #[.int .i64 kb, .int .i64 nb, .slice b lb cb] := by
    rw [hW0]
    have := Box.new (w.alloc (.cells #[.int .i64 ka, .int .i64 na, .slice a la ca] 24)) 24 #[.int .i64 kb, .int .i64 nb, .slice b lb cb]
    simpa using this
  have HW := Lib.hid hW0.symm
  clear hW0
  have HL := Veil.mk hl
  have HR := Veil.mk hr
  have N1 := Veil.mk h1
  have N2 := Veil.mk h2
  clear hl hr h1 h2 ha hb
  go_enter Tryd.func4, Tryd.ntmps4
  go_upto_region 1 with (fail)
  rw [HW.out]
  go_upto_region 5 with (first | (go_at_call 10; ((with_reducible refine (W.fit_any _).mono ?_); rintro e w1 ⟨rfl, hb1⟩; have sA := b1.on hb1 b1.lt; have sB := b2.on hb1 b2.lt; have c0 : w1.cell? ⟨w.heap.size, 0, none⟩ = some (.int .i64 ka) := sA.at_ 0; have c1 : w1.cell? ⟨w.heap.size, 1, none⟩ = some (.int .i64 na) := sA.at_ 1; have c2 : w1.cell? ⟨w.heap.size, 2, none⟩ = some (.slice a la ca) := sA.at_ 2; have d0 : w1.cell? ⟨w.heap.size + 1, 0, none⟩ = some (.int .i64 kb) := sB.at_ 0; have d1 : w1.cell? ⟨w.heap.size + 1, 1, none⟩ = some (.int .i64 nb) := sB.at_ 1; have d2 : w1.cell? ⟨w.heap.size + 1, 2, none⟩ = some (.slice b lb cb) := sB.at_ 2)))
  have va := Veil.mk (fun wx (h : Below w1.heap.size w1 wx) => seed_val ka na a la ca l (by omega) HL.out wx (((N1.out.on hB).on hb1).on h))
  have vb := Veil.mk (fun wx (h : Below w1.heap.size w1 wx) => seed_val kb nb b lb cb r (by omega) HR.out wx (((N2.out.on hB).on hb1).on h))
  have HS := Veil.mk (And.intro sA sB)
  have HB1 := Veil.mk (hB.trans (hb1.mono hB.size))
  clear sA sB b1 b2 c0 c1 c2 d0 d1 d2 hB hb1 hai hbi
  refine wp_region_pair (seedV ka na a la ca) (seedV kb nb b lb cb) 22 23 24 25 5 6 (by kernel_rfl) rfl rfl ?_ (by kernel_rfl) ?_
  · refine Steps.cons rfl (fun bb aa w' hbs hb0 hbp hI K hK => ?_) ?_
    · obtain ⟨u0, u1, u2, u3, u4, u5, rfl, hI⟩ := hI
      have e0 := (HS.out.1.on hI.1 HS.out.1.lt); have e1 := (HS.out.2.on hI.1 HS.out.2.lt); have c0 : w'.cell? ⟨w.heap.size, 0, none⟩ = some (.int .i64 ka) := e0.at_ 0; have c1 : w'.cell? ⟨w.heap.size, 1, none⟩ = some (.int .i64 na) := e0.at_ 1; have c2 : w'.cell? ⟨w.heap.size, 2, none⟩ = some (.slice a la ca) := e0.at_ 2; have d0 : w'.cell? ⟨w.heap.size + 1, 0, none⟩ = some (.int .i64 kb) := e1.at_ 0; have d1 : w'.cell? ⟨w.heap.size + 1, 1, none⟩ = some (.int .i64 nb) := e1.at_ 1; have d2 : w'.cell? ⟨w.heap.size + 1, 2, none⟩ = some (.slice b lb cb) := e1.at_ 2
      simp only [put6, List.setIfInBounds_toArray, List.set_cons_zero, List.set_cons_succ]
      go_simp
      exact hK _ _ (PInv.mk (PW.load0 hI hbs) (by simp only [put6, List.setIfInBounds_toArray, List.set_cons_zero, List.set_cons_succ]))
    refine Steps.cons rfl (fun bb aa w' hbs hb0 hbp hI K hK => ?_) ?_
    · obtain ⟨u0, u1, u2, u3, u4, u5, rfl, hI⟩ := hI
      have hq := after_of 0 (by kernel_rfl) hbp
      have hu : u0 = (seedV ka na a la ca) := hI.2.1 hq
      subst hu
      have hch := hI.1
      have HI := Veil.mk hI
      clear hI
      simp only [put6, List.setIfInBounds_toArray, List.set_cons_zero, List.set_cons_succ]
      go_simp
      refine (va.out w' hch).mono ?_
      intro e w2 hp
      obtain ⟨k1, n1, s1, wv1, rfl, hb2⟩ := hp
      go_simp
      exact hK _ _ (PInv.mk (PW.call1 HI.out hbs hb0 wv1 hb2) (by simp only [put6, List.setIfInBounds_toArray, List.set_cons_zero, List.set_cons_succ]))
    refine Steps.cons rfl (fun bb aa w' hbs hb0 hbp hI K hK => ?_) ?_
    · obtain ⟨u0, u1, u2, u3, u4, u5, rfl, hI⟩ := hI
      have e0 := (HS.out.1.on hI.1 HS.out.1.lt); have e1 := (HS.out.2.on hI.1 HS.out.2.lt); have c0 : w'.cell? ⟨w.heap.size, 0, none⟩ = some (.int .i64 ka) := e0.at_ 0; have c1 : w'.cell? ⟨w.heap.size, 1, none⟩ = some (.int .i64 na) := e0.at_ 1; have c2 : w'.cell? ⟨w.heap.size, 2, none⟩ = some (.slice a la ca) := e0.at_ 2; have d0 : w'.cell? ⟨w.heap.size + 1, 0, none⟩ = some (.int .i64 kb) := e1.at_ 0; have d1 : w'.cell? ⟨w.heap.size + 1, 1, none⟩ = some (.int .i64 nb) := e1.at_ 1; have d2 : w'.cell? ⟨w.heap.size + 1, 2, none⟩ = some (.slice b lb cb) := e1.at_ 2
      simp only [put6, List.setIfInBounds_toArray, List.set_cons_zero, List.set_cons_succ]
      go_simp
      exact hK _ _ (PInv.mk (PW.load2 hI hbs) (by simp only [put6, List.setIfInBounds_toArray, List.set_cons_zero, List.set_cons_succ]))
    refine Steps.cons rfl (fun bb aa w' hbs hb0 hbp hI K hK => ?_) ?_
    · obtain ⟨u0, u1, u2, u3, u4, u5, rfl, hI⟩ := hI
      have hq := after_of 2 (by kernel_rfl) hbp
      have hu : u2 = (seedV kb nb b lb cb) := hI.2.2.1 hq
      subst hu
      have hch := hI.1
      have HI := Veil.mk hI
      clear hI
      simp only [put6, List.setIfInBounds_toArray, List.set_cons_zero, List.set_cons_succ]
      go_simp
      refine (vb.out w' hch).mono ?_
      intro e w2 hp
      obtain ⟨k1, n1, s1, wv1, rfl, hb2⟩ := hp
      go_simp
      exact hK _ _ (PInv.mk (PW.call3 HI.out hbs hb0 wv1 hb2) (by simp only [put6, List.setIfInBounds_toArray, List.set_cons_zero, List.set_cons_succ]))
    refine Steps.cons rfl (fun bb aa w' hbs hb0 hbp hI K hK => ?_) ?_
    · obtain ⟨u0, u1, u2, u3, u4, u5, rfl, hI⟩ := hI
      have HI := Veil.mk hI
      clear hI
      simp only [put6, List.setIfInBounds_toArray, List.set_cons_zero, List.set_cons_succ]
      go_simp
      exact hK _ _ (PInv.mk (PW.alloc4 HI.out hbs hb0) (by simp only [put6, List.setIfInBounds_toArray, List.set_cons_zero, List.set_cons_succ]))
    refine Steps.cons rfl (fun bb aa w' hbs hb0 hbp hI K hK => ?_) ?_
    · obtain ⟨u0, u1, u2, u3, u4, u5, rfl, hI⟩ := hI
      have HI := Veil.mk hI
      clear hI
      simp only [put6, List.setIfInBounds_toArray, List.set_cons_zero, List.set_cons_succ]
      go_simp
      exact hK _ _ (PInv.mk (PW.alloc5 HI.out hbs hb0) (by simp only [put6, List.setIfInBounds_toArray, List.set_cons_zero, List.set_cons_succ]))
    refine Steps.cons rfl (fun bb aa w' hbs hb0 hbp hI K hK => ?_) ?_
    · obtain ⟨u0, u1, u2, u3, u4, u5, rfl, hI⟩ := hI
      have q1 := after_of 1 (by kernel_rfl) hbp
      have q2 := after_of 4 (by kernel_rfl) hbp
      have hq := PW.at4 hI hbs hb0 q1 q2
      clear hI q1 q2 hbp
      simp only [put6, List.setIfInBounds_toArray, List.set_cons_zero, List.set_cons_succ]
      obtain ⟨g, k, n, s, e1, e2, hx, hJ⟩ := hq
      subst e1
      subst e2
      have x0 : w'.cell? ⟨g, 0, none⟩ = some (.int .i64 0) := hx.at_ 0
      have x1 : w'.cell? ⟨g, 1, none⟩ = some (.int .i64 0) := hx.at_ 1
      have x2 : w'.cell? ⟨g, 2, none⟩ = some (.string ⟨#[]⟩) := hx.at_ 2
      have f0 := hx.free 0
      have f1 := hx.free 1
      have f2 := hx.free 2
      have HJ := Veil.mk hJ
      clear hJ hx
      go_simp
      exact hK _ _ (PInv.mk HJ.out (by simp only [put6, List.setIfInBounds_toArray, List.set_cons_zero, List.set_cons_succ]))
    refine Steps.cons rfl (fun bb aa w' hbs hb0 hbp hI K hK => ?_) ?_
    · obtain ⟨u0, u1, u2, u3, u4, u5, rfl, hI⟩ := hI
      have q1 := after_of 3 (by kernel_rfl) hbp
      have q2 := after_of 5 (by kernel_rfl) hbp
      have hq := PW.at5 hI hbs hb0 q1 q2
      clear hI q1 q2 hbp
      simp only [put6, List.setIfInBounds_toArray, List.set_cons_zero, List.set_cons_succ]
      obtain ⟨g, k, n, s, e1, e2, hx, hJ⟩ := hq
      subst e1
      subst e2
      have x0 : w'.cell? ⟨g, 0, none⟩ = some (.int .i64 0) := hx.at_ 0
      have x1 : w'.cell? ⟨g, 1, none⟩ = some (.int .i64 0) := hx.at_ 1
      have x2 : w'.cell? ⟨g, 2, none⟩ = some (.string ⟨#[]⟩) := hx.at_ 2
      have f0 := hx.free 0
      have f1 := hx.free 1
      have f2 := hx.free 2
      have HJ := Veil.mk hJ
      clear hJ hx
      go_simp
      exact hK _ _ (PInv.mk HJ.out (by simp only [put6, List.setIfInBounds_toArray, List.set_cons_zero, List.set_cons_succ]))
    exact Steps.nil
  intro u0 u2 g1 g2 x y w5 hne hx hy bx by_ hB5 k1 k2
  simp only [put6, List.setIfInBounds_toArray, List.set_cons_zero, List.set_cons_succ]
  have HB5 := Veil.mk (HB1.out.trans (hB5.mono HB1.out.size))
  clear va vb HS HB1 hB5 HL HR N1 N2 HW k1 k2 hne
  have HK := Veil.mk (key_law x y hx hy)
  have hk6 := key_not6 x
  have S1 := Veil.mk (strict_any x y hx hy)
  have S2 := Veil.mk (rstrict_any x y hx hy)
  have S3 := Veil.mk (same_any x y)
  have S4 := Veil.mk (sameZero_any x y hx hy)
  have Z1 := Veil.mk (zero_any x)
  have Z2 := Veil.mk (zero_any y)
  have K1 := Veil.mk (key_any x hx)
  have K2 := Veil.mk (key_any y hy)
  have sx : x.2.2.size ≤ 1000000 := wv_size hx
  have sy : y.2.2.size ≤ 1000000 := wv_size hy
  have H1 := Veil.mk (hash_any x.1 x.2.1 (keyT x).1 (keyT x).2.1 x.2.2 (keyT x).2.2 (key_size sx) (fun w => key_any x hx w))
  have H2 := Veil.mk (hash_any y.1 y.2.1 (keyT y).1 (keyT y).2.1 y.2.2 (keyT y).2.2 (key_size sy) (fun w => key_any y hy w))
  clear hx hy sx sy
  obtain ⟨sm, hsm⟩ : ∃ b, b = eqB x y := ⟨_, rfl⟩
  obtain ⟨zx, hzx⟩ : ∃ b, b = zeroT x := ⟨_, rfl⟩
  obtain ⟨zy, hzy⟩ : ∃ b, b = zeroT y := ⟨_, rfl⟩
  obtain ⟨st, hst⟩ : ∃ b, b = strictT x y := ⟨_, rfl⟩
  obtain ⟨sz, hsz⟩ : ∃ b, b = eqB (keyT x) (keyT y) := ⟨_, rfl⟩
  rw [← hsz] at S4 HK
  rw [← hsm] at S3 HK
  rw [← hzx] at Z1 HK
  rw [← hzy] at Z2 HK
  rw [← hst] at S1 S2
  have HSM := Lib.hid hsm
  have HSZ := Lib.hid hsz
  clear hsm hsz hzx hzy hst
  obtain ⟨p, hp⟩ : ∃ p, p = keyT x := ⟨_, rfl⟩
  obtain ⟨q, hq⟩ : ∃ q, q = keyT y := ⟨_, rfl⟩
  rw [← hp] at hk6 K1 H1 HSZ
  rw [← hq] at K2 H2 HSZ
  clear hp hq
  obtain ⟨xk, xn, xs⟩ := x
  obtain ⟨yk, yn, ys⟩ := y
  simp only at bx by_
  have p0 : w5.cell? ⟨g1, 0, none⟩ = some (.int .i64 xk) := bx.at_ 0
  have p1 : w5.cell? ⟨g1, 1, none⟩ = some (.int .i64 xn) := bx.at_ 1
  have p2 : w5.cell? ⟨g1, 2, none⟩ = some (.string xs) := bx.at_ 2
  have q0 : w5.cell? ⟨g2, 0, none⟩ = some (.int .i64 yk) := by_.at_ 0
  have q1 : w5.cell? ⟨g2, 1, none⟩ = some (.int .i64 yn) := by_.at_ 1
  have q2 : w5.cell? ⟨g2, 2, none⟩ = some (.string ys) := by_.at_ 2
  have HBX := Veil.mk (And.intro bx by_)
  clear bx by_
  go_upto_region 7 with (fail)
  go_cut [8] (fun s8 wx => s8 = .bool sm ∧ w5 = wx)
  case first =>
    by_cases h : (xk, xn, xs) = (yk, yn, ys)
    · have HF : Hid (sm = true) := HSM.out.trans (decide_eq_true h)
      injection h with ea eb
      injection eb with eb ec
      subst ea eb ec
      go_wp2
      go_meet
      exact ⟨by rw [HF.out], rfl⟩
    · have HF : Hid (sm = false) := HSM.out.trans (decide_eq_false h)
      have hne := vne2 h
      simp only at hne
      clear h
      rcases hne with g1 | ⟨g1, g2⟩ | ⟨g1, g2, g3⟩
      · have g4 : (xk == yk) = false := by simpa using g1
        go_wp2
        go_meet
        exact ⟨by rw [HF.out], rfl⟩
      · subst g1
        have g4 : (xn == yn) = false := by simpa using g2
        go_wp2
        go_meet
        exact ⟨by rw [HF.out], rfl⟩
      · subst g1 g2
        have g4 : (xs.toList == ys.toList) = false := by simpa using g3
        go_wp2
        go_meet
        exact ⟨by rw [HF.out], rfl⟩
  case rest =>
    obtain ⟨rfl, rfl⟩ := hcut
    go_upto_region 8 with (fail)
    go_cut [9] (fun s9 wx => s9 = .bool sz ∧ Below w5.heap.size w5 wx)
    case first =>
      cases sm
      · cases zx
        · go_wp2_with (first | (go_at_call 14; ((with_reducible refine (Z1.out _).mono ?_); rintro e w6 ⟨rfl, hb6⟩; have r0 : w6.cell? ⟨g2, 0, none⟩ = some (.int .i64 yk) := (HBX.out.2.on hb6 HBX.out.2.lt).at_ 0; have r1 : w6.cell? ⟨g2, 1, none⟩ = some (.int .i64 yn) := (HBX.out.2.on hb6 HBX.out.2.lt).at_ 1; have r2 : w6.cell? ⟨g2, 2, none⟩ = some (.string ys) := (HBX.out.2.on hb6 HBX.out.2.lt).at_ 2)))
          go_meet
          exact ⟨by rw [HK.out]; rfl, hb6⟩
        · cases zy
          all_goals
            go_wp2_with (first | (go_at_call 14; first | ((with_reducible refine (Z1.out _).mono ?_); rintro e w6 ⟨rfl, hb6⟩; have r0 : w6.cell? ⟨g2, 0, none⟩ = some (.int .i64 yk) := (HBX.out.2.on hb6 HBX.out.2.lt).at_ 0; have r1 : w6.cell? ⟨g2, 1, none⟩ = some (.int .i64 yn) := (HBX.out.2.on hb6 HBX.out.2.lt).at_ 1; have r2 : w6.cell? ⟨g2, 2, none⟩ = some (.string ys) := (HBX.out.2.on hb6 HBX.out.2.lt).at_ 2) | ((with_reducible refine (Z2.out _).mono ?_); rintro e w7 ⟨rfl, hb7⟩)))
            go_meet
            exact ⟨by rw [HK.out]; rfl, hb6.trans (hb7.mono hb6.size)⟩
      · go_wp2
        go_meet
        exact ⟨by rw [HK.out]; rfl, Below.refl _ _⟩
    case rest =>
      obtain ⟨rfl, hb9⟩ := hcut
      have a1 := (HBX.out.1.on hb9 HBX.out.1.lt).atV
      have a2 := (HBX.out.2.on hb9 HBX.out.2.lt).atV
      have HB9 := Veil.mk (HB5.out.trans (hb9.mono HB5.out.size))
      have hk7 : (p.1 != 6) = true := by simpa using hk6
      clear hb9 HBX p0 p1 p2 q0 q1 q2 HB5 Z1 Z2 HK hk6
      cases sz
      · clear HSZ HSM K2 H1 H2
        obtain ⟨pk, pn, ps⟩ := p
        simp only at hk7
        cases st <;> cases sm
        all_goals
          go_upto_region 9 with (fail)
          refine W.wp_region_fresh (by kernel_rfl) (by kernel_rfl) ?_
          repeat (first | go_big_quiet_skip | (go_big_quiet_want; (first | (go_big_quiet_op; go_big_quiet_on) | (apply W.quiet_load27; exact rfl; exact rfl; (intro wq hw9; first | with_reducible exact W.AtV.later a1 hw9 | with_reducible exact W.AtV.later a2 hw9); simp only [Act.put, List.setIfInBounds_toArray, List.set_cons_zero, List.set_cons_succ]; go_big_quiet_on) | (refine quiet_call2 (f := 15) (u := W.V xk xn xs) (u2 := W.V yk yn ys) (v := .bool false) rfl rfl rfl (run_Strict _ _) ?_ ?_; (intro wq hw9; exact (S1.out wq).mono (fun _ _ hh => ⟨hh.1, W.blw2 hw9 hh.2⟩)); simp only [Act.put, List.setIfInBounds_toArray, List.set_cons_zero, List.set_cons_succ]; go_big_quiet_on) | (refine quiet_call2 (f := 15) (u := W.V xk xn xs) (u2 := W.V yk yn ys) (v := .bool true) rfl rfl rfl (run_Strict _ _) ?_ ?_; (intro wq hw9; exact (S1.out wq).mono (fun _ _ hh => ⟨hh.1, W.blw2 hw9 hh.2⟩)); simp only [Act.put, List.setIfInBounds_toArray, List.set_cons_zero, List.set_cons_succ]; go_big_quiet_on) | (refine quiet_call2 (f := 16) (u := W.V xk xn xs) (u2 := W.V yk yn ys) (v := .bool false) rfl rfl rfl (run_RStrict _ _) ?_ ?_; (intro wq hw9; exact (S2.out wq).mono (fun _ _ hh => ⟨hh.1, W.blw2 hw9 hh.2⟩)); simp only [Act.put, List.setIfInBounds_toArray, List.set_cons_zero, List.set_cons_succ]; go_big_quiet_on) | (refine quiet_call2 (f := 16) (u := W.V xk xn xs) (u2 := W.V yk yn ys) (v := .bool true) rfl rfl rfl (run_RStrict _ _) ?_ ?_; (intro wq hw9; exact (S2.out wq).mono (fun _ _ hh => ⟨hh.1, W.blw2 hw9 hh.2⟩)); simp only [Act.put, List.setIfInBounds_toArray, List.set_cons_zero, List.set_cons_succ]; go_big_quiet_on) | (refine quiet_call2 (f := 17) (u := W.V xk xn xs) (u2 := W.V yk yn ys) (v := .bool false) rfl rfl rfl (run_Same _ _) ?_ ?_; (intro wq hw9; exact (S3.out wq).mono (fun _ _ hh => ⟨hh.1, W.blw2 hw9 hh.2⟩)); simp only [Act.put, List.setIfInBounds_toArray, List.set_cons_zero, List.set_cons_succ]; go_big_quiet_on) | (refine quiet_call2 (f := 17) (u := W.V xk xn xs) (u2 := W.V yk yn ys) (v := .bool true) rfl rfl rfl (run_Same _ _) ?_ ?_; (intro wq hw9; exact (S3.out wq).mono (fun _ _ hh => ⟨hh.1, W.blw2 hw9 hh.2⟩)); simp only [Act.put, List.setIfInBounds_toArray, List.set_cons_zero, List.set_cons_succ]; go_big_quiet_on) | (refine quiet_call2 (f := 18) (u := W.V xk xn xs) (u2 := W.V yk yn ys) (v := .bool false) rfl rfl rfl (run_SameZero _ _) ?_ ?_; (intro wq hw9; exact (S4.out wq).mono (fun _ _ hh => ⟨hh.1, W.blw2 hw9 hh.2⟩)); simp only [Act.put, List.setIfInBounds_toArray, List.set_cons_zero, List.set_cons_succ]; go_big_quiet_on) | (refine quiet_call2 (f := 18) (u := W.V xk xn xs) (u2 := W.V yk yn ys) (v := .bool true) rfl rfl rfl (run_SameZero _ _) ?_ ?_; (intro wq hw9; exact (S4.out wq).mono (fun _ _ hh => ⟨hh.1, W.blw2 hw9 hh.2⟩)); simp only [Act.put, List.setIfInBounds_toArray, List.set_cons_zero, List.set_cons_succ]; go_big_quiet_on) | (refine W.quiet_call1 (f := 20) (u := W.V xk xn xs) (v := W.V pk pn ps) rfl rfl (run_Key _) ?_ ?_; (intro wq hw9; exact (K1.out wq).mono (fun _ _ hh => ⟨hh.1, W.blw2 hw9 hh.2⟩)); simp only [Act.put, List.setIfInBounds_toArray, List.set_cons_zero, List.set_cons_succ]; go_big_quiet_on) | (apply W.quiet_pure; (intro wq; go_simp; exact rfl); simp only [Act.put, List.setIfInBounds_toArray, List.set_cons_zero, List.set_cons_succ]; go_big_quiet_on))))
          refine wpQuiet_nil ?_
          intro w9 hb9
          go_wp2_with fail
          go_ret
          exact ⟨rfl, HB9.out.trans (hb9.mono HB9.out.size)⟩
      · obtain rfl : p = q := of_decide_eq_true HSZ.out.symm
        clear HSZ HSM
        obtain ⟨pk, pn, ps⟩ := p
        simp only at hk7 H1 H2
        cases st <;> cases sm
        all_goals
          go_upto_region 9 with (fail)
          refine W.wp_region_fresh (by kernel_rfl) (by kernel_rfl) ?_
          repeat (first | go_big_quiet_skip | (go_big_quiet_want; (first | (go_big_quiet_op; go_big_quiet_on) | (apply W.quiet_load27; exact rfl; exact rfl; (intro wq hw9; first | with_reducible exact W.AtV.later a1 hw9 | with_reducible exact W.AtV.later a2 hw9); simp only [Act.put, List.setIfInBounds_toArray, List.set_cons_zero, List.set_cons_succ]; go_big_quiet_on) | (refine quiet_call2 (f := 15) (u := W.V xk xn xs) (u2 := W.V yk yn ys) (v := .bool false) rfl rfl rfl (run_Strict _ _) ?_ ?_; (intro wq hw9; exact (S1.out wq).mono (fun _ _ hh => ⟨hh.1, W.blw2 hw9 hh.2⟩)); simp only [Act.put, List.setIfInBounds_toArray, List.set_cons_zero, List.set_cons_succ]; go_big_quiet_on) | (refine quiet_call2 (f := 15) (u := W.V xk xn xs) (u2 := W.V yk yn ys) (v := .bool true) rfl rfl rfl (run_Strict _ _) ?_ ?_; (intro wq hw9; exact (S1.out wq).mono (fun _ _ hh => ⟨hh.1, W.blw2 hw9 hh.2⟩)); simp only [Act.put, List.setIfInBounds_toArray, List.set_cons_zero, List.set_cons_succ]; go_big_quiet_on) | (refine quiet_call2 (f := 16) (u := W.V xk xn xs) (u2 := W.V yk yn ys) (v := .bool false) rfl rfl rfl (run_RStrict _ _) ?_ ?_; (intro wq hw9; exact (S2.out wq).mono (fun _ _ hh => ⟨hh.1, W.blw2 hw9 hh.2⟩)); simp only [Act.put, List.setIfInBounds_toArray, List.set_cons_zero, List.set_cons_succ]; go_big_quiet_on) | (refine quiet_call2 (f := 16) (u := W.V xk xn xs) (u2 := W.V yk yn ys) (v := .bool true) rfl rfl rfl (run_RStrict _ _) ?_ ?_; (intro wq hw9; exact (S2.out wq).mono (fun _ _ hh => ⟨hh.1, W.blw2 hw9 hh.2⟩)); simp only [Act.put, List.setIfInBounds_toArray, List.set_cons_zero, List.set_cons_succ]; go_big_quiet_on) | (refine quiet_call2 (f := 17) (u := W.V xk xn xs) (u2 := W.V yk yn ys) (v := .bool false) rfl rfl rfl (run_Same _ _) ?_ ?_; (intro wq hw9; exact (S3.out wq).mono (fun _ _ hh => ⟨hh.1, W.blw2 hw9 hh.2⟩)); simp only [Act.put, List.setIfInBounds_toArray, List.set_cons_zero, List.set_cons_succ]; go_big_quiet_on) | (refine quiet_call2 (f := 17) (u := W.V xk xn xs) (u2 := W.V yk yn ys) (v := .bool true) rfl rfl rfl (run_Same _ _) ?_ ?_; (intro wq hw9; exact (S3.out wq).mono (fun _ _ hh => ⟨hh.1, W.blw2 hw9 hh.2⟩)); simp only [Act.put, List.setIfInBounds_toArray, List.set_cons_zero, List.set_cons_succ]; go_big_quiet_on) | (refine quiet_call2 (f := 18) (u := W.V xk xn xs) (u2 := W.V yk yn ys) (v := .bool false) rfl rfl rfl (run_SameZero _ _) ?_ ?_; (intro wq hw9; exact (S4.out wq).mono (fun _ _ hh => ⟨hh.1, W.blw2 hw9 hh.2⟩)); simp only [Act.put, List.setIfInBounds_toArray, List.set_cons_zero, List.set_cons_succ]; go_big_quiet_on) | (refine quiet_call2 (f := 18) (u := W.V xk xn xs) (u2 := W.V yk yn ys) (v := .bool true) rfl rfl rfl (run_SameZero _ _) ?_ ?_; (intro wq hw9; exact (S4.out wq).mono (fun _ _ hh => ⟨hh.1, W.blw2 hw9 hh.2⟩)); simp only [Act.put, List.setIfInBounds_toArray, List.set_cons_zero, List.set_cons_succ]; go_big_quiet_on) | (refine W.quiet_call1 (f := 20) (u := W.V xk xn xs) (v := W.V pk pn ps) rfl rfl (run_Key _) ?_ ?_; (intro wq hw9; exact (K1.out wq).mono (fun _ _ hh => ⟨hh.1, W.blw2 hw9 hh.2⟩)); simp only [Act.put, List.setIfInBounds_toArray, List.set_cons_zero, List.set_cons_succ]; go_big_quiet_on) | (refine W.quiet_call1 (f := 20) (u := W.V yk yn ys) (v := W.V pk pn ps) rfl rfl (run_Key _) ?_ ?_; (intro wq hw9; exact (K2.out wq).mono (fun _ _ hh => ⟨hh.1, W.blw2 hw9 hh.2⟩)); simp only [Act.put, List.setIfInBounds_toArray, List.set_cons_zero, List.set_cons_succ]; go_big_quiet_on) | (refine W.quiet_call1 (f := 19) (u := W.V xk xn xs) (v := .int .u32 (hashR pk pn ps)) rfl rfl (run_Hash _) ?_ ?_; (intro wq hw9; exact (H1.out wq).mono (fun _ _ hh => ⟨hh.1, W.blw2 hw9 hh.2⟩)); simp only [Act.put, List.setIfInBounds_toArray, List.set_cons_zero, List.set_cons_succ]; go_big_quiet_on) | (refine W.quiet_call1 (f := 19) (u := W.V yk yn ys) (v := .int .u32 (hashR pk pn ps)) rfl rfl (run_Hash _) ?_ ?_; (intro wq hw9; exact (H2.out wq).mono (fun _ _ hh => ⟨hh.1, W.blw2 hw9 hh.2⟩)); simp only [Act.put, List.setIfInBounds_toArray, List.set_cons_zero, List.set_cons_succ]; go_big_quiet_on) | (apply W.quiet_pure; (intro wq; go_simp; exact rfl); simp only [Act.put, List.setIfInBounds_toArray, List.set_cons_zero, List.set_cons_succ]; go_big_quiet_on))))
          refine wpQuiet_nil ?_
          intro w9 hb9
          go_wp2_with fail
          go_ret
          exact ⟨rfl, HB9.out.trans (hb9.mono HB9.out.size)⟩
end Go.Proofs.YtbkgophgclpijaaDoor
