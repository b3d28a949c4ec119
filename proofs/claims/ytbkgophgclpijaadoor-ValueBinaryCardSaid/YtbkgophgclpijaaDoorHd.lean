/- ValueOrder: the walk. -/
import Derived.Test.YtbkgophgclpijaaDoorHc
import Derived.Test.YtbkgophgclpijaaDoorIc
import Derived.BigQuiet
import Derived.Deep.QuietTactic
namespace Go.Proofs.YtbkgophgclpijaaDoor
open Go Go.RowKit

theorem cmpB_flip : ∀ (a b : List UInt8), Lib.compareBytes b a = - Lib.compareBytes a b
  | [], [] => by simp [Lib.compareBytes]
  | [], _ :: _ => by simp [Lib.compareBytes]
  | _ :: _, [] => by simp [Lib.compareBytes]
  | x :: r, y :: t => by
    have := cmpB_flip r t
    unfold Lib.compareBytes
    by_cases h1 : x < y
    · have h2 : ¬ y < x := by intro h; exact absurd (UInt8.lt_asymm h1 h) (by simp)
      simp [h1, h2]
    · by_cases h2 : y < x
      · simp [h1, h2]
      · simp only [h1, h2, if_false]; exact this
theorem cmpB_three : ∀ (a b : List UInt8), Lib.compareBytes a b = -1 ∨ Lib.compareBytes a b = 0 ∨ Lib.compareBytes a b = 1
  | [], [] => by simp [Lib.compareBytes]
  | [], _ :: _ => by simp [Lib.compareBytes]
  | _ :: _, [] => by simp [Lib.compareBytes]
  | x :: r, y :: t => by
    have := cmpB_three r t
    unfold Lib.compareBytes
    split
    · simp
    split
    · simp
    · exact this
/-- The two signs of two values. -/
theorem signs_two (x y : Vt) : ((sgnT x y).1 ≠ 0 ∧ (sgnT y x).1 ≠ 0) ∨ ((sgnT x y).1 = 0 ∧ (sgnT y x).1 = 0 ∧
    (((sgnT x y).2 = -1 ∧ (sgnT y x).2 = 1) ∨ ((sgnT x y).2 = 0 ∧ (sgnT y x).2 = 0) ∨ ((sgnT x y).2 = 1 ∧ (sgnT y x).2 = -1) ∨ ((sgnT x y).2 = 2 ∧ (sgnT y x).2 = 2))) := by
  by_cases h : x.1 = 7 ∧ y.1 = 7
  · rw [sgn_texts h, sgn_texts h.symm]
    refine .inr ⟨rfl, rfl, ?_⟩
    simp only
    rw [cmpB_flip x.2.2.data.toList y.2.2.data.toList]
    rcases cmpB_three x.2.2.data.toList y.2.2.data.toList with e | e | e <;> rw [e] <;> simp
  · rw [sgn_calc h, sgn_calc (fun e => h e.symm)]
    unfold calcS
    by_cases h1 : (numberT x).2 = 0 <;> by_cases h2 : (numberT y).2 = 0
    · simp only [h1, h2, if_true, true_and]
      refine .inr ?_
      generalize (numberT x).1.1 = k1
      generalize (numberT x).1.2.1 = n1
      generalize (numberT y).1.1 = k2
      generalize (numberT y).1.2.1 = n2
      unfold M.cmpR
      by_cases h : k1 = 4 ∨ k2 = 4
      · rw [if_pos h, if_pos h.symm]; simp
      have h' : ¬ (k2 = 4 ∨ k1 = 4) := fun e => h e.symm
      rw [if_neg h, if_neg h']
      by_cases h3 : M.rk k1 n1 < M.rk k2 n2
      · have h4 : ¬ M.rk k2 n2 < M.rk k1 n1 := by omega
        simp [h3, h4]
      · by_cases h4 : M.rk k2 n2 < M.rk k1 n1
        · simp [h3, h4]
        · simp [h3, h4]
    · left; simp [h1, h2]
    · left; simp [h1, h2]
    · left; simp [h1, h2]
theorem order_ways (x y : Vt) :
    (∃ e i : Int, e ≠ 0 ∧ i ≠ 0 ∧ stR .lt (sgnT x y) = ((0, 0, W.e0), e) ∧ stR .gt (sgnT x y) = ((0, 0, W.e0), e) ∧ stR .le (sgnT x y) = ((0, 0, W.e0), e) ∧ stR .ge (sgnT x y) = ((0, 0, W.e0), e) ∧ stR .gt (sgnT y x) = ((0, 0, W.e0), i)) ∨
    (stR .lt (sgnT x y) = ((2, 1, W.e0), 0) ∧ stR .gt (sgnT x y) = ((2, 0, W.e0), 0) ∧ stR .le (sgnT x y) = ((2, 1, W.e0), 0) ∧ stR .ge (sgnT x y) = ((2, 0, W.e0), 0) ∧ stR .gt (sgnT y x) = ((2, 1, W.e0), 0)) ∨
    (stR .lt (sgnT x y) = ((2, 0, W.e0), 0) ∧ stR .gt (sgnT x y) = ((2, 0, W.e0), 0) ∧ stR .le (sgnT x y) = ((2, 1, W.e0), 0) ∧ stR .ge (sgnT x y) = ((2, 1, W.e0), 0) ∧ stR .gt (sgnT y x) = ((2, 0, W.e0), 0)) ∨
    (stR .lt (sgnT x y) = ((2, 0, W.e0), 0) ∧ stR .gt (sgnT x y) = ((2, 1, W.e0), 0) ∧ stR .le (sgnT x y) = ((2, 0, W.e0), 0) ∧ stR .ge (sgnT x y) = ((2, 1, W.e0), 0) ∧ stR .gt (sgnT y x) = ((2, 0, W.e0), 0)) ∨
    (stR .lt (sgnT x y) = ((2, 0, W.e0), 0) ∧ stR .gt (sgnT x y) = ((2, 0, W.e0), 0) ∧ stR .le (sgnT x y) = ((2, 0, W.e0), 0) ∧ stR .ge (sgnT x y) = ((2, 0, W.e0), 0) ∧ stR .gt (sgnT y x) = ((2, 0, W.e0), 0)) := by
  rcases signs_two x y with ⟨h1, h2⟩ | ⟨h1, h2, h3⟩
  · exact .inl ⟨_, _, h1, h2, if_neg h1, if_neg h1, if_neg h1, if_neg h1, if_neg h2⟩
  · generalize sgnT x y = p at h1 h2 h3 ⊢
    generalize sgnT y x = q at h1 h2 h3 ⊢
    obtain ⟨e, c⟩ := p
    obtain ⟨i, d⟩ := q
    simp only at h1 h2 h3
    subst h1 h2
    rcases h3 with ⟨rfl, rfl⟩ | ⟨rfl, rfl⟩ | ⟨rfl, rfl⟩ | ⟨rfl, rfl⟩
    · exact .inr (.inl ⟨rfl, rfl, rfl, rfl, rfl⟩)
    · exact .inr (.inr (.inl ⟨rfl, rfl, rfl, rfl, rfl⟩))
    · exact .inr (.inr (.inr (.inl ⟨rfl, rfl, rfl, rfl, rfl⟩)))
    · exact .inr (.inr (.inr (.inr ⟨rfl, rfl, rfl, rfl, rfl⟩)))
theorem true1 (w : World) : Calls Tryd.prog 26 #[W.V 2 1 W.e0] w fun e w' => e = .returned (.bool true) ∧ Below w.heap.size w w' :=
  true_any (2, 1, W.e0) (.inr (.inl ⟨rfl, .inr rfl, rfl⟩)) w
theorem true0 (w : World) : Calls Tryd.prog 26 #[W.V 2 0 W.e0] w fun e w' => e = .returned (.bool false) ∧ Below w.heap.size w w' :=
  true_any (2, 0, W.e0) (.inr (.inl ⟨rfl, .inl rfl, rfl⟩)) w
theorem run_True (u : Value) (w : World) : (callFunc 26 #[u]).run Tryd.prog w = .ok (.enter 26 #[u]) w := by kernel_rfl

set_option maxRecDepth 1000000 in
set_option maxHeartbeats 8000000 in
theorem order_law (ka na kb nb : Int) (a b : Option Addr) (la ca lb cb : Nat) (l r : List Nat) (hl : ∀ u ∈ l, u < 65536) (hr : ∀ u ∈ r, u < 65536) (w : World) (h1 : W.Nums .u16 w a la l) (h2 : W.Nums .u16 w b lb r) :
    Calls Tryd.prog 6 #[seedV ka na a la ca, seedV kb nb b lb cb] w fun e w' => e = .returned (.bool true) ∧ Below w.heap.size w w' := by
  by_cases ha : 2000 < la
  · have hai : (2000 : Int) < (la : Int) := by omega
    have HX := Veil.mk (And.intro h1 h2)
    clear h1 h2
    obtain ⟨W0, hW0⟩ : ∃ W, W = (w.alloc (.cells #[.int .i64 ka, .int .i64 na, .slice a la ca] 24)).alloc (.cells #[.int .i64 kb, .int .i64 nb, .slice b lb cb] 24) := ⟨_, rfl⟩
    have hB : Below w.heap.size w W0 := by rw [hW0]; exact ((Below.refl _ _).alloc (Nat.le_refl _) _).alloc (by simp) _
    have b1 : Box W0 w.heap.size 24 #[.int .i64 ka, .int .i64 na, .slice a la ca] := by rw [hW0]; exact (Box.new _ _ _).more _
    have b2 : Box W0 (w.heap.size + 1) 24 #[.int .i64 kb, .int .i64 nb, .slice b lb cb] := by
      rw [hW0]
      have := Box.new (w.alloc (.cells #[.int .i64 ka, .int .i64 na, .slice a la ca] 24)) 24 #[.int .i64 kb, .int .i64 nb, .slice b lb cb]
      simpa using this
    have HW := Lib.hid hW0.symm
    clear hW0
    go_enter Tryd.func6, Tryd.ntmps6
    go_upto_region 1 with (fail)
    rw [HW.out]
    go_wp2_with (first | (go_at_call 10; ((with_reducible refine (W.fit_any _).mono ?_); rintro e w1 ⟨rfl, hb1⟩; have sA := b1.on hb1 b1.lt; have sB := b2.on hb1 b2.lt; have c0 : w1.cell? ⟨w.heap.size, 0, none⟩ = some (.int .i64 ka) := sA.at_ 0; have c1 : w1.cell? ⟨w.heap.size, 1, none⟩ = some (.int .i64 na) := sA.at_ 1; have c2 : w1.cell? ⟨w.heap.size, 2, none⟩ = some (.slice a la ca) := sA.at_ 2; have d0 : w1.cell? ⟨w.heap.size + 1, 0, none⟩ = some (.int .i64 kb) := sB.at_ 0; have d1 : w1.cell? ⟨w.heap.size + 1, 1, none⟩ = some (.int .i64 nb) := sB.at_ 1; have d2 : w1.cell? ⟨w.heap.size + 1, 2, none⟩ = some (.slice b lb cb) := sB.at_ 2)))
    go_ret
    exact ⟨rfl, hB.trans (hb1.mono hB.size)⟩
  by_cases hb : 2000 < lb
  · have hai : ¬ (2000 : Int) < (la : Int) := by omega
    have hbi : (2000 : Int) < (lb : Int) := by omega
    clear h1 h2
    obtain ⟨W0, hW0⟩ : ∃ W, W = (w.alloc (.cells #[.int .i64 ka, .int .i64 na, .slice a la ca] 24)).alloc (.cells #[.int .i64 kb, .int .i64 nb, .slice b lb cb] 24) := ⟨_, rfl⟩
    have hB : Below w.heap.size w W0 := by rw [hW0]; exact ((Below.refl _ _).alloc (Nat.le_refl _) _).alloc (by simp) _
    have b1 : Box W0 w.heap.size 24 #[.int .i64 ka, .int .i64 na, .slice a la ca] := by rw [hW0]; exact (Box.new _ _ _).more _
    have b2 : Box W0 (w.heap.size + 1) 24 #[.int .i64 kb, .int .i64 nb, .slice b lb cb] := by
      rw [hW0]
      have := Box.new (w.alloc (.cells #[.int .i64 ka, .int .i64 na, .slice a la ca] 24)) 24 #[.int .i64 kb, .int .i64 nb, .slice b lb cb]
      simpa using this
    have HW := Lib.hid hW0.symm
    clear hW0
    go_enter Tryd.func6, Tryd.ntmps6
    go_upto_region 1 with (fail)
    rw [HW.out]
    go_wp2_with (first | (go_at_call 10; ((with_reducible refine (W.fit_any _).mono ?_); rintro e w1 ⟨rfl, hb1⟩; have sA := b1.on hb1 b1.lt; have sB := b2.on hb1 b2.lt; have c0 : w1.cell? ⟨w.heap.size, 0, none⟩ = some (.int .i64 ka) := sA.at_ 0; have c1 : w1.cell? ⟨w.heap.size, 1, none⟩ = some (.int .i64 na) := sA.at_ 1; have c2 : w1.cell? ⟨w.heap.size, 2, none⟩ = some (.slice a la ca) := sA.at_ 2; have d0 : w1.cell? ⟨w.heap.size + 1, 0, none⟩ = some (.int .i64 kb) := sB.at_ 0; have d1 : w1.cell? ⟨w.heap.size + 1, 1, none⟩ = some (.int .i64 nb) := sB.at_ 1; have d2 : w1.cell? ⟨w.heap.size + 1, 2, none⟩ = some (.slice b lb cb) := sB.at_ 2)))
    go_ret
    exact ⟨rfl, hB.trans (hb1.mono hB.size)⟩
  have hai : ¬ (2000 : Int) < (la : Int) := by omega
  have hbi : ¬ (2000 : Int) < (lb : Int) := by omega
  obtain ⟨W0, hW0⟩ : ∃ W, W = (w.alloc (.cells #[.int .i64 ka, .int .i64 na, .slice a la ca] 24)).alloc (.cells #[.int .i64 kb, .int .i64 nb, .slice b lb cb] 24) := ⟨_, rfl⟩
  have hB : Below w.heap.size w W0 := by rw [hW0]; exact ((Below.refl _ _).alloc (Nat.le_refl _) _).alloc (by simp) _
  have b1 : Box W0 w.heap.size 24 #[.int .i64 ka, .int .i64 na, .slice a la ca] := by rw [hW0]; exact (Box.new _ _ _).more _
  have b2 : Box W0 (w.heap.size + 1) 24 #[.int .i64 kb, .int .i64 nb, .slice b lb cb] := by
    rw [hW0]
    have := Box.new (w.alloc (.cells #[.int .i64 ka, .int .i64 na, .slice a la ca] 24)) 24 #[.int .i64 kb, .int .i64 nb, .slice b lb cb]
    simpa using this
  have HW := Lib.hid hW0.symm
  clear hW0
  have HL := Veil.mk hl
  have HR := Veil.mk hr
  have N1 := Veil.mk h1
  have N2 := Veil.mk h2
  clear hl hr h1 h2 ha hb
  go_enter Tryd.func6, Tryd.ntmps6
  go_upto_region 1 with (fail)
  rw [HW.out]
  go_upto_region 5 with (first | (go_at_call 10; ((with_reducible refine (W.fit_any _).mono ?_); rintro e w1 ⟨rfl, hb1⟩; have sA := b1.on hb1 b1.lt; have sB := b2.on hb1 b2.lt; have c0 : w1.cell? ⟨w.heap.size, 0, none⟩ = some (.int .i64 ka) := sA.at_ 0; have c1 : w1.cell? ⟨w.heap.size, 1, none⟩ = some (.int .i64 na) := sA.at_ 1; have c2 : w1.cell? ⟨w.heap.size, 2, none⟩ = some (.slice a la ca) := sA.at_ 2; have d0 : w1.cell? ⟨w.heap.size + 1, 0, none⟩ = some (.int .i64 kb) := sB.at_ 0; have d1 : w1.cell? ⟨w.heap.size + 1, 1, none⟩ = some (.int .i64 nb) := sB.at_ 1; have d2 : w1.cell? ⟨w.heap.size + 1, 2, none⟩ = some (.slice b lb cb) := sB.at_ 2)))
  have va := Veil.mk (fun wx (h : Below w1.heap.size w1 wx) => seed_val ka na a la ca l (by omega) HL.out wx (((N1.out.on hB).on hb1).on h))
  have vb := Veil.mk (fun wx (h : Below w1.heap.size w1 wx) => seed_val kb nb b lb cb r (by omega) HR.out wx (((N2.out.on hB).on hb1).on h))
  have HS := Veil.mk (And.intro sA sB)
  have HB1 := Veil.mk (hB.trans (hb1.mono hB.size))
  clear sA sB b1 b2 c0 c1 c2 d0 d1 d2 hB hb1 hai hbi
  refine wp_region_pair (seedV ka na a la ca) (seedV kb nb b lb cb) 30 31 32 33 5 6 (by kernel_rfl) rfl rfl ?_ (by kernel_rfl) ?_
  · refine Steps.cons rfl (fun bb aa w' hbs hb0 hbp hI K hK => ?_) ?_
    · obtain ⟨u0, u1, u2, u3, u4, u5, rfl, hI⟩ := hI
      have e0 := (HS.out.1.on hI.1 HS.out.1.lt); have e1 := (HS.out.2.on hI.1 HS.out.2.lt); have c0 : w'.cell? ⟨w.heap.size, 0, none⟩ = some (.int .i64 ka) := e0.at_ 0; have c1 : w'.cell? ⟨w.heap.size, 1, none⟩ = some (.int .i64 na) := e0.at_ 1; have c2 : w'.cell? ⟨w.heap.size, 2, none⟩ = some (.slice a la ca) := e0.at_ 2; have d0 : w'.cell? ⟨w.heap.size + 1, 0, none⟩ = some (.int .i64 kb) := e1.at_ 0; have d1 : w'.cell? ⟨w.heap.size + 1, 1, none⟩ = some (.int .i64 nb) := e1.at_ 1; have d2 : w'.cell? ⟨w.heap.size + 1, 2, none⟩ = some (.slice b lb cb) := e1.at_ 2
      simp only [put6, List.setIfInBounds_toArray, List.set_cons_zero, List.set_cons_succ]
      go_simp
      exact hK _ _ (PInv.mk (PW.load0 hI hbs) (by simp only [put6, List.setIfInBounds_toArray, List.set_cons_zero, List.set_cons_succ]))
    refine Steps.cons rfl (fun bb aa w' hbs hb0 hbp hI K hK => ?_) ?_
    · obtain ⟨u0, u1, u2, u3, u4, u5, rfl, hI⟩ := hI
      have hq := after_of 0 (by kernel_rfl) hbp
      have hu : u0 = (seedV ka na a la ca) := hI.2.1 hq
      subst hu
      have hch := hI.1
      have HI := Veil.mk hI
      clear hI
      simp only [put6, List.setIfInBounds_toArray, List.set_cons_zero, List.set_cons_succ]
      go_simp
      refine (va.out w' hch).mono ?_
      intro e w2 hp
      obtain ⟨k1, n1, s1, wv1, rfl, hb2⟩ := hp
      go_simp
      exact hK _ _ (PInv.mk (PW.call1 HI.out hbs hb0 wv1 hb2) (by simp only [put6, List.setIfInBounds_toArray, List.set_cons_zero, List.set_cons_succ]))
    refine Steps.cons rfl (fun bb aa w' hbs hb0 hbp hI K hK => ?_) ?_
    · obtain ⟨u0, u1, u2, u3, u4, u5, rfl, hI⟩ := hI
      have e0 := (HS.out.1.on hI.1 HS.out.1.lt); have e1 := (HS.out.2.on hI.1 HS.out.2.lt); have c0 : w'.cell? ⟨w.heap.size, 0, none⟩ = some (.int .i64 ka) := e0.at_ 0; have c1 : w'.cell? ⟨w.heap.size, 1, none⟩ = some (.int .i64 na) := e0.at_ 1; have c2 : w'.cell? ⟨w.heap.size, 2, none⟩ = some (.slice a la ca) := e0.at_ 2; have d0 : w'.cell? ⟨w.heap.size + 1, 0, none⟩ = some (.int .i64 kb) := e1.at_ 0; have d1 : w'.cell? ⟨w.heap.size + 1, 1, none⟩ = some (.int .i64 nb) := e1.at_ 1; have d2 : w'.cell? ⟨w.heap.size + 1, 2, none⟩ = some (.slice b lb cb) := e1.at_ 2
      simp only [put6, List.setIfInBounds_toArray, List.set_cons_zero, List.set_cons_succ]
      go_simp
      exact hK _ _ (PInv.mk (PW.load2 hI hbs) (by simp only [put6, List.setIfInBounds_toArray, List.set_cons_zero, List.set_cons_succ]))
    refine Steps.cons rfl (fun bb aa w' hbs hb0 hbp hI K hK => ?_) ?_
    · obtain ⟨u0, u1, u2, u3, u4, u5, rfl, hI⟩ := hI
      have hq := after_of 2 (by kernel_rfl) hbp
      have hu : u2 = (seedV kb nb b lb cb) := hI.2.2.1 hq
      subst hu
      have hch := hI.1
      have HI := Veil.mk hI
      clear hI
      simp only [put6, List.setIfInBounds_toArray, List.set_cons_zero, List.set_cons_succ]
      go_simp
      refine (vb.out w' hch).mono ?_
      intro e w2 hp
      obtain ⟨k1, n1, s1, wv1, rfl, hb2⟩ := hp
      go_simp
      exact hK _ _ (PInv.mk (PW.call3 HI.out hbs hb0 wv1 hb2) (by simp only [put6, List.setIfInBounds_toArray, List.set_cons_zero, List.set_cons_succ]))
    refine Steps.cons rfl (fun bb aa w' hbs hb0 hbp hI K hK => ?_) ?_
    · obtain ⟨u0, u1, u2, u3, u4, u5, rfl, hI⟩ := hI
      have HI := Veil.mk hI
      clear hI
      simp only [put6, List.setIfInBounds_toArray, List.set_cons_zero, List.set_cons_succ]
      go_simp
      exact hK _ _ (PInv.mk (PW.alloc4 HI.out hbs hb0) (by simp only [put6, List.setIfInBounds_toArray, List.set_cons_zero, List.set_cons_succ]))
    refine Steps.cons rfl (fun bb aa w' hbs hb0 hbp hI K hK => ?_) ?_
    · obtain ⟨u0, u1, u2, u3, u4, u5, rfl, hI⟩ := hI
      have HI := Veil.mk hI
      clear hI
      simp only [put6, List.setIfInBounds_toArray, List.set_cons_zero, List.set_cons_succ]
      go_simp
      exact hK _ _ (PInv.mk (PW.alloc5 HI.out hbs hb0) (by simp only [put6, List.setIfInBounds_toArray, List.set_cons_zero, List.set_cons_succ]))
    refine Steps.cons rfl (fun bb aa w' hbs hb0 hbp hI K hK => ?_) ?_
    · obtain ⟨u0, u1, u2, u3, u4, u5, rfl, hI⟩ := hI
      have q1 := after_of 1 (by kernel_rfl) hbp
      have q2 := after_of 4 (by kernel_rfl) hbp
      have hq := PW.at4 hI hbs hb0 q1 q2
      clear hI q1 q2 hbp
      simp only [put6, List.setIfInBounds_toArray, List.set_cons_zero, List.set_cons_succ]
      obtain ⟨g, k, n, s, e1, e2, hx, hJ⟩ := hq
      subst e1
      subst e2
      have x0 : w'.cell? ⟨g, 0, none⟩ = some (.int .i64 0) := hx.at_ 0
      have x1 : w'.cell? ⟨g, 1, none⟩ = some (.int .i64 0) := hx.at_ 1
      have x2 : w'.cell? ⟨g, 2, none⟩ = some (.string ⟨#[]⟩) := hx.at_ 2
      have f0 := hx.free 0
      have f1 := hx.free 1
      have f2 := hx.free 2
      have HJ := Veil.mk hJ
      clear hJ hx
      go_simp
      exact hK _ _ (PInv.mk HJ.out (by simp only [put6, List.setIfInBounds_toArray, List.set_cons_zero, List.set_cons_succ]))
    refine Steps.cons rfl (fun bb aa w' hbs hb0 hbp hI K hK => ?_) ?_
    · obtain ⟨u0, u1, u2, u3, u4, u5, rfl, hI⟩ := hI
      have q1 := after_of 3 (by kernel_rfl) hbp
      have q2 := after_of 5 (by kernel_rfl) hbp
      have hq := PW.at5 hI hbs hb0 q1 q2
      clear hI q1 q2 hbp
      simp only [put6, List.setIfInBounds_toArray, List.set_cons_zero, List.set_cons_succ]
      obtain ⟨g, k, n, s, e1, e2, hx, hJ⟩ := hq
      subst e1
      subst e2
      have x0 : w'.cell? ⟨g, 0, none⟩ = some (.int .i64 0) := hx.at_ 0
      have x1 : w'.cell? ⟨g, 1, none⟩ = some (.int .i64 0) := hx.at_ 1
      have x2 : w'.cell? ⟨g, 2, none⟩ = some (.string ⟨#[]⟩) := hx.at_ 2
      have f0 := hx.free 0
      have f1 := hx.free 1
      have f2 := hx.free 2
      have HJ := Veil.mk hJ
      clear hJ hx
      go_simp
      exact hK _ _ (PInv.mk HJ.out (by simp only [put6, List.setIfInBounds_toArray, List.set_cons_zero, List.set_cons_succ]))
    exact Steps.nil
  intro u0 u2 g5 g6 x y w5 hne hx hy bx by_ hB5 k1 k2
  simp only [put6, List.setIfInBounds_toArray, List.set_cons_zero, List.set_cons_succ]
  have HB5 := Veil.mk (HB1.out.trans (hB5.mono HB1.out.size))
  clear va vb HS HB1 hB5 HL HR N1 N2 HW k1 k2 hne
  have C1 : Veil (∀ wx, Calls Tryd.prog 12 #[.string ⟨#[60]⟩, valV x, valV y] wx fun e w' => e = .returned (.tuple #[valV (stR .lt (sgnT x y)).1, .int .i64 (stR .lt (sgnT x y)).2]) ∧ Below wx.heap.size wx w') := ⟨binary_lt x y hx hy⟩
  have C2 : Veil (∀ wx, Calls Tryd.prog 12 #[.string ⟨#[62]⟩, valV x, valV y] wx fun e w' => e = .returned (.tuple #[valV (stR .gt (sgnT x y)).1, .int .i64 (stR .gt (sgnT x y)).2]) ∧ Below wx.heap.size wx w') := ⟨binary_gt x y hx hy⟩
  have C3 : Veil (∀ wx, Calls Tryd.prog 12 #[.string ⟨#[60, 61]⟩, valV x, valV y] wx fun e w' => e = .returned (.tuple #[valV (stR .le (sgnT x y)).1, .int .i64 (stR .le (sgnT x y)).2]) ∧ Below wx.heap.size wx w') := ⟨binary_le x y hx hy⟩
  have C4 : Veil (∀ wx, Calls Tryd.prog 12 #[.string ⟨#[62, 61]⟩, valV x, valV y] wx fun e w' => e = .returned (.tuple #[valV (stR .ge (sgnT x y)).1, .int .i64 (stR .ge (sgnT x y)).2]) ∧ Below wx.heap.size wx w') := ⟨binary_ge x y hx hy⟩
  have C5 : Veil (∀ wx, Calls Tryd.prog 12 #[.string ⟨#[62]⟩, valV y, valV x] wx fun e w' => e = .returned (.tuple #[valV (stR .gt (sgnT y x)).1, .int .i64 (stR .gt (sgnT y x)).2]) ∧ Below wx.heap.size wx w') := ⟨binary_gt y x hy hx⟩
  have OW := Veil.mk (order_ways x y)
  obtain ⟨r1, h1⟩ : ∃ r, r = stR .lt (sgnT x y) := ⟨_, rfl⟩
  obtain ⟨r2, h2⟩ : ∃ r, r = stR .gt (sgnT x y) := ⟨_, rfl⟩
  obtain ⟨r3, h3⟩ : ∃ r, r = stR .le (sgnT x y) := ⟨_, rfl⟩
  obtain ⟨r4, h4⟩ : ∃ r, r = stR .ge (sgnT x y) := ⟨_, rfl⟩
  obtain ⟨r5, h5⟩ : ∃ r, r = stR .gt (sgnT y x) := ⟨_, rfl⟩
  rw [← h1] at C1 OW
  rw [← h2] at C2 OW
  rw [← h3] at C3 OW
  rw [← h4] at C4 OW
  rw [← h5] at C5 OW
  clear h1 h2 h3 h4 h5 hx hy
  obtain ⟨⟨a1, b1, c1⟩, t1⟩ := r1
  obtain ⟨⟨a2, b2, c2⟩, t2⟩ := r2
  obtain ⟨⟨a3, b3, c3⟩, t3⟩ := r3
  obtain ⟨⟨a4, b4, c4⟩, t4⟩ := r4
  obtain ⟨⟨a5, b5, c5⟩, t5⟩ := r5
  obtain ⟨xk, xn, xs⟩ := x
  obtain ⟨yk, yn, ys⟩ := y
  simp only at bx by_ C1 C2 C3 C4 C5 OW
  have BX := Veil.mk bx
  have BY := Veil.mk by_
  clear bx by_
  have p0 : w5.cell? ⟨g5, 0, none⟩ = some (.int .i64 xk) := BX.out.at_ 0
  have p1 : w5.cell? ⟨g5, 1, none⟩ = some (.int .i64 xn) := BX.out.at_ 1
  have p2 : w5.cell? ⟨g5, 2, none⟩ = some (.string xs) := BX.out.at_ 2
  have q0 : w5.cell? ⟨g6, 0, none⟩ = some (.int .i64 yk) := BY.out.at_ 0
  have q1 : w5.cell? ⟨g6, 1, none⟩ = some (.int .i64 yn) := BY.out.at_ 1
  have q2 : w5.cell? ⟨g6, 2, none⟩ = some (.string ys) := BY.out.at_ 2
  go_upto_region 6 with (fail)
  go_cut [7, 8] (fun sa sb wx => ∃ g : Nat, sa = .pointer (some ⟨g, 0, none⟩) ∧ sb = .int .i64 t1 ∧ Box wx g 27 #[.int .i64 a1, .int .i64 b1, .string c1] ∧ Below w5.heap.size w5 wx)
  case first =>
    go_wp2_with (first | (go_at_call 12; ((with_reducible refine (C1.out _).mono ?_); rintro e w2 ⟨rfl, hb2⟩)))
    go_meet
    exact ⟨w2.heap.size, rfl, rfl, Box.new _ _ _, hb2.alloc hb2.size _⟩
  case rest =>
  obtain ⟨g7, rfl, rfl, bq, hb⟩ := hcut
  obtain ⟨w6, hw⟩ : ∃ v, v = wc := ⟨_, rfl⟩
  rw [← hw] at bq hb ⊢
  clear hw
  replace BX := Veil.mk (BX.out.on hb BX.out.lt)
  replace BY := Veil.mk (BY.out.on hb BY.out.lt)
  have Q7 := Veil.mk bq
  have HB6 := Veil.mk (HB5.out.trans (hb.mono HB5.out.size))
  clear bq hb HB5 C1 p0 p1 p2 q0 q1 q2
  have p0 : w6.cell? ⟨g5, 0, none⟩ = some (.int .i64 xk) := BX.out.at_ 0
  have p1 : w6.cell? ⟨g5, 1, none⟩ = some (.int .i64 xn) := BX.out.at_ 1
  have p2 : w6.cell? ⟨g5, 2, none⟩ = some (.string xs) := BX.out.at_ 2
  have q0 : w6.cell? ⟨g6, 0, none⟩ = some (.int .i64 yk) := BY.out.at_ 0
  have q1 : w6.cell? ⟨g6, 1, none⟩ = some (.int .i64 yn) := BY.out.at_ 1
  have q2 : w6.cell? ⟨g6, 2, none⟩ = some (.string ys) := BY.out.at_ 2
  go_upto_region 7 with (fail)
  go_cut [9, 10] (fun sa sb wx => ∃ g : Nat, sa = .pointer (some ⟨g, 0, none⟩) ∧ sb = .int .i64 t2 ∧ Box wx g 27 #[.int .i64 a2, .int .i64 b2, .string c2] ∧ Below w6.heap.size w6 wx)
  case first =>
    go_wp2_with (first | (go_at_call 12; ((with_reducible refine (C2.out _).mono ?_); rintro e w2 ⟨rfl, hb2⟩)))
    go_meet
    exact ⟨w2.heap.size, rfl, rfl, Box.new _ _ _, hb2.alloc hb2.size _⟩
  case rest =>
  obtain ⟨g9, rfl, rfl, bq, hb⟩ := hcut
  obtain ⟨w7, hw⟩ : ∃ v, v = wc := ⟨_, rfl⟩
  rw [← hw] at bq hb ⊢
  clear hw
  replace BX := Veil.mk (BX.out.on hb BX.out.lt)
  replace BY := Veil.mk (BY.out.on hb BY.out.lt)
  replace Q7 := Veil.mk (Q7.out.on hb Q7.out.lt)
  have Q9 := Veil.mk bq
  have HB7 := Veil.mk (HB6.out.trans (hb.mono HB6.out.size))
  clear bq hb HB6 C2 p0 p1 p2 q0 q1 q2
  have p0 : w7.cell? ⟨g5, 0, none⟩ = some (.int .i64 xk) := BX.out.at_ 0
  have p1 : w7.cell? ⟨g5, 1, none⟩ = some (.int .i64 xn) := BX.out.at_ 1
  have p2 : w7.cell? ⟨g5, 2, none⟩ = some (.string xs) := BX.out.at_ 2
  have q0 : w7.cell? ⟨g6, 0, none⟩ = some (.int .i64 yk) := BY.out.at_ 0
  have q1 : w7.cell? ⟨g6, 1, none⟩ = some (.int .i64 yn) := BY.out.at_ 1
  have q2 : w7.cell? ⟨g6, 2, none⟩ = some (.string ys) := BY.out.at_ 2
  go_upto_region 8 with (fail)
  go_cut [11, 12] (fun sa sb wx => ∃ g : Nat, sa = .pointer (some ⟨g, 0, none⟩) ∧ sb = .int .i64 t3 ∧ Box wx g 27 #[.int .i64 a3, .int .i64 b3, .string c3] ∧ Below w7.heap.size w7 wx)
  case first =>
    go_wp2_with (first | (go_at_call 12; ((with_reducible refine (C3.out _).mono ?_); rintro e w2 ⟨rfl, hb2⟩)))
    go_meet
    exact ⟨w2.heap.size, rfl, rfl, Box.new _ _ _, hb2.alloc hb2.size _⟩
  case rest =>
  obtain ⟨g11, rfl, rfl, bq, hb⟩ := hcut
  obtain ⟨w8, hw⟩ : ∃ v, v = wc := ⟨_, rfl⟩
  rw [← hw] at bq hb ⊢
  clear hw
  replace BX := Veil.mk (BX.out.on hb BX.out.lt)
  replace BY := Veil.mk (BY.out.on hb BY.out.lt)
  replace Q7 := Veil.mk (Q7.out.on hb Q7.out.lt)
  replace Q9 := Veil.mk (Q9.out.on hb Q9.out.lt)
  have Q11 := Veil.mk bq
  have HB8 := Veil.mk (HB7.out.trans (hb.mono HB7.out.size))
  clear bq hb HB7 C3 p0 p1 p2 q0 q1 q2
  have p0 : w8.cell? ⟨g5, 0, none⟩ = some (.int .i64 xk) := BX.out.at_ 0
  have p1 : w8.cell? ⟨g5, 1, none⟩ = some (.int .i64 xn) := BX.out.at_ 1
  have p2 : w8.cell? ⟨g5, 2, none⟩ = some (.string xs) := BX.out.at_ 2
  have q0 : w8.cell? ⟨g6, 0, none⟩ = some (.int .i64 yk) := BY.out.at_ 0
  have q1 : w8.cell? ⟨g6, 1, none⟩ = some (.int .i64 yn) := BY.out.at_ 1
  have q2 : w8.cell? ⟨g6, 2, none⟩ = some (.string ys) := BY.out.at_ 2
  go_upto_region 9 with (fail)
  go_cut [13, 14] (fun sa sb wx => ∃ g : Nat, sa = .pointer (some ⟨g, 0, none⟩) ∧ sb = .int .i64 t4 ∧ Box wx g 27 #[.int .i64 a4, .int .i64 b4, .string c4] ∧ Below w8.heap.size w8 wx)
  case first =>
    go_wp2_with (first | (go_at_call 12; ((with_reducible refine (C4.out _).mono ?_); rintro e w2 ⟨rfl, hb2⟩)))
    go_meet
    exact ⟨w2.heap.size, rfl, rfl, Box.new _ _ _, hb2.alloc hb2.size _⟩
  case rest =>
  obtain ⟨g13, rfl, rfl, bq, hb⟩ := hcut
  obtain ⟨w9, hw⟩ : ∃ v, v = wc := ⟨_, rfl⟩
  rw [← hw] at bq hb ⊢
  clear hw
  replace BX := Veil.mk (BX.out.on hb BX.out.lt)
  replace BY := Veil.mk (BY.out.on hb BY.out.lt)
  replace Q7 := Veil.mk (Q7.out.on hb Q7.out.lt)
  replace Q9 := Veil.mk (Q9.out.on hb Q9.out.lt)
  replace Q11 := Veil.mk (Q11.out.on hb Q11.out.lt)
  have Q13 := Veil.mk bq
  have HB9 := Veil.mk (HB8.out.trans (hb.mono HB8.out.size))
  clear bq hb HB8 C4 p0 p1 p2 q0 q1 q2
  have p0 : w9.cell? ⟨g5, 0, none⟩ = some (.int .i64 xk) := BX.out.at_ 0
  have p1 : w9.cell? ⟨g5, 1, none⟩ = some (.int .i64 xn) := BX.out.at_ 1
  have p2 : w9.cell? ⟨g5, 2, none⟩ = some (.string xs) := BX.out.at_ 2
  have q0 : w9.cell? ⟨g6, 0, none⟩ = some (.int .i64 yk) := BY.out.at_ 0
  have q1 : w9.cell? ⟨g6, 1, none⟩ = some (.int .i64 yn) := BY.out.at_ 1
  have q2 : w9.cell? ⟨g6, 2, none⟩ = some (.string ys) := BY.out.at_ 2
  go_upto_region 10 with (fail)
  go_cut [15, 16] (fun sa sb wx => ∃ g : Nat, sa = .pointer (some ⟨g, 0, none⟩) ∧ sb = .int .i64 t5 ∧ Box wx g 27 #[.int .i64 a5, .int .i64 b5, .string c5] ∧ Below w9.heap.size w9 wx)
  case first =>
    go_wp2_with (first | (go_at_call 12; ((with_reducible refine (C5.out _).mono ?_); rintro e w2 ⟨rfl, hb2⟩)))
    go_meet
    exact ⟨w2.heap.size, rfl, rfl, Box.new _ _ _, hb2.alloc hb2.size _⟩
  case rest =>
  obtain ⟨g15, rfl, rfl, bq, hb⟩ := hcut
  obtain ⟨w10, hw⟩ : ∃ v, v = wc := ⟨_, rfl⟩
  rw [← hw] at bq hb ⊢
  clear hw
  replace BX := Veil.mk (BX.out.on hb BX.out.lt)
  replace BY := Veil.mk (BY.out.on hb BY.out.lt)
  replace Q7 := Veil.mk (Q7.out.on hb Q7.out.lt)
  replace Q9 := Veil.mk (Q9.out.on hb Q9.out.lt)
  replace Q11 := Veil.mk (Q11.out.on hb Q11.out.lt)
  replace Q13 := Veil.mk (Q13.out.on hb Q13.out.lt)
  have Q15 := Veil.mk bq
  have HB10 := Veil.mk (HB9.out.trans (hb.mono HB9.out.size))
  clear bq hb HB9 C5 p0 p1 p2 q0 q1 q2
  clear BX BY
  rcases OW.out with ⟨e, i, he, hi, h1, h2, h3, h4, h5⟩ | h
  · simp only [Prod.mk.injEq] at h1 h2 h3 h4 h5
    obtain ⟨⟨rfl, rfl, rfl⟩, rfl⟩ := h1
    obtain ⟨⟨rfl, rfl, rfl⟩, rfl⟩ := h2
    obtain ⟨⟨rfl, rfl, rfl⟩, rfl⟩ := h3
    obtain ⟨⟨rfl, rfl, rfl⟩, rfl⟩ := h4
    obtain ⟨⟨rfl, rfl, rfl⟩, rfl⟩ := h5
    have he1 : (t4 == 0) = false := by simpa using he
    have he2 : (t4 != 0) = true := by simpa using he
    have hi1 : (t5 == 0) = false := by simpa using hi
    clear OW he hi Q7 Q9 Q11 Q13 Q15
    go_wp2_with fail
    go_ret
    exact ⟨rfl, HB10.out⟩
  rcases h with ⟨h1, h2, h3, h4, h5⟩ | ⟨h1, h2, h3, h4, h5⟩ | ⟨h1, h2, h3, h4, h5⟩ | ⟨h1, h2, h3, h4, h5⟩
  · simp only [Prod.mk.injEq] at h1 h2 h3 h4 h5
    obtain ⟨⟨rfl, rfl, rfl⟩, rfl⟩ := h1
    obtain ⟨⟨rfl, rfl, rfl⟩, rfl⟩ := h2
    obtain ⟨⟨rfl, rfl, rfl⟩, rfl⟩ := h3
    obtain ⟨⟨rfl, rfl, rfl⟩, rfl⟩ := h4
    obtain ⟨⟨rfl, rfl, rfl⟩, rfl⟩ := h5
    clear OW
    have hbI := Below.refl w10.heap.size w10
    have d0 : w10.cell? ⟨g7, 0, none⟩ = some (.int .i64 2) := Q7.out.at_ 0
    have d1 : w10.cell? ⟨g7, 1, none⟩ = some (.int .i64 1) := Q7.out.at_ 1
    have d2 : w10.cell? ⟨g7, 2, none⟩ = some (.string W.e0) := Q7.out.at_ 2
    have f0 : w10.cell? ⟨g9, 0, none⟩ = some (.int .i64 2) := Q9.out.at_ 0
    have f1 : w10.cell? ⟨g9, 1, none⟩ = some (.int .i64 0) := Q9.out.at_ 1
    have f2 : w10.cell? ⟨g9, 2, none⟩ = some (.string W.e0) := Q9.out.at_ 2
    have i0 : w10.cell? ⟨g11, 0, none⟩ = some (.int .i64 2) := Q11.out.at_ 0
    have i1 : w10.cell? ⟨g11, 1, none⟩ = some (.int .i64 1) := Q11.out.at_ 1
    have i2 : w10.cell? ⟨g11, 2, none⟩ = some (.string W.e0) := Q11.out.at_ 2
    have j0 : w10.cell? ⟨g13, 0, none⟩ = some (.int .i64 2) := Q13.out.at_ 0
    have j1 : w10.cell? ⟨g13, 1, none⟩ = some (.int .i64 0) := Q13.out.at_ 1
    have j2 : w10.cell? ⟨g13, 2, none⟩ = some (.string W.e0) := Q13.out.at_ 2
    have m0 : w10.cell? ⟨g15, 0, none⟩ = some (.int .i64 2) := Q15.out.at_ 0
    have m1 : w10.cell? ⟨g15, 1, none⟩ = some (.int .i64 1) := Q15.out.at_ 1
    have m2 : w10.cell? ⟨g15, 2, none⟩ = some (.string W.e0) := Q15.out.at_ 2
    go_upto_region 18 with (first | (go_at_call 26; first | ((with_reducible refine (true1 _).mono ?_); rintro e w' ⟨rfl, hbN⟩; replace hbI := hbI.trans (hbN.mono hbI.size); clear hbN; have f0 : w'.cell? ⟨g9, 0, none⟩ = some (.int .i64 2) := (Q9.out.on hbI Q9.out.lt).at_ 0; have f1 : w'.cell? ⟨g9, 1, none⟩ = some (.int .i64 0) := (Q9.out.on hbI Q9.out.lt).at_ 1; have f2 : w'.cell? ⟨g9, 2, none⟩ = some (.string W.e0) := (Q9.out.on hbI Q9.out.lt).at_ 2; have i0 : w'.cell? ⟨g11, 0, none⟩ = some (.int .i64 2) := (Q11.out.on hbI Q11.out.lt).at_ 0; have i1 : w'.cell? ⟨g11, 1, none⟩ = some (.int .i64 1) := (Q11.out.on hbI Q11.out.lt).at_ 1; have i2 : w'.cell? ⟨g11, 2, none⟩ = some (.string W.e0) := (Q11.out.on hbI Q11.out.lt).at_ 2; have j0 : w'.cell? ⟨g13, 0, none⟩ = some (.int .i64 2) := (Q13.out.on hbI Q13.out.lt).at_ 0; have j1 : w'.cell? ⟨g13, 1, none⟩ = some (.int .i64 0) := (Q13.out.on hbI Q13.out.lt).at_ 1; have j2 : w'.cell? ⟨g13, 2, none⟩ = some (.string W.e0) := (Q13.out.on hbI Q13.out.lt).at_ 2) | ((with_reducible refine (true0 _).mono ?_); rintro e w' ⟨rfl, hbN⟩; replace hbI := hbI.trans (hbN.mono hbI.size); clear hbN; have f0 : w'.cell? ⟨g9, 0, none⟩ = some (.int .i64 2) := (Q9.out.on hbI Q9.out.lt).at_ 0; have f1 : w'.cell? ⟨g9, 1, none⟩ = some (.int .i64 0) := (Q9.out.on hbI Q9.out.lt).at_ 1; have f2 : w'.cell? ⟨g9, 2, none⟩ = some (.string W.e0) := (Q9.out.on hbI Q9.out.lt).at_ 2; have i0 : w'.cell? ⟨g11, 0, none⟩ = some (.int .i64 2) := (Q11.out.on hbI Q11.out.lt).at_ 0; have i1 : w'.cell? ⟨g11, 1, none⟩ = some (.int .i64 1) := (Q11.out.on hbI Q11.out.lt).at_ 1; have i2 : w'.cell? ⟨g11, 2, none⟩ = some (.string W.e0) := (Q11.out.on hbI Q11.out.lt).at_ 2; have j0 : w'.cell? ⟨g13, 0, none⟩ = some (.int .i64 2) := (Q13.out.on hbI Q13.out.lt).at_ 0; have j1 : w'.cell? ⟨g13, 1, none⟩ = some (.int .i64 0) := (Q13.out.on hbI Q13.out.lt).at_ 1; have j2 : w'.cell? ⟨g13, 2, none⟩ = some (.string W.e0) := (Q13.out.on hbI Q13.out.lt).at_ 2)))
    have y7 := (Q7.out.on hbI Q7.out.lt).atV
    have y9 := (Q9.out.on hbI Q9.out.lt).atV
    have y11 := (Q11.out.on hbI Q11.out.lt).atV
    have y13 := (Q13.out.on hbI Q13.out.lt).atV
    clear Q7 Q9 Q11 Q13 Q15 d0 d1 d2 f0 f1 f2 i0 i1 i2 j0 j1 j2 m0 m1 m2
    refine W.wp_region_fresh (by kernel_rfl) (by kernel_rfl) ?_
    repeat (first | go_big_quiet_skip | (go_big_quiet_want; (first | (go_big_quiet_op; go_big_quiet_on) | (apply W.quiet_load27; exact rfl; exact rfl; (intro wq hw9; first | with_reducible exact W.AtV.later y7 hw9 | with_reducible exact W.AtV.later y9 hw9 | with_reducible exact W.AtV.later y11 hw9 | with_reducible exact W.AtV.later y13 hw9); simp only [Act.put, List.setIfInBounds_toArray, List.set_cons_zero, List.set_cons_succ]; go_big_quiet_on) | (refine W.quiet_call1 (f := 26) (u := W.V 2 1 W.e0) (v := .bool true) rfl rfl (run_True _) ?_ ?_; (intro wq hw9; exact (true1 wq).mono (fun _ _ hh => ⟨hh.1, W.blw2 hw9 hh.2⟩)); simp only [Act.put, List.setIfInBounds_toArray, List.set_cons_zero, List.set_cons_succ]; go_big_quiet_on) | (refine W.quiet_call1 (f := 26) (u := W.V 2 0 W.e0) (v := .bool false) rfl rfl (run_True _) ?_ ?_; (intro wq hw9; exact (true0 wq).mono (fun _ _ hh => ⟨hh.1, W.blw2 hw9 hh.2⟩)); simp only [Act.put, List.setIfInBounds_toArray, List.set_cons_zero, List.set_cons_succ]; go_big_quiet_on) | (apply W.quiet_pure; (intro wq; go_simp; exact rfl); simp only [Act.put, List.setIfInBounds_toArray, List.set_cons_zero, List.set_cons_succ]; go_big_quiet_on))))
    refine wpQuiet_nil ?_
    intro w9 hb9
    go_wp2_with fail
    go_ret
    exact ⟨rfl, (HB10.out.trans (hbI.mono HB10.out.size)).trans (hb9.mono (HB10.out.trans (hbI.mono HB10.out.size)).size)⟩
  · simp only [Prod.mk.injEq] at h1 h2 h3 h4 h5
    obtain ⟨⟨rfl, rfl, rfl⟩, rfl⟩ := h1
    obtain ⟨⟨rfl, rfl, rfl⟩, rfl⟩ := h2
    obtain ⟨⟨rfl, rfl, rfl⟩, rfl⟩ := h3
    obtain ⟨⟨rfl, rfl, rfl⟩, rfl⟩ := h4
    obtain ⟨⟨rfl, rfl, rfl⟩, rfl⟩ := h5
    clear OW
    have hbI := Below.refl w10.heap.size w10
    have d0 : w10.cell? ⟨g7, 0, none⟩ = some (.int .i64 2) := Q7.out.at_ 0
    have d1 : w10.cell? ⟨g7, 1, none⟩ = some (.int .i64 0) := Q7.out.at_ 1
    have d2 : w10.cell? ⟨g7, 2, none⟩ = some (.string W.e0) := Q7.out.at_ 2
    have f0 : w10.cell? ⟨g9, 0, none⟩ = some (.int .i64 2) := Q9.out.at_ 0
    have f1 : w10.cell? ⟨g9, 1, none⟩ = some (.int .i64 0) := Q9.out.at_ 1
    have f2 : w10.cell? ⟨g9, 2, none⟩ = some (.string W.e0) := Q9.out.at_ 2
    have i0 : w10.cell? ⟨g11, 0, none⟩ = some (.int .i64 2) := Q11.out.at_ 0
    have i1 : w10.cell? ⟨g11, 1, none⟩ = some (.int .i64 1) := Q11.out.at_ 1
    have i2 : w10.cell? ⟨g11, 2, none⟩ = some (.string W.e0) := Q11.out.at_ 2
    have j0 : w10.cell? ⟨g13, 0, none⟩ = some (.int .i64 2) := Q13.out.at_ 0
    have j1 : w10.cell? ⟨g13, 1, none⟩ = some (.int .i64 1) := Q13.out.at_ 1
    have j2 : w10.cell? ⟨g13, 2, none⟩ = some (.string W.e0) := Q13.out.at_ 2
    have m0 : w10.cell? ⟨g15, 0, none⟩ = some (.int .i64 2) := Q15.out.at_ 0
    have m1 : w10.cell? ⟨g15, 1, none⟩ = some (.int .i64 0) := Q15.out.at_ 1
    have m2 : w10.cell? ⟨g15, 2, none⟩ = some (.string W.e0) := Q15.out.at_ 2
    go_upto_region 18 with (first | (go_at_call 26; first | ((with_reducible refine (true1 _).mono ?_); rintro e w' ⟨rfl, hbN⟩; replace hbI := hbI.trans (hbN.mono hbI.size); clear hbN; have f0 : w'.cell? ⟨g9, 0, none⟩ = some (.int .i64 2) := (Q9.out.on hbI Q9.out.lt).at_ 0; have f1 : w'.cell? ⟨g9, 1, none⟩ = some (.int .i64 0) := (Q9.out.on hbI Q9.out.lt).at_ 1; have f2 : w'.cell? ⟨g9, 2, none⟩ = some (.string W.e0) := (Q9.out.on hbI Q9.out.lt).at_ 2; have i0 : w'.cell? ⟨g11, 0, none⟩ = some (.int .i64 2) := (Q11.out.on hbI Q11.out.lt).at_ 0; have i1 : w'.cell? ⟨g11, 1, none⟩ = some (.int .i64 1) := (Q11.out.on hbI Q11.out.lt).at_ 1; have i2 : w'.cell? ⟨g11, 2, none⟩ = some (.string W.e0) := (Q11.out.on hbI Q11.out.lt).at_ 2; have j0 : w'.cell? ⟨g13, 0, none⟩ = some (.int .i64 2) := (Q13.out.on hbI Q13.out.lt).at_ 0; have j1 : w'.cell? ⟨g13, 1, none⟩ = some (.int .i64 1) := (Q13.out.on hbI Q13.out.lt).at_ 1; have j2 : w'.cell? ⟨g13, 2, none⟩ = some (.string W.e0) := (Q13.out.on hbI Q13.out.lt).at_ 2) | ((with_reducible refine (true0 _).mono ?_); rintro e w' ⟨rfl, hbN⟩; replace hbI := hbI.trans (hbN.mono hbI.size); clear hbN; have f0 : w'.cell? ⟨g9, 0, none⟩ = some (.int .i64 2) := (Q9.out.on hbI Q9.out.lt).at_ 0; have f1 : w'.cell? ⟨g9, 1, none⟩ = some (.int .i64 0) := (Q9.out.on hbI Q9.out.lt).at_ 1; have f2 : w'.cell? ⟨g9, 2, none⟩ = some (.string W.e0) := (Q9.out.on hbI Q9.out.lt).at_ 2; have i0 : w'.cell? ⟨g11, 0, none⟩ = some (.int .i64 2) := (Q11.out.on hbI Q11.out.lt).at_ 0; have i1 : w'.cell? ⟨g11, 1, none⟩ = some (.int .i64 1) := (Q11.out.on hbI Q11.out.lt).at_ 1; have i2 : w'.cell? ⟨g11, 2, none⟩ = some (.string W.e0) := (Q11.out.on hbI Q11.out.lt).at_ 2; have j0 : w'.cell? ⟨g13, 0, none⟩ = some (.int .i64 2) := (Q13.out.on hbI Q13.out.lt).at_ 0; have j1 : w'.cell? ⟨g13, 1, none⟩ = some (.int .i64 1) := (Q13.out.on hbI Q13.out.lt).at_ 1; have j2 : w'.cell? ⟨g13, 2, none⟩ = some (.string W.e0) := (Q13.out.on hbI Q13.out.lt).at_ 2)))
    have y7 := (Q7.out.on hbI Q7.out.lt).atV
    have y9 := (Q9.out.on hbI Q9.out.lt).atV
    have y11 := (Q11.out.on hbI Q11.out.lt).atV
    have y13 := (Q13.out.on hbI Q13.out.lt).atV
    clear Q7 Q9 Q11 Q13 Q15 d0 d1 d2 f0 f1 f2 i0 i1 i2 j0 j1 j2 m0 m1 m2
    refine W.wp_region_fresh (by kernel_rfl) (by kernel_rfl) ?_
    repeat (first | go_big_quiet_skip | (go_big_quiet_want; (first | (go_big_quiet_op; go_big_quiet_on) | (apply W.quiet_load27; exact rfl; exact rfl; (intro wq hw9; first | with_reducible exact W.AtV.later y7 hw9 | with_reducible exact W.AtV.later y9 hw9 | with_reducible exact W.AtV.later y11 hw9 | with_reducible exact W.AtV.later y13 hw9); simp only [Act.put, List.setIfInBounds_toArray, List.set_cons_zero, List.set_cons_succ]; go_big_quiet_on) | (refine W.quiet_call1 (f := 26) (u := W.V 2 1 W.e0) (v := .bool true) rfl rfl (run_True _) ?_ ?_; (intro wq hw9; exact (true1 wq).mono (fun _ _ hh => ⟨hh.1, W.blw2 hw9 hh.2⟩)); simp only [Act.put, List.setIfInBounds_toArray, List.set_cons_zero, List.set_cons_succ]; go_big_quiet_on) | (refine W.quiet_call1 (f := 26) (u := W.V 2 0 W.e0) (v := .bool false) rfl rfl (run_True _) ?_ ?_; (intro wq hw9; exact (true0 wq).mono (fun _ _ hh => ⟨hh.1, W.blw2 hw9 hh.2⟩)); simp only [Act.put, List.setIfInBounds_toArray, List.set_cons_zero, List.set_cons_succ]; go_big_quiet_on) | (apply W.quiet_pure; (intro wq; go_simp; exact rfl); simp only [Act.put, List.setIfInBounds_toArray, List.set_cons_zero, List.set_cons_succ]; go_big_quiet_on))))
    refine wpQuiet_nil ?_
    intro w9 hb9
    go_wp2_with fail
    go_ret
    exact ⟨rfl, (HB10.out.trans (hbI.mono HB10.out.size)).trans (hb9.mono (HB10.out.trans (hbI.mono HB10.out.size)).size)⟩
  · simp only [Prod.mk.injEq] at h1 h2 h3 h4 h5
    obtain ⟨⟨rfl, rfl, rfl⟩, rfl⟩ := h1
    obtain ⟨⟨rfl, rfl, rfl⟩, rfl⟩ := h2
    obtain ⟨⟨rfl, rfl, rfl⟩, rfl⟩ := h3
    obtain ⟨⟨rfl, rfl, rfl⟩, rfl⟩ := h4
    obtain ⟨⟨rfl, rfl, rfl⟩, rfl⟩ := h5
    clear OW
    have hbI := Below.refl w10.heap.size w10
    have d0 : w10.cell? ⟨g7, 0, none⟩ = some (.int .i64 2) := Q7.out.at_ 0
    have d1 : w10.cell? ⟨g7, 1, none⟩ = some (.int .i64 0) := Q7.out.at_ 1
    have d2 : w10.cell? ⟨g7, 2, none⟩ = some (.string W.e0) := Q7.out.at_ 2
    have f0 : w10.cell? ⟨g9, 0, none⟩ = some (.int .i64 2) := Q9.out.at_ 0
    have f1 : w10.cell? ⟨g9, 1, none⟩ = some (.int .i64 1) := Q9.out.at_ 1
    have f2 : w10.cell? ⟨g9, 2, none⟩ = some (.string W.e0) := Q9.out.at_ 2
    have i0 : w10.cell? ⟨g11, 0, none⟩ = some (.int .i64 2) := Q11.out.at_ 0
    have i1 : w10.cell? ⟨g11, 1, none⟩ = some (.int .i64 0) := Q11.out.at_ 1
    have i2 : w10.cell? ⟨g11, 2, none⟩ = some (.string W.e0) := Q11.out.at_ 2
    have j0 : w10.cell? ⟨g13, 0, none⟩ = some (.int .i64 2) := Q13.out.at_ 0
    have j1 : w10.cell? ⟨g13, 1, none⟩ = some (.int .i64 1) := Q13.out.at_ 1
    have j2 : w10.cell? ⟨g13, 2, none⟩ = some (.string W.e0) := Q13.out.at_ 2
    have m0 : w10.cell? ⟨g15, 0, none⟩ = some (.int .i64 2) := Q15.out.at_ 0
    have m1 : w10.cell? ⟨g15, 1, none⟩ = some (.int .i64 0) := Q15.out.at_ 1
    have m2 : w10.cell? ⟨g15, 2, none⟩ = some (.string W.e0) := Q15.out.at_ 2
    go_upto_region 18 with (first | (go_at_call 26; first | ((with_reducible refine (true1 _).mono ?_); rintro e w' ⟨rfl, hbN⟩; replace hbI := hbI.trans (hbN.mono hbI.size); clear hbN; have f0 : w'.cell? ⟨g9, 0, none⟩ = some (.int .i64 2) := (Q9.out.on hbI Q9.out.lt).at_ 0; have f1 : w'.cell? ⟨g9, 1, none⟩ = some (.int .i64 1) := (Q9.out.on hbI Q9.out.lt).at_ 1; have f2 : w'.cell? ⟨g9, 2, none⟩ = some (.string W.e0) := (Q9.out.on hbI Q9.out.lt).at_ 2; have i0 : w'.cell? ⟨g11, 0, none⟩ = some (.int .i64 2) := (Q11.out.on hbI Q11.out.lt).at_ 0; have i1 : w'.cell? ⟨g11, 1, none⟩ = some (.int .i64 0) := (Q11.out.on hbI Q11.out.lt).at_ 1; have i2 : w'.cell? ⟨g11, 2, none⟩ = some (.string W.e0) := (Q11.out.on hbI Q11.out.lt).at_ 2; have j0 : w'.cell? ⟨g13, 0, none⟩ = some (.int .i64 2) := (Q13.out.on hbI Q13.out.lt).at_ 0; have j1 : w'.cell? ⟨g13, 1, none⟩ = some (.int .i64 1) := (Q13.out.on hbI Q13.out.lt).at_ 1; have j2 : w'.cell? ⟨g13, 2, none⟩ = some (.string W.e0) := (Q13.out.on hbI Q13.out.lt).at_ 2) | ((with_reducible refine (true0 _).mono ?_); rintro e w' ⟨rfl, hbN⟩; replace hbI := hbI.trans (hbN.mono hbI.size); clear hbN; have f0 : w'.cell? ⟨g9, 0, none⟩ = some (.int .i64 2) := (Q9.out.on hbI Q9.out.lt).at_ 0; have f1 : w'.cell? ⟨g9, 1, none⟩ = some (.int .i64 1) := (Q9.out.on hbI Q9.out.lt).at_ 1; have f2 : w'.cell? ⟨g9, 2, none⟩ = some (.string W.e0) := (Q9.out.on hbI Q9.out.lt).at_ 2; have i0 : w'.cell? ⟨g11, 0, none⟩ = some (.int .i64 2) := (Q11.out.on hbI Q11.out.lt).at_ 0; have i1 : w'.cell? ⟨g11, 1, none⟩ = some (.int .i64 0) := (Q11.out.on hbI Q11.out.lt).at_ 1; have i2 : w'.cell? ⟨g11, 2, none⟩ = some (.string W.e0) := (Q11.out.on hbI Q11.out.lt).at_ 2; have j0 : w'.cell? ⟨g13, 0, none⟩ = some (.int .i64 2) := (Q13.out.on hbI Q13.out.lt).at_ 0; have j1 : w'.cell? ⟨g13, 1, none⟩ = some (.int .i64 1) := (Q13.out.on hbI Q13.out.lt).at_ 1; have j2 : w'.cell? ⟨g13, 2, none⟩ = some (.string W.e0) := (Q13.out.on hbI Q13.out.lt).at_ 2)))
    have y7 := (Q7.out.on hbI Q7.out.lt).atV
    have y9 := (Q9.out.on hbI Q9.out.lt).atV
    have y11 := (Q11.out.on hbI Q11.out.lt).atV
    have y13 := (Q13.out.on hbI Q13.out.lt).atV
    clear Q7 Q9 Q11 Q13 Q15 d0 d1 d2 f0 f1 f2 i0 i1 i2 j0 j1 j2 m0 m1 m2
    refine W.wp_region_fresh (by kernel_rfl) (by kernel_rfl) ?_
    repeat (first | go_big_quiet_skip | (go_big_quiet_want; (first | (go_big_quiet_op; go_big_quiet_on) | (apply W.quiet_load27; exact rfl; exact rfl; (intro wq hw9; first | with_reducible exact W.AtV.later y7 hw9 | with_reducible exact W.AtV.later y9 hw9 | with_reducible exact W.AtV.later y11 hw9 | with_reducible exact W.AtV.later y13 hw9); simp only [Act.put, List.setIfInBounds_toArray, List.set_cons_zero, List.set_cons_succ]; go_big_quiet_on) | (refine W.quiet_call1 (f := 26) (u := W.V 2 1 W.e0) (v := .bool true) rfl rfl (run_True _) ?_ ?_; (intro wq hw9; exact (true1 wq).mono (fun _ _ hh => ⟨hh.1, W.blw2 hw9 hh.2⟩)); simp only [Act.put, List.setIfInBounds_toArray, List.set_cons_zero, List.set_cons_succ]; go_big_quiet_on) | (refine W.quiet_call1 (f := 26) (u := W.V 2 0 W.e0) (v := .bool false) rfl rfl (run_True _) ?_ ?_; (intro wq hw9; exact (true0 wq).mono (fun _ _ hh => ⟨hh.1, W.blw2 hw9 hh.2⟩)); simp only [Act.put, List.setIfInBounds_toArray, List.set_cons_zero, List.set_cons_succ]; go_big_quiet_on) | (apply W.quiet_pure; (intro wq; go_simp; exact rfl); simp only [Act.put, List.setIfInBounds_toArray, List.set_cons_zero, List.set_cons_succ]; go_big_quiet_on))))
    refine wpQuiet_nil ?_
    intro w9 hb9
    go_wp2_with fail
    go_ret
    exact ⟨rfl, (HB10.out.trans (hbI.mono HB10.out.size)).trans (hb9.mono (HB10.out.trans (hbI.mono HB10.out.size)).size)⟩
  · simp only [Prod.mk.injEq] at h1 h2 h3 h4 h5
    obtain ⟨⟨rfl, rfl, rfl⟩, rfl⟩ := h1
    obtain ⟨⟨rfl, rfl, rfl⟩, rfl⟩ := h2
    obtain ⟨⟨rfl, rfl, rfl⟩, rfl⟩ := h3
    obtain ⟨⟨rfl, rfl, rfl⟩, rfl⟩ := h4
    obtain ⟨⟨rfl, rfl, rfl⟩, rfl⟩ := h5
    clear OW
    have hbI := Below.refl w10.heap.size w10
    have d0 : w10.cell? ⟨g7, 0, none⟩ = some (.int .i64 2) := Q7.out.at_ 0
    have d1 : w10.cell? ⟨g7, 1, none⟩ = some (.int .i64 0) := Q7.out.at_ 1
    have d2 : w10.cell? ⟨g7, 2, none⟩ = some (.string W.e0) := Q7.out.at_ 2
    have f0 : w10.cell? ⟨g9, 0, none⟩ = some (.int .i64 2) := Q9.out.at_ 0
    have f1 : w10.cell? ⟨g9, 1, none⟩ = some (.int .i64 0) := Q9.out.at_ 1
    have f2 : w10.cell? ⟨g9, 2, none⟩ = some (.string W.e0) := Q9.out.at_ 2
    have i0 : w10.cell? ⟨g11, 0, none⟩ = some (.int .i64 2) := Q11.out.at_ 0
    have i1 : w10.cell? ⟨g11, 1, none⟩ = some (.int .i64 0) := Q11.out.at_ 1
    have i2 : w10.cell? ⟨g11, 2, none⟩ = some (.string W.e0) := Q11.out.at_ 2
    have j0 : w10.cell? ⟨g13, 0, none⟩ = some (.int .i64 2) := Q13.out.at_ 0
    have j1 : w10.cell? ⟨g13, 1, none⟩ = some (.int .i64 0) := Q13.out.at_ 1
    have j2 : w10.cell? ⟨g13, 2, none⟩ = some (.string W.e0) := Q13.out.at_ 2
    have m0 : w10.cell? ⟨g15, 0, none⟩ = some (.int .i64 2) := Q15.out.at_ 0
    have m1 : w10.cell? ⟨g15, 1, none⟩ = some (.int .i64 0) := Q15.out.at_ 1
    have m2 : w10.cell? ⟨g15, 2, none⟩ = some (.string W.e0) := Q15.out.at_ 2
    go_upto_region 18 with (first | (go_at_call 26; first | ((with_reducible refine (true1 _).mono ?_); rintro e w' ⟨rfl, hbN⟩; replace hbI := hbI.trans (hbN.mono hbI.size); clear hbN; have f0 : w'.cell? ⟨g9, 0, none⟩ = some (.int .i64 2) := (Q9.out.on hbI Q9.out.lt).at_ 0; have f1 : w'.cell? ⟨g9, 1, none⟩ = some (.int .i64 0) := (Q9.out.on hbI Q9.out.lt).at_ 1; have f2 : w'.cell? ⟨g9, 2, none⟩ = some (.string W.e0) := (Q9.out.on hbI Q9.out.lt).at_ 2; have i0 : w'.cell? ⟨g11, 0, none⟩ = some (.int .i64 2) := (Q11.out.on hbI Q11.out.lt).at_ 0; have i1 : w'.cell? ⟨g11, 1, none⟩ = some (.int .i64 0) := (Q11.out.on hbI Q11.out.lt).at_ 1; have i2 : w'.cell? ⟨g11, 2, none⟩ = some (.string W.e0) := (Q11.out.on hbI Q11.out.lt).at_ 2; have j0 : w'.cell? ⟨g13, 0, none⟩ = some (.int .i64 2) := (Q13.out.on hbI Q13.out.lt).at_ 0; have j1 : w'.cell? ⟨g13, 1, none⟩ = some (.int .i64 0) := (Q13.out.on hbI Q13.out.lt).at_ 1; have j2 : w'.cell? ⟨g13, 2, none⟩ = some (.string W.e0) := (Q13.out.on hbI Q13.out.lt).at_ 2) | ((with_reducible refine (true0 _).mono ?_); rintro e w' ⟨rfl, hbN⟩; replace hbI := hbI.trans (hbN.mono hbI.size); clear hbN; have f0 : w'.cell? ⟨g9, 0, none⟩ = some (.int .i64 2) := (Q9.out.on hbI Q9.out.lt).at_ 0; have f1 : w'.cell? ⟨g9, 1, none⟩ = some (.int .i64 0) := (Q9.out.on hbI Q9.out.lt).at_ 1; have f2 : w'.cell? ⟨g9, 2, none⟩ = some (.string W.e0) := (Q9.out.on hbI Q9.out.lt).at_ 2; have i0 : w'.cell? ⟨g11, 0, none⟩ = some (.int .i64 2) := (Q11.out.on hbI Q11.out.lt).at_ 0; have i1 : w'.cell? ⟨g11, 1, none⟩ = some (.int .i64 0) := (Q11.out.on hbI Q11.out.lt).at_ 1; have i2 : w'.cell? ⟨g11, 2, none⟩ = some (.string W.e0) := (Q11.out.on hbI Q11.out.lt).at_ 2; have j0 : w'.cell? ⟨g13, 0, none⟩ = some (.int .i64 2) := (Q13.out.on hbI Q13.out.lt).at_ 0; have j1 : w'.cell? ⟨g13, 1, none⟩ = some (.int .i64 0) := (Q13.out.on hbI Q13.out.lt).at_ 1; have j2 : w'.cell? ⟨g13, 2, none⟩ = some (.string W.e0) := (Q13.out.on hbI Q13.out.lt).at_ 2)))
    have y7 := (Q7.out.on hbI Q7.out.lt).atV
    have y9 := (Q9.out.on hbI Q9.out.lt).atV
    have y11 := (Q11.out.on hbI Q11.out.lt).atV
    have y13 := (Q13.out.on hbI Q13.out.lt).atV
    clear Q7 Q9 Q11 Q13 Q15 d0 d1 d2 f0 f1 f2 i0 i1 i2 j0 j1 j2 m0 m1 m2
    refine W.wp_region_fresh (by kernel_rfl) (by kernel_rfl) ?_
    repeat (first | go_big_quiet_skip | (go_big_quiet_want; (first | (go_big_quiet_op; go_big_quiet_on) | (apply W.quiet_load27; exact rfl; exact rfl; (intro wq hw9; first | with_reducible exact W.AtV.later y7 hw9 | with_reducible exact W.AtV.later y9 hw9 | with_reducible exact W.AtV.later y11 hw9 | with_reducible exact W.AtV.later y13 hw9); simp only [Act.put, List.setIfInBounds_toArray, List.set_cons_zero, List.set_cons_succ]; go_big_quiet_on) | (refine W.quiet_call1 (f := 26) (u := W.V 2 1 W.e0) (v := .bool true) rfl rfl (run_True _) ?_ ?_; (intro wq hw9; exact (true1 wq).mono (fun _ _ hh => ⟨hh.1, W.blw2 hw9 hh.2⟩)); simp only [Act.put, List.setIfInBounds_toArray, List.set_cons_zero, List.set_cons_succ]; go_big_quiet_on) | (refine W.quiet_call1 (f := 26) (u := W.V 2 0 W.e0) (v := .bool false) rfl rfl (run_True _) ?_ ?_; (intro wq hw9; exact (true0 wq).mono (fun _ _ hh => ⟨hh.1, W.blw2 hw9 hh.2⟩)); simp only [Act.put, List.setIfInBounds_toArray, List.set_cons_zero, List.set_cons_succ]; go_big_quiet_on) | (apply W.quiet_pure; (intro wq; go_simp; exact rfl); simp only [Act.put, List.setIfInBounds_toArray, List.set_cons_zero, List.set_cons_succ]; go_big_quiet_on))))
    refine wpQuiet_nil ?_
    intro w9 hb9
    go_wp2_with fail
    go_ret
    exact ⟨rfl, (HB10.out.trans (hbI.mono HB10.out.size)).trans (hb9.mono (HB10.out.trans (hbI.mono HB10.out.size)).size)⟩
end Go.Proofs.YtbkgophgclpijaaDoor
