/- Package show: object, array, printed, within of arrays. -/
import Derived.Test.YtgdkjkfbknbgkaaGreatDoorVd
import Derived.Test.YtgdkjkfbknbgkaaGreatDoorTc
namespace Go.Proofs.YtgdkjkfbknbgkaaGreatDoor
open Go Go.RowKit

set_option maxHeartbeats 1000000 in
set_option maxRecDepth 100000 in
theorem object_yes {W : World} (m h : Nat) (v : Vt) (hm : W.cell? ⟨m, 0, none⟩ = some (.pointer (some ⟨h, 0, none⟩))) (hml : m < W.heap.size) (o : Nat) (HOF : Veil (∀ W', Below W.heap.size W W' → Calls Tryz.prog 21 #[.pointer (some ⟨h, 0, none⟩), valV v] W' fun e w' => e = .returned (.pointer (some ⟨o, 0, none⟩)) ∧ Below W'.heap.size W' w')) : Calls Tryz.prog 82 #[.pointer (some ⟨m, 0, none⟩), valV v] W fun e w' => e = .returned (.pointer (some ⟨o, 0, none⟩)) ∧ Below W.heap.size W w' := by
  have b1 := Box.new W 30 #[.int .i64 v.1, .int .i64 v.2.1, .string v.2.2]
  have bb : Below W.heap.size W (W.alloc (.cells #[.int .i64 v.1, .int .i64 v.2.1, .string v.2.2] 30)) := (Below.refl _ _).alloc (Nat.le_refl _) _
  obtain ⟨kb, hkb⟩ : ∃ kb, W.heap.size = kb := ⟨_, rfl⟩
  obtain ⟨W0, hW0⟩ : ∃ W0, W.alloc (.cells #[.int .i64 v.1, .int .i64 v.2.1, .string v.2.2] 30) = W0 := ⟨_, rfl⟩
  rw [hW0] at b1 bb
  have HW0 := Veil.mk (And.intro hW0 hkb)
  rw [hkb] at b1
  have HBB := Veil.mk (And.intro bb b1)
  have x0 : W0.cell? ⟨kb, 0, none⟩ = some (.int .i64 v.1) := b1.at_ 0
  have x1 : W0.cell? ⟨kb, 1, none⟩ = some (.int .i64 v.2.1) := b1.at_ 1
  have x2 : W0.cell? ⟨kb, 2, none⟩ = some (.string v.2.2) := b1.at_ 2
  clear hW0 hkb b1 bb
  have hm0 : W0.cell? ⟨m, 0, none⟩ = some (.pointer (some ⟨h, 0, none⟩)) := by rw [HBB.out.1.cell (p := ⟨m, 0, none⟩) hml]; exact hm
  go_enter Tryz.func82, Tryz.ntmps82
  go_upto_region 1 with (fail)
  rw [HW0.out.1, HW0.out.2]
  go_upto_region 3 with (fail)
  obtain ⟨WF, hWF⟩ : ∃ WF, W0.drew = WF := ⟨_, rfl⟩
  have HBF : Veil (Below W.heap.size W WF) := ⟨by rw [← hWF]; exact HBB.out.1.drew⟩
  have HC : Veil (WF.cell? ⟨m, 0, none⟩ = some (.pointer (some ⟨h, 0, none⟩)) ∧ WF.cell? ⟨kb, 0, none⟩ = some (.int .i64 v.1) ∧ WF.cell? ⟨kb, 1, none⟩ = some (.int .i64 v.2.1) ∧ WF.cell? ⟨kb, 2, none⟩ = some (.string v.2.2)) := ⟨by rw [← hWF]; exact ⟨hm0, x0, x1, x2⟩⟩
  have HOF := Veil.mk (HOF.out WF HBF.out)
  have HWF := Veil.mk hWF
  clear hWF hm0 x0 x1 x2 hm hml
  refine wp_region_chain (some (· = .pointer (some ⟨m, 0, none⟩)) :: some (· = .pointer (some ⟨m, 0, none⟩)) :: some (· = .pointer (some ⟨m, 0, none⟩)) :: some (· = .pointer (some ⟨h, 0, none⟩)) :: some (· = valV v) :: some (· = .pointer (some ⟨o, 0, none⟩)) :: some (· = .pointer (some ⟨o, 0, none⟩)) :: [] : List (Option (Value → Prop))) (LPh [5] (fun j _ w => match j with | 0 => w = WF | _ => Below WF.heap.size WF w)) [some 7, some 8, some 9, some 10, some 11, some 12, some 4] (curV' _ [some 7, some 8, some 9, some 10, some 11, some 12, some 4]) (by kernel_rfl) rfl rfl (puts_cur _ _) (LPh.start (show _ = WF from HWF.out)) ?_ (by kernel_rfl) ?_
  · refine Steps.cons rfl (fun bb aa w' hbs hb0 hbp hI K hK => ?_) ?_
    · obtain ⟨us, hus, ha, hI⟩ := hI
      obtain ⟨u0, u1, u2, u3, u4, u5, u6, rfl⟩ := lenA7 hus
      have HI := Veil.mk hI
      clear hI
      rw [ha]
      simp only [puts, setAll, List.setIfInBounds_toArray, List.set_cons_zero, List.set_cons_succ]
      go_simp
      exact hK _ _ (chain_step HI.out hus hbs 0 _ (by show 0 < 7; decide) rfl hbp (val_of rfl rfl) (HI.out.ph.step 0 _ (by decide) (by decide)) (by simp only [puts, setAll, List.set_cons_zero, List.set_cons_succ, List.setIfInBounds_toArray]))
    refine Steps.cons rfl (fun bb aa w' hbs hb0 hbp hI K hK => ?_) ?_
    · obtain ⟨us, hus, ha, hI⟩ := hI
      obtain ⟨u0, u1, u2, u3, u4, u5, u6, rfl⟩ := lenA7 hus
      have e0 : u0 = .pointer (some ⟨m, 0, none⟩) := hI.val 0 _ rfl (gen_after 0 (by kernel_rfl) hbp)
      subst e0
      have HI := Veil.mk hI
      clear hI
      rw [ha]
      simp only [puts, setAll, List.setIfInBounds_toArray, List.set_cons_zero, List.set_cons_succ]
      go_simp
      exact hK _ _ (chain_step HI.out hus hbs 1 _ (by show 1 < 7; decide) rfl hbp (val_of rfl rfl) (HI.out.ph.step 1 _ (by decide) (by decide)) (by simp only [puts, setAll, List.set_cons_zero, List.set_cons_succ, List.setIfInBounds_toArray]))
    refine Steps.cons rfl (fun bb aa w' hbs hb0 hbp hI K hK => ?_) ?_
    · obtain ⟨us, hus, ha, hI⟩ := hI
      obtain ⟨u0, u1, u2, u3, u4, u5, u6, rfl⟩ := lenA7 hus
      have e1 : u1 = .pointer (some ⟨m, 0, none⟩) := hI.val 1 _ rfl (gen_after 1 (by kernel_rfl) hbp)
      subst e1
      have HI := Veil.mk hI
      clear hI
      rw [ha]
      simp only [puts, setAll, List.setIfInBounds_toArray, List.set_cons_zero, List.set_cons_succ]
      go_simp
      exact hK _ _ (chain_step HI.out hus hbs 2 _ (by show 2 < 7; decide) rfl hbp (val_of rfl rfl) (HI.out.ph.step 2 _ (by decide) (by decide)) (by simp only [puts, setAll, List.set_cons_zero, List.set_cons_succ, List.setIfInBounds_toArray]))
    refine Steps.cons rfl (fun bb aa w' hbs hb0 hbp hI K hK => ?_) ?_
    · obtain ⟨us, hus, ha, hI⟩ := hI
      obtain ⟨u0, u1, u2, u3, u4, u5, u6, rfl⟩ := lenA7 hus
      have e2 : u2 = .pointer (some ⟨m, 0, none⟩) := hI.val 2 _ rfl (gen_after 2 (by kernel_rfl) hbp)
      subst e2
      have gb := (hI.bwd [3] 5 3 (by kernel_rfl) rfl hb0)
      have hst := hI.ph.btw1 0 (.inl rfl) (.inr ⟨5, rfl, gb⟩)
      have hst' : WF = w' := (show w' = WF from hst).symm
      clear hst
      subst hst'
      have c0 := HC.out.1
      clear gb
      have HI := Veil.mk hI
      clear hI
      rw [ha]
      simp only [puts, setAll, List.setIfInBounds_toArray, List.set_cons_zero, List.set_cons_succ]
      go_simp
      exact hK _ _ (chain_step HI.out hus hbs 3 _ (by show 3 < 7; decide) rfl hbp (val_of rfl rfl) (HI.out.ph.step 3 _ (by decide) (by decide)) (by simp only [puts, setAll, List.set_cons_zero, List.set_cons_succ, List.setIfInBounds_toArray]))
    refine Steps.cons rfl (fun bb aa w' hbs hb0 hbp hI K hK => ?_) ?_
    · obtain ⟨us, hus, ha, hI⟩ := hI
      obtain ⟨u0, u1, u2, u3, u4, u5, u6, rfl⟩ := lenA7 hus
      have gb := (hI.bwd [4] 5 4 (by kernel_rfl) rfl hb0)
      have hst := hI.ph.btw1 0 (.inl rfl) (.inr ⟨5, rfl, gb⟩)
      have hst' : WF = w' := (show w' = WF from hst).symm
      clear hst
      subst hst'
      have c0 := HC.out.2.1
      have c1 := HC.out.2.2.1
      have c2 := HC.out.2.2.2
      clear gb
      have HI := Veil.mk hI
      clear hI
      rw [ha]
      simp only [puts, setAll, List.setIfInBounds_toArray, List.set_cons_zero, List.set_cons_succ]
      go_simp
      exact hK _ _ (chain_step HI.out hus hbs 4 _ (by show 4 < 7; decide) rfl hbp (val_of rfl rfl) (HI.out.ph.step 4 _ (by decide) (by decide)) (by simp only [puts, setAll, List.set_cons_zero, List.set_cons_succ, List.setIfInBounds_toArray]))
    refine Steps.cons rfl (fun bb aa w' hbs hb0 hbp hI K hK => ?_) ?_
    · obtain ⟨us, hus, ha, hI⟩ := hI
      obtain ⟨u0, u1, u2, u3, u4, u5, u6, rfl⟩ := lenA7 hus
      have e3 : u3 = .pointer (some ⟨h, 0, none⟩) := hI.val 3 _ rfl (gen_after 3 (by kernel_rfl) hbp)
      subst e3
      have e4 : u4 = valV v := hI.val 4 _ rfl (gen_after 4 (by kernel_rfl) hbp)
      subst e4
      have gb := hb0
      have hst := hI.ph.btw1 0 (.inl rfl) (.inr ⟨5, rfl, gb⟩)
      have hst' : WF = w' := (show w' = WF from hst).symm
      clear hst
      subst hst'
      clear gb
      have HI := Veil.mk hI
      clear hI
      rw [ha]
      simp only [puts, setAll, List.setIfInBounds_toArray, List.set_cons_zero, List.set_cons_succ]
      go_simp
      go_at_call 21
      refine HOF.out.mono ?_
      rintro e9 w9 ⟨rfl, hb9⟩
      go_simp
      exact hK _ _ (chain_step HI.out hus hbs 5 _ (by show 5 < 7; decide) rfl hbp (val_of rfl rfl) (HI.out.ph.next 0 5 _ rfl hb0 (.inl rfl) (by decide) (hb9)) (by simp only [puts, setAll, List.set_cons_zero, List.set_cons_succ, List.setIfInBounds_toArray]))
    refine Steps.cons rfl (fun bb aa w' hbs hb0 hbp hI K hK => ?_) ?_
    · obtain ⟨us, hus, ha, hI⟩ := hI
      obtain ⟨u0, u1, u2, u3, u4, u5, u6, rfl⟩ := lenA7 hus
      have e5 : u5 = .pointer (some ⟨o, 0, none⟩) := hI.val 5 _ rfl (gen_after 5 (by kernel_rfl) hbp)
      subst e5
      have HI := Veil.mk hI
      clear hI
      rw [ha]
      simp only [puts, setAll, List.setIfInBounds_toArray, List.set_cons_zero, List.set_cons_succ]
      go_simp
      exact hK _ _ (chain_step HI.out hus hbs 6 _ (by show 6 < 7; decide) rfl hbp (val_of rfl rfl) (HI.out.ph.step 6 _ (by decide) (by decide)) (by simp only [puts, setAll, List.set_cons_zero, List.set_cons_succ, List.setIfInBounds_toArray]))
    exact Steps.nil
  · intro us wE hus dd hD2 hJ
    obtain ⟨p0, p1, p2, p3, p4, p5, p6, rfl⟩ := lenA7 hus
    have q1 := hJ.ph.all (fun c hc => hD2 c (by
      have : c = 5 := by simpa using hc
      show c < 7
      omega))
    have e0 : p0 = .pointer (some ⟨m, 0, none⟩) := hJ.val 0 _ rfl (hD2 0 (by show 0 < 7; decide))
    subst e0
    have e1 : p1 = .pointer (some ⟨m, 0, none⟩) := hJ.val 1 _ rfl (hD2 1 (by show 1 < 7; decide))
    subst e1
    have e2 : p2 = .pointer (some ⟨m, 0, none⟩) := hJ.val 2 _ rfl (hD2 2 (by show 2 < 7; decide))
    subst e2
    have e3 : p3 = .pointer (some ⟨h, 0, none⟩) := hJ.val 3 _ rfl (hD2 3 (by show 3 < 7; decide))
    subst e3
    have e4 : p4 = valV v := hJ.val 4 _ rfl (hD2 4 (by show 4 < 7; decide))
    subst e4
    have e5 : p5 = .pointer (some ⟨o, 0, none⟩) := hJ.val 5 _ rfl (hD2 5 (by show 5 < 7; decide))
    subst e5
    have e6 : p6 = .pointer (some ⟨o, 0, none⟩) := hJ.val 6 _ rfl (hD2 6 (by show 6 < 7; decide))
    subst e6
    clear hJ hD2
    have HQ := Veil.mk (show Below WF.heap.size WF wE from q1)
    clear q1
    simp only [puts, setAll, List.setIfInBounds_toArray, List.set_cons_zero, List.set_cons_succ]
    go_wp2
    go_ret
    exact ⟨rfl, HBF.out.trans (HQ.out.mono HBF.out.size)⟩
set_option maxHeartbeats 1000000 in
set_option maxRecDepth 100000 in
theorem object_no {W : World} (m h : Nat) (v : Vt) (hm : W.cell? ⟨m, 0, none⟩ = some (.pointer (some ⟨h, 0, none⟩))) (hml : m < W.heap.size)  (HOF : Veil (∀ W', Below W.heap.size W W' → Calls Tryz.prog 21 #[.pointer (some ⟨h, 0, none⟩), valV v] W' fun e w' => e = .returned (.pointer none) ∧ Below W'.heap.size W' w')) : Calls Tryz.prog 82 #[.pointer (some ⟨m, 0, none⟩), valV v] W fun e w' => e = .returned (.pointer none) ∧ Below W.heap.size W w' := by
  have b1 := Box.new W 30 #[.int .i64 v.1, .int .i64 v.2.1, .string v.2.2]
  have bb : Below W.heap.size W (W.alloc (.cells #[.int .i64 v.1, .int .i64 v.2.1, .string v.2.2] 30)) := (Below.refl _ _).alloc (Nat.le_refl _) _
  obtain ⟨kb, hkb⟩ : ∃ kb, W.heap.size = kb := ⟨_, rfl⟩
  obtain ⟨W0, hW0⟩ : ∃ W0, W.alloc (.cells #[.int .i64 v.1, .int .i64 v.2.1, .string v.2.2] 30) = W0 := ⟨_, rfl⟩
  rw [hW0] at b1 bb
  have HW0 := Veil.mk (And.intro hW0 hkb)
  rw [hkb] at b1
  have HBB := Veil.mk (And.intro bb b1)
  have x0 : W0.cell? ⟨kb, 0, none⟩ = some (.int .i64 v.1) := b1.at_ 0
  have x1 : W0.cell? ⟨kb, 1, none⟩ = some (.int .i64 v.2.1) := b1.at_ 1
  have x2 : W0.cell? ⟨kb, 2, none⟩ = some (.string v.2.2) := b1.at_ 2
  clear hW0 hkb b1 bb
  have hm0 : W0.cell? ⟨m, 0, none⟩ = some (.pointer (some ⟨h, 0, none⟩)) := by rw [HBB.out.1.cell (p := ⟨m, 0, none⟩) hml]; exact hm
  go_enter Tryz.func82, Tryz.ntmps82
  go_upto_region 1 with (fail)
  rw [HW0.out.1, HW0.out.2]
  go_upto_region 3 with (fail)
  obtain ⟨WF, hWF⟩ : ∃ WF, W0.drew = WF := ⟨_, rfl⟩
  have HBF : Veil (Below W.heap.size W WF) := ⟨by rw [← hWF]; exact HBB.out.1.drew⟩
  have HC : Veil (WF.cell? ⟨m, 0, none⟩ = some (.pointer (some ⟨h, 0, none⟩)) ∧ WF.cell? ⟨kb, 0, none⟩ = some (.int .i64 v.1) ∧ WF.cell? ⟨kb, 1, none⟩ = some (.int .i64 v.2.1) ∧ WF.cell? ⟨kb, 2, none⟩ = some (.string v.2.2)) := ⟨by rw [← hWF]; exact ⟨hm0, x0, x1, x2⟩⟩
  have HOF := Veil.mk (HOF.out WF HBF.out)
  have HWF := Veil.mk hWF
  clear hWF hm0 x0 x1 x2 hm hml
  refine wp_region_chain (some (· = .pointer (some ⟨m, 0, none⟩)) :: some (· = .pointer (some ⟨m, 0, none⟩)) :: some (· = .pointer (some ⟨m, 0, none⟩)) :: some (· = .pointer (some ⟨h, 0, none⟩)) :: some (· = valV v) :: some (· = .pointer none) :: some (· = .pointer none) :: [] : List (Option (Value → Prop))) (LPh [5] (fun j _ w => match j with | 0 => w = WF | _ => Below WF.heap.size WF w)) [some 7, some 8, some 9, some 10, some 11, some 12, some 4] (curV' _ [some 7, some 8, some 9, some 10, some 11, some 12, some 4]) (by kernel_rfl) rfl rfl (puts_cur _ _) (LPh.start (show _ = WF from HWF.out)) ?_ (by kernel_rfl) ?_
  · refine Steps.cons rfl (fun bb aa w' hbs hb0 hbp hI K hK => ?_) ?_
    · obtain ⟨us, hus, ha, hI⟩ := hI
      obtain ⟨u0, u1, u2, u3, u4, u5, u6, rfl⟩ := lenA7 hus
      have HI := Veil.mk hI
      clear hI
      rw [ha]
      simp only [puts, setAll, List.setIfInBounds_toArray, List.set_cons_zero, List.set_cons_succ]
      go_simp
      exact hK _ _ (chain_step HI.out hus hbs 0 _ (by show 0 < 7; decide) rfl hbp (val_of rfl rfl) (HI.out.ph.step 0 _ (by decide) (by decide)) (by simp only [puts, setAll, List.set_cons_zero, List.set_cons_succ, List.setIfInBounds_toArray]))
    refine Steps.cons rfl (fun bb aa w' hbs hb0 hbp hI K hK => ?_) ?_
    · obtain ⟨us, hus, ha, hI⟩ := hI
      obtain ⟨u0, u1, u2, u3, u4, u5, u6, rfl⟩ := lenA7 hus
      have e0 : u0 = .pointer (some ⟨m, 0, none⟩) := hI.val 0 _ rfl (gen_after 0 (by kernel_rfl) hbp)
      subst e0
      have HI := Veil.mk hI
      clear hI
      rw [ha]
      simp only [puts, setAll, List.setIfInBounds_toArray, List.set_cons_zero, List.set_cons_succ]
      go_simp
      exact hK _ _ (chain_step HI.out hus hbs 1 _ (by show 1 < 7; decide) rfl hbp (val_of rfl rfl) (HI.out.ph.step 1 _ (by decide) (by decide)) (by simp only [puts, setAll, List.set_cons_zero, List.set_cons_succ, List.setIfInBounds_toArray]))
    refine Steps.cons rfl (fun bb aa w' hbs hb0 hbp hI K hK => ?_) ?_
    · obtain ⟨us, hus, ha, hI⟩ := hI
      obtain ⟨u0, u1, u2, u3, u4, u5, u6, rfl⟩ := lenA7 hus
      have e1 : u1 = .pointer (some ⟨m, 0, none⟩) := hI.val 1 _ rfl (gen_after 1 (by kernel_rfl) hbp)
      subst e1
      have HI := Veil.mk hI
      clear hI
      rw [ha]
      simp only [puts, setAll, List.setIfInBounds_toArray, List.set_cons_zero, List.set_cons_succ]
      go_simp
      exact hK _ _ (chain_step HI.out hus hbs 2 _ (by show 2 < 7; decide) rfl hbp (val_of rfl rfl) (HI.out.ph.step 2 _ (by decide) (by decide)) (by simp only [puts, setAll, List.set_cons_zero, List.set_cons_succ, List.setIfInBounds_toArray]))
    refine Steps.cons rfl (fun bb aa w' hbs hb0 hbp hI K hK => ?_) ?_
    · obtain ⟨us, hus, ha, hI⟩ := hI
      obtain ⟨u0, u1, u2, u3, u4, u5, u6, rfl⟩ := lenA7 hus
      have e2 : u2 = .pointer (some ⟨m, 0, none⟩) := hI.val 2 _ rfl (gen_after 2 (by kernel_rfl) hbp)
      subst e2
      have gb := (hI.bwd [3] 5 3 (by kernel_rfl) rfl hb0)
      have hst := hI.ph.btw1 0 (.inl rfl) (.inr ⟨5, rfl, gb⟩)
      have hst' : WF = w' := (show w' = WF from hst).symm
      clear hst
      subst hst'
      have c0 := HC.out.1
      clear gb
      have HI := Veil.mk hI
      clear hI
      rw [ha]
      simp only [puts, setAll, List.setIfInBounds_toArray, List.set_cons_zero, List.set_cons_succ]
      go_simp
      exact hK _ _ (chain_step HI.out hus hbs 3 _ (by show 3 < 7; decide) rfl hbp (val_of rfl rfl) (HI.out.ph.step 3 _ (by decide) (by decide)) (by simp only [puts, setAll, List.set_cons_zero, List.set_cons_succ, List.setIfInBounds_toArray]))
    refine Steps.cons rfl (fun bb aa w' hbs hb0 hbp hI K hK => ?_) ?_
    · obtain ⟨us, hus, ha, hI⟩ := hI
      obtain ⟨u0, u1, u2, u3, u4, u5, u6, rfl⟩ := lenA7 hus
      have gb := (hI.bwd [4] 5 4 (by kernel_rfl) rfl hb0)
      have hst := hI.ph.btw1 0 (.inl rfl) (.inr ⟨5, rfl, gb⟩)
      have hst' : WF = w' := (show w' = WF from hst).symm
      clear hst
      subst hst'
      have c0 := HC.out.2.1
      have c1 := HC.out.2.2.1
      have c2 := HC.out.2.2.2
      clear gb
      have HI := Veil.mk hI
      clear hI
      rw [ha]
      simp only [puts, setAll, List.setIfInBounds_toArray, List.set_cons_zero, List.set_cons_succ]
      go_simp
      exact hK _ _ (chain_step HI.out hus hbs 4 _ (by show 4 < 7; decide) rfl hbp (val_of rfl rfl) (HI.out.ph.step 4 _ (by decide) (by decide)) (by simp only [puts, setAll, List.set_cons_zero, List.set_cons_succ, List.setIfInBounds_toArray]))
    refine Steps.cons rfl (fun bb aa w' hbs hb0 hbp hI K hK => ?_) ?_
    · obtain ⟨us, hus, ha, hI⟩ := hI
      obtain ⟨u0, u1, u2, u3, u4, u5, u6, rfl⟩ := lenA7 hus
      have e3 : u3 = .pointer (some ⟨h, 0, none⟩) := hI.val 3 _ rfl (gen_after 3 (by kernel_rfl) hbp)
      subst e3
      have e4 : u4 = valV v := hI.val 4 _ rfl (gen_after 4 (by kernel_rfl) hbp)
      subst e4
      have gb := hb0
      have hst := hI.ph.btw1 0 (.inl rfl) (.inr ⟨5, rfl, gb⟩)
      have hst' : WF = w' := (show w' = WF from hst).symm
      clear hst
      subst hst'
      clear gb
      have HI := Veil.mk hI
      clear hI
      rw [ha]
      simp only [puts, setAll, List.setIfInBounds_toArray, List.set_cons_zero, List.set_cons_succ]
      go_simp
      go_at_call 21
      refine HOF.out.mono ?_
      rintro e9 w9 ⟨rfl, hb9⟩
      go_simp
      exact hK _ _ (chain_step HI.out hus hbs 5 _ (by show 5 < 7; decide) rfl hbp (val_of rfl rfl) (HI.out.ph.next 0 5 _ rfl hb0 (.inl rfl) (by decide) (hb9)) (by simp only [puts, setAll, List.set_cons_zero, List.set_cons_succ, List.setIfInBounds_toArray]))
    refine Steps.cons rfl (fun bb aa w' hbs hb0 hbp hI K hK => ?_) ?_
    · obtain ⟨us, hus, ha, hI⟩ := hI
      obtain ⟨u0, u1, u2, u3, u4, u5, u6, rfl⟩ := lenA7 hus
      have e5 : u5 = .pointer none := hI.val 5 _ rfl (gen_after 5 (by kernel_rfl) hbp)
      subst e5
      have HI := Veil.mk hI
      clear hI
      rw [ha]
      simp only [puts, setAll, List.setIfInBounds_toArray, List.set_cons_zero, List.set_cons_succ]
      go_simp
      exact hK _ _ (chain_step HI.out hus hbs 6 _ (by show 6 < 7; decide) rfl hbp (val_of rfl rfl) (HI.out.ph.step 6 _ (by decide) (by decide)) (by simp only [puts, setAll, List.set_cons_zero, List.set_cons_succ, List.setIfInBounds_toArray]))
    exact Steps.nil
  · intro us wE hus dd hD2 hJ
    obtain ⟨p0, p1, p2, p3, p4, p5, p6, rfl⟩ := lenA7 hus
    have q1 := hJ.ph.all (fun c hc => hD2 c (by
      have : c = 5 := by simpa using hc
      show c < 7
      omega))
    have e0 : p0 = .pointer (some ⟨m, 0, none⟩) := hJ.val 0 _ rfl (hD2 0 (by show 0 < 7; decide))
    subst e0
    have e1 : p1 = .pointer (some ⟨m, 0, none⟩) := hJ.val 1 _ rfl (hD2 1 (by show 1 < 7; decide))
    subst e1
    have e2 : p2 = .pointer (some ⟨m, 0, none⟩) := hJ.val 2 _ rfl (hD2 2 (by show 2 < 7; decide))
    subst e2
    have e3 : p3 = .pointer (some ⟨h, 0, none⟩) := hJ.val 3 _ rfl (hD2 3 (by show 3 < 7; decide))
    subst e3
    have e4 : p4 = valV v := hJ.val 4 _ rfl (hD2 4 (by show 4 < 7; decide))
    subst e4
    have e5 : p5 = .pointer none := hJ.val 5 _ rfl (hD2 5 (by show 5 < 7; decide))
    subst e5
    have e6 : p6 = .pointer none := hJ.val 6 _ rfl (hD2 6 (by show 6 < 7; decide))
    subst e6
    clear hJ hD2
    have HQ := Veil.mk (show Below WF.heap.size WF wE from q1)
    clear q1
    simp only [puts, setAll, List.setIfInBounds_toArray, List.set_cons_zero, List.set_cons_succ]
    go_wp2
    go_ret
    exact ⟨rfl, HBF.out.trans (HQ.out.mono HBF.out.size)⟩
theorem Tryz.infoStrT : (Tryz.prog.info? 9).map (fun i => (i.zero, i.size, i.bytes)) = some (some (.string ⟨#[]⟩), 1, 16) := by kernel_rfl
set_option maxRecDepth 100000 in
theorem array_deep (mv : Value) (ev : Value) (w : World) : Calls Tryz.prog 93 #[mv, ev, .int .i64 3] w fun e w' => e = .returned (.string ⟨#[91, 46, 46, 93]⟩) ∧ w' = w := by
  go_enter Tryz.func93, Tryz.ntmps93
  go_wp2
  go_ret
  exact ⟨rfl, rfl⟩
abbrev strsV (l : List ByteArray) : List Value := l.map fun s => .string s
/-- What array prints. -/
def arrS (parts : List ByteArray) : ByteArray := ⟨#[91]⟩ ++ ⟨(Lib.join (parts.map (·.data.toList)) [44, 32]).toArray⟩ ++ ⟨#[93]⟩
theorem join_own {w : World} {B n : Nat} {pv : Value} {parts : List ByteArray} (h : w.ownsRow B 9 1 pv n (strsV parts)) (hn : n ≤ 1000000) (hsz : (Lib.join (parts.map (·.data.toList)) [44, 32]).length ≤ 140737488355328) : Calls Tryz.prog 108 #[pv, .string ⟨#[44, 32]⟩] w fun e w' => e = .returned (.string ⟨(Lib.join (parts.map (·.data.toList)) [44, 32]).toArray⟩) ∧ Below w.heap.size w w' := by
  have hl : parts.length = n := by have := h.1; rw [List.length_map] at this; omega
  rcases h.2 with ⟨rfl, h0⟩ | ⟨g, cap, cur, rfl, hB, hb, hc, -, -, -⟩
  · have : parts = [] := List.length_eq_zero_iff.1 (by omega)
    subst this
    exact (Tryz.strings_Join_none none 0 ⟨#[44, 32]⟩ w).mono fun e w' ⟨he, hw⟩ => ⟨he, hw ▸ Below.refl _ _⟩
  · have := Tryz.strings_Join g 0 cap parts ⟨#[44, 32]⟩ w (fun j x hx => by
      have hj : j < parts.length := (List.getElem?_eq_some_iff.1 hx).1
      rw [Nat.zero_add, h.cellAt j (by omega), List.getElem?_map, hx]
      rfl) (lt_of_block hb) (by omega) (by omega) hsz
    rw [hl] at this
    exact this
set_option maxHeartbeats 2000000 in
set_option maxRecDepth 100000 in
theorem array_shown (mv ev : Value) (a : Nat) (ha : a < 3) (l : List Vt) (parts : List ByteArray) (hpl : parts.length = l.length) (hll : l.length ≤ 1000000) (W : World) (HR : RowV W ev l)
    (hsz : (Lib.join (parts.map (·.data.toList)) [44, 32]).length ≤ 140737488355328)
    (HE : ∀ (i : Nat) v p, l[i]? = some v → parts[i]? = some p → ∀ W', Below W.heap.size W W' → Calls Tryz.prog 28 #[mv, valV v, .int .i64 ((a : Int) + 1)] W' fun e w' => e = .returned (.string p) ∧ Below W'.heap.size W' w') :
    Calls Tryz.prog 93 #[mv, ev, .int .i64 (a : Int)] W fun e w' => e = .returned (.string (arrS parts)) ∧ Below W.heap.size W w' := by
  obtain ⟨ao, cap, rfl, hcap, hno, hso⟩ := HR
  obtain ⟨i0, hi, hz0, hz1, hz2⟩ := info_parts Tryz.infoStrT
  obtain ⟨n, hn⟩ : ∃ n, l.length = n := ⟨_, rfl⟩
  have HN := Veil.mk (And.intro hn hpl)
  have hll : n ≤ 1000000 := by omega
  have HS := Veil.mk hso
  have HNO := Veil.mk hno
  have HEV := Veil.mk HE
  have HSZ := Veil.mk hsz
  have ha3 : ¬ (3 : Int) ≤ (a : Int) := by omega
  have ha4 : (a : Int) < 3 := by omega
  have ha0 : (0 : Int) ≤ (a : Int) := by omega
  rw [hn] at hcap ⊢
  clear hno hso HE hsz hn hpl
  go_enter Tryz.func93, Tryz.ntmps93
  go_wp2
  go_loopw [7, 14] (fun p i wr => ∃ k : Nat, k ≤ n ∧ i = .int .i64 (k : Int) ∧ Below W.heap.size W wr ∧ wr.ownsRow W.heap.size 9 1 p k (strsV (parts.take k))) (fun _ i _ => n - (intOf i).toNat)
  case atStart => exact ⟨0, by omega, rfl, Below.refl _ _, ⟨rfl, .inl ⟨rfl, rfl⟩⟩⟩
  case round =>
    obtain ⟨k, hk, rfl, hb, hrow⟩ := hrel
    have hk0 : (0 : Int) ≤ (k : Int) := by omega
    by_cases hlt : k < n
    · have hlt' : (k : Int) < (n : Int) := by omega
      obtain ⟨v, hv⟩ : ∃ v, l[k]? = some v := ⟨_, List.getElem?_eq_getElem (by rw [HN.out.1]; exact hlt)⟩
      obtain ⟨p, hp⟩ : ∃ p, parts[k]? = some p := ⟨_, List.getElem?_eq_getElem (by rw [HN.out.2, HN.out.1]; exact hlt)⟩
      obtain ⟨g, hg⟩ : ∃ g, ao = some ⟨g, 0, none⟩ := by
        cases ao with
        | none =>
          have h1 := (HNO.out rfl).1
          have h2 : n = 0 := by rw [← HN.out.1, h1]; rfl
          omega
        | some ad =>
          obtain ⟨g, e, -⟩ := HS.out ad rfl
          exact ⟨g, by rw [e]⟩
      subst hg
      obtain ⟨g', hgg, hlb, hcs⟩ := HS.out _ rfl
      cases hgg
      obtain ⟨f0, f1, f2⟩ := flatV_at l k v hv
      have hc : ∀ j u, (flatV l)[j]? = some u → wr.cell? ⟨g, j, none⟩ = some u := fun j u hj => by rw [cell_blk (hb.block g (lab_lt hlb))]; exact hcs j u hj
      have c0 := hc _ _ f0
      have c1 := hc _ _ f1
      have c2 := hc _ _ f2
      clear f0 f1 f2 hc hcs hlb
      have HP := Veil.mk (And.intro hv (And.intro hp hb))
      clear hv hp hb
      go_upto_region 7 with (fail)
      obtain ⟨W2, hW2⟩ : ∃ W2, wr.alloc (.cells #[.int .i64 v.1, .int .i64 v.2.1, .string v.2.2] 30) = W2 := ⟨_, rfl⟩
      have bx := Box.new wr 30 #[.int .i64 v.1, .int .i64 v.2.1, .string v.2.2]
      have bl : Below wr.heap.size wr (wr.alloc (.cells #[.int .i64 v.1, .int .i64 v.2.1, .string v.2.2] 30)) := (Below.refl _ _).alloc (Nat.le_refl _) _
      rw [hW2] at bx bl ⊢
      have d0 : W2.cell? ⟨wr.heap.size, 0, none⟩ = some (.int .i64 v.1) := bx.at_ 0
      have d1 : W2.cell? ⟨wr.heap.size, 1, none⟩ = some (.int .i64 v.2.1) := bx.at_ 1
      have d2 : W2.cell? ⟨wr.heap.size, 2, none⟩ = some (.string v.2.2) := bx.at_ 2
      have hb2 := HP.out.2.2.trans (bl.mono HP.out.2.2.size)
      have hrow2 := own_below hrow bl
      have HW := Veil.mk (HEV.out k v p HP.out.1 HP.out.2.1 W2 hb2)
      have HB2 := Veil.mk hb2
      have hsW : W.heap.size ≤ W2.heap.size := hb2.size
      clear hW2 bx bl hb2 hrow c0 c1 c2
      go_wp2_with (first | (go_at_call 28; ((with_reducible refine HW.out.mono ?_); rintro e w3 ⟨rfl, hb3⟩; have hrow3 := own_below hrow2 hb3; have hs3 : W.heap.size ≤ w3.heap.size := Nat.le_trans hsW hb3.size; have HB3 := Veil.mk hb3; clear hb3 hrow2)) | (at_builtin; refine wpList_append_lies _ rfl _ _ 52 rfl W.heap.size 9 i0 (.string ⟨#[]⟩) 1 16 Tryz.underlying52 hi hz0 hz1 hz2 rfl (by decide) _ _ _ rfl (hrow3.alloc _) ⟨w3.heap.size, 0, none⟩ 1 1 [.string p] rfl rfl (news_at _ _ rfl _ _) (by simp [Value.oneCell']) (by decide) (by unfold maxLen; omega) (by omega) (by rw [World.size_alloc]; omega) _ rfl ?_; intro g5 cap5 w5 hown5 hgrow5 hblk5 hg5; refine Hid.out ?_))
      have bb : Below w3.heap.size w3 (w3.alloc (.cells #[.string p] 9)) := (Below.refl _ _).alloc (Nat.le_refl _) _
      have ht5 : Touch (fun b => u7.ownBlock = some b) w3 w5 := (Touch.of_below bb).trans (Touch.of_grown hgrow5 (fun b hb => hb))
      have hb5 : Below W.heap.size W w5 := (HB2.out.trans (HB3.out.mono hsW)).trans (ht5.below hs3 (fun b hb9 => (own_lt hrow3 b hb9).1))
      have hrow5 : w5.ownsRow W.heap.size 9 1 (.slice (some ⟨g5, 0, none⟩) (k + 1) cap5) (k + 1) (strsV (parts.take (k + 1))) := by
        have e : strsV (parts.take (k + 1)) = strsV (parts.take k) ++ [.string p] := by
          rw [List.take_add_one, HP.out.2.1]
          exact List.map_append
        rw [e]
        exact hown5
      have HR := Veil.mk (And.intro hb5 hrow5)
      clear bb ht5 hb5 hrow5 hown5 hgrow5 hblk5 hg5 hrow3 hs3 HB3 HB2 HW d0 d1 d2
      refine Lib.hid ?_
      go_wp2
      go_roundw
      case rel => exact ⟨k + 1, by omega, by go_num, HR.out.1, HR.out.2⟩
      case measure => simp [intOf]; omega
    · obtain rfl : k = n := by omega
      have HJ := Veil.mk (join_own (by rw [List.take_of_length_le (Nat.le_of_eq (HN.out.2.trans HN.out.1))] at hrow; exact hrow) hll HSZ.out)
      have HB := Veil.mk hb
      obtain ⟨a9, c9, hv9, -⟩ := slice_own hrow
      subst hv9
      clear hrow hb hlt hk
      obtain ⟨js, hjs⟩ : ∃ js, (Lib.join (parts.map (·.data.toList)) [44, 32]).toArray = js := ⟨_, rfl⟩
      have hjz : js.size ≤ 140737488355328 := by rw [← hjs]; simpa using HSZ.out
      have HJS := Veil.mk hjs
      rw [hjs] at HJ
      clear hjs
      go_wp2_with (go_at_call 108; ((with_reducible refine HJ.out.mono ?_); rintro e w9 ⟨rfl, hb9⟩; have HB9 := Veil.mk hb9; clear hb9))
      go_ret
      refine ⟨?_, HB.out.trans (HB9.out.mono HB.out.size)⟩
      rw [← HJS.out]
      rfl
end Go.Proofs.YtgdkjkfbknbgkaaGreatDoor
