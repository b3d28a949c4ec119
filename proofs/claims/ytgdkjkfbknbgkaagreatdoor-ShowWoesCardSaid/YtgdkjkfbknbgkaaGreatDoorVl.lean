/- Package vm: Own; a machine's properties. -/
import Derived.Test.YtgdkjkfbknbgkaaGreatDoorVk
import Derived.Test.YtgdkjkfbknbgkaaGreatDoorWe
namespace Go.Proofs.YtgdkjkfbknbgkaaGreatDoor
open Go Go.RowKit

abbrev uOf (s : ByteArray) : List UInt8 := W.ofB s
theorem val_u (nm : ByteArray) (hs : nm.size ≤ 16777216) (w : World) : Calls Tryz.prog 23 #[.string nm] w fun e w' => e = .returned (valV (7, 0, ⟨(uOf nm).toArray⟩)) ∧ Below w.heap.size w w' := W.val_any nm hs w
def OnSt (P : World → Prop) (WF : World) : Nat → (Nat → Value) → World → Prop
  | 0 => fun _ w => w = WF
  | 1 => fun _ w => Below WF.heap.size WF w
  | _ => fun _ w => P w
theorem OnSt.bel {P : World → Prop} {WF w : World} {s : Nat} {f : Nat → Value} (hs : s ≤ 1) (h : OnSt P WF s f w) : Below WF.heap.size WF w := by
  match s, hs, h with
  | 0, _, h => rw [show w = WF from h]; exact Below.refl _ _
  | 1, _, h => exact h
set_option maxHeartbeats 1000000 in
set_option maxRecDepth 100000 in
theorem own_m {w : World} (P : World → Prop) (mv : Value) (o : Nat) (nm : ByteArray) (v : Vt) (fl : Int) (hs : nm.size ≤ 16777216)
    (HD : Veil (∀ W', Below w.heap.size w W' → Calls Tryz.prog 34 #[(.pointer (some ⟨o, 0, none⟩)), valV (7, 0, ⟨(uOf nm).toArray⟩), valV v, .int .i64 fl] W' fun e w' => e = .returned (.bool true) ∧ P w')) :
    Calls Tryz.prog 14 #[mv, (.pointer (some ⟨o, 0, none⟩)), .string nm, valV v, .int .i64 fl] w fun e w' => e = .returned (.tuple #[]) ∧ P w' := by
  have b1 := Box.new w 30 #[.int .i64 v.1, .int .i64 v.2.1, .string v.2.2]
  have bb : Below w.heap.size w (w.alloc (.cells #[.int .i64 v.1, .int .i64 v.2.1, .string v.2.2] 30)) := (Below.refl _ _).alloc (Nat.le_refl _) _
  obtain ⟨kb, hkb⟩ : ∃ kb, w.heap.size = kb := ⟨_, rfl⟩
  obtain ⟨W0, hW0⟩ : ∃ W0, w.alloc (.cells #[.int .i64 v.1, .int .i64 v.2.1, .string v.2.2] 30) = W0 := ⟨_, rfl⟩
  rw [hW0] at b1 bb
  have HW0 := Veil.mk (And.intro hW0 hkb)
  rw [hkb] at b1
  have HS := Veil.mk hs
  have HBB := Veil.mk (And.intro bb b1)
  clear hW0 hkb b1 bb hs
  go_enter Tryz.func14, Tryz.ntmps14
  go_upto_region 1 with (fail)
  rw [HW0.out.1, HW0.out.2]
  obtain ⟨WF, hWF⟩ : ∃ WF, W0.drew = WF := ⟨_, rfl⟩
  have HBF : Veil (Below w.heap.size w WF) := ⟨by rw [← hWF]; exact HBB.out.1.drew⟩
  have hbx : Box WF kb 30 #[.int .i64 v.1, .int .i64 v.2.1, .string v.2.2] := by rw [← hWF]; exact HBB.out.2.drew
  have HCC : Veil (∀ W, Below WF.heap.size WF W → W.cell? ⟨kb, 0, none⟩ = some (.int .i64 v.1) ∧ W.cell? ⟨kb, 1, none⟩ = some (.int .i64 v.2.1) ∧ W.cell? ⟨kb, 2, none⟩ = some (.string v.2.2)) := ⟨fun W hb => ⟨(hbx.below hb).at_ 0, (hbx.below hb).at_ 1, (hbx.below hb).at_ 2⟩⟩
  have HWF := Veil.mk hWF
  clear hWF hbx HBB
  refine wp_region_chain (some (· = (.pointer (some ⟨o, 0, none⟩))) :: some (· = .string nm) :: some (· = valV (7, 0, ⟨(uOf nm).toArray⟩)) :: some (· = valV v) :: some (· = .int .i64 fl) :: some (· = .bool true) :: [] : List (Option (Value → Prop))) (LPh [2, 5] (OnSt P WF)) [some 10, some 11, some 12, some 13, some 14, some 15] (curV' _ [some 10, some 11, some 12, some 13, some 14, some 15]) (by kernel_rfl) rfl rfl (puts_cur _ _) (LPh.start (show _ = WF from HWF.out)) ?_ (by kernel_rfl) ?_
  · refine Steps.cons rfl (fun bb aa w' hbs hb0 hbp hI K hK => ?_) ?_
    · obtain ⟨us, hus, ha, hI⟩ := hI
      obtain ⟨u0, u1, u2, u3, u4, u5, rfl⟩ := lenA6 hus
      have HI := Veil.mk hI
      clear hI
      rw [ha]
      simp only [puts, setAll, List.setIfInBounds_toArray, List.set_cons_zero, List.set_cons_succ]
      go_simp
      exact hK _ _ (chain_step HI.out hus hbs 0 _ (by show 0 < 6; decide) rfl hbp (val_of rfl rfl) (HI.out.ph.step 0 _ (by decide) (by decide)) (by simp only [puts, setAll, List.set_cons_zero, List.set_cons_succ, List.setIfInBounds_toArray]))
    refine Steps.cons rfl (fun bb aa w' hbs hb0 hbp hI K hK => ?_) ?_
    · obtain ⟨us, hus, ha, hI⟩ := hI
      obtain ⟨u0, u1, u2, u3, u4, u5, rfl⟩ := lenA6 hus
      have HI := Veil.mk hI
      clear hI
      rw [ha]
      simp only [puts, setAll, List.setIfInBounds_toArray, List.set_cons_zero, List.set_cons_succ]
      go_simp
      exact hK _ _ (chain_step HI.out hus hbs 1 _ (by show 1 < 6; decide) rfl hbp (val_of rfl rfl) (HI.out.ph.step 1 _ (by decide) (by decide)) (by simp only [puts, setAll, List.set_cons_zero, List.set_cons_succ, List.setIfInBounds_toArray]))
    refine Steps.cons rfl (fun bb aa w' hbs hb0 hbp hI K hK => ?_) ?_
    · obtain ⟨us, hus, ha, hI⟩ := hI
      obtain ⟨u0, u1, u2, u3, u4, u5, rfl⟩ := lenA6 hus
      have e1 : u1 = .string nm := hI.val 1 _ rfl (gen_after 1 (by kernel_rfl) hbp)
      subst e1
      have gb := hb0
      have hst := hI.ph.btw1 0 (.inl rfl) (.inr ⟨2, rfl, gb⟩)
      have hst' : WF = w' := (show w' = WF from hst).symm
      clear hst
      subst hst'
      clear gb
      have HI := Veil.mk hI
      clear hI
      rw [ha]
      simp only [puts, setAll, List.setIfInBounds_toArray, List.set_cons_zero, List.set_cons_succ]
      go_simp
      go_at_call 23
      refine (val_u nm HS.out _).mono ?_
      rintro e9 w9 ⟨rfl, hb9⟩
      go_simp
      exact hK _ _ (chain_step HI.out hus hbs 2 _ (by show 2 < 6; decide) rfl hbp (val_of rfl rfl) (HI.out.ph.next 0 2 _ rfl hb0 (.inl rfl) (by decide) (hb9)) (by simp only [puts, setAll, List.set_cons_zero, List.set_cons_succ, List.setIfInBounds_toArray]))
    refine Steps.cons rfl (fun bb aa w' hbs hb0 hbp hI K hK => ?_) ?_
    · obtain ⟨us, hus, ha, hI⟩ := hI
      obtain ⟨u0, u1, u2, u3, u4, u5, rfl⟩ := lenA6 hus
      have gb := (hI.bwd [3] 5 3 (by kernel_rfl) rfl hb0)
      obtain ⟨sg, hlo, hhi, hst⟩ := hI.ph.btw 0 1 (.inl rfl) (.inr ⟨5, rfl, gb⟩)
      obtain ⟨c0, c1, c2⟩ := HCC.out w' (OnSt.bel (by omega) hst)
      clear hst
      clear gb
      have HI := Veil.mk hI
      clear hI
      rw [ha]
      simp only [puts, setAll, List.setIfInBounds_toArray, List.set_cons_zero, List.set_cons_succ]
      go_simp
      exact hK _ _ (chain_step HI.out hus hbs 3 _ (by show 3 < 6; decide) rfl hbp (val_of rfl rfl) (HI.out.ph.step 3 _ (by decide) (by decide)) (by simp only [puts, setAll, List.set_cons_zero, List.set_cons_succ, List.setIfInBounds_toArray]))
    refine Steps.cons rfl (fun bb aa w' hbs hb0 hbp hI K hK => ?_) ?_
    · obtain ⟨us, hus, ha, hI⟩ := hI
      obtain ⟨u0, u1, u2, u3, u4, u5, rfl⟩ := lenA6 hus
      have HI := Veil.mk hI
      clear hI
      rw [ha]
      simp only [puts, setAll, List.setIfInBounds_toArray, List.set_cons_zero, List.set_cons_succ]
      go_simp
      exact hK _ _ (chain_step HI.out hus hbs 4 _ (by show 4 < 6; decide) rfl hbp (val_of rfl rfl) (HI.out.ph.step 4 _ (by decide) (by decide)) (by simp only [puts, setAll, List.set_cons_zero, List.set_cons_succ, List.setIfInBounds_toArray]))
    refine Steps.cons rfl (fun bb aa w' hbs hb0 hbp hI K hK => ?_) ?_
    · obtain ⟨us, hus, ha, hI⟩ := hI
      obtain ⟨u0, u1, u2, u3, u4, u5, rfl⟩ := lenA6 hus
      have e0 : u0 = (.pointer (some ⟨o, 0, none⟩)) := hI.val 0 _ rfl (gen_after 0 (by kernel_rfl) hbp)
      subst e0
      have e2 : u2 = valV (7, 0, ⟨(uOf nm).toArray⟩) := hI.val 2 _ rfl (gen_after 2 (by kernel_rfl) hbp)
      subst e2
      have e3 : u3 = valV v := hI.val 3 _ rfl (gen_after 3 (by kernel_rfl) hbp)
      subst e3
      have e4 : u4 = .int .i64 fl := hI.val 4 _ rfl (gen_after 4 (by kernel_rfl) hbp)
      subst e4
      have ga := (gen_after 2 (by kernel_rfl) hbp)
      have gb := hb0
      have hst := hI.ph.btw1 1 (.inr ⟨2, rfl, ga⟩) (.inr ⟨5, rfl, gb⟩)
      have HDX := Veil.mk (HD.out w' (HBF.out.trans ((show Below WF.heap.size WF w' from hst).mono HBF.out.size)))
      clear hst
      have HGA := Veil.mk ga
      clear ga gb
      have HI := Veil.mk hI
      clear hI
      rw [ha]
      simp only [puts, setAll, List.setIfInBounds_toArray, List.set_cons_zero, List.set_cons_succ]
      go_simp
      go_at_call 34
      refine HDX.out.mono ?_
      rintro e9 w9 ⟨rfl, hp9⟩
      go_simp
      exact hK _ _ (chain_step HI.out hus hbs 5 _ (by show 5 < 6; decide) rfl hbp (val_of rfl rfl) (HI.out.ph.next 1 5 _ rfl hb0 (.inr ⟨2, rfl, HGA.out⟩) (by decide) (hp9)) (by simp only [puts, setAll, List.set_cons_zero, List.set_cons_succ, List.setIfInBounds_toArray]))
    exact Steps.nil
  · intro us wE hus dd hD2 hJ
    obtain ⟨p0, p1, p2, p3, p4, p5, rfl⟩ := lenA6 hus
    have q1 := hJ.ph.all (fun c hc => hD2 c (by
      have : c = 2 ∨ c = 5 := by simpa using hc
      show c < 6
      omega))
    have e0 : p0 = (.pointer (some ⟨o, 0, none⟩)) := hJ.val 0 _ rfl (hD2 0 (by show 0 < 6; decide))
    subst e0
    have e1 : p1 = .string nm := hJ.val 1 _ rfl (hD2 1 (by show 1 < 6; decide))
    subst e1
    have e2 : p2 = valV (7, 0, ⟨(uOf nm).toArray⟩) := hJ.val 2 _ rfl (hD2 2 (by show 2 < 6; decide))
    subst e2
    have e3 : p3 = valV v := hJ.val 3 _ rfl (hD2 3 (by show 3 < 6; decide))
    subst e3
    have e4 : p4 = .int .i64 fl := hJ.val 4 _ rfl (hD2 4 (by show 4 < 6; decide))
    subst e4
    have e5 : p5 = .bool true := hJ.val 5 _ rfl (hD2 5 (by show 5 < 6; decide))
    subst e5
    clear hJ hD2
    have HQ := Veil.mk (show P wE from q1)
    clear q1
    simp only [puts, setAll, List.setIfInBounds_toArray, List.set_cons_zero, List.set_cons_succ]
    go_wp2
    go_end0
    exact ⟨rfl, HQ.out⟩
end Go.Proofs.YtgdkjkfbknbgkaaGreatDoor
