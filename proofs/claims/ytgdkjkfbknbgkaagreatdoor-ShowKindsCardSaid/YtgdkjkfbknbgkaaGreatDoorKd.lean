/- The machine: how it lies, what makes it. -/
import Derived.Test.YtgdkjkfbknbgkaaGreatDoorKa
import Derived.Test.YtgdkjkfbknbgkaaGreatDoorKb
import Derived.Maps.AppendAt
namespace Go.Proofs.YtgdkjkfbknbgkaaGreatDoor
open Go Go.RowKit

theorem len10 {α : Type} {us : List α} (h : us.length = 10) : ∃ a0 a1 a2 a3 a4 a5 a6 a7 a8 a9, us = [a0, a1, a2, a3, a4, a5, a6, a7, a8, a9] := by
  match us, h with
  | [a0, a1, a2, a3, a4, a5, a6, a7, a8, a9], _ => exact ⟨a0, a1, a2, a3, a4, a5, a6, a7, a8, a9, rfl⟩
theorem len7 {α : Type} {us : List α} (h : us.length = 7) : ∃ a0 a1 a2 a3 a4 a5 a6, us = [a0, a1, a2, a3, a4, a5, a6] := by
  match us, h with
  | [a0, a1, a2, a3, a4, a5, a6], _ => exact ⟨a0, a1, a2, a3, a4, a5, a6, rfl⟩
theorem CJ.back {l : List Oper} {ks : List (Option (Value → Prop))} {Ph : (Nat → Bool) → (Nat → Value) → World → Prop} {d : Nat → Bool} {us : Nat → Value} {w : World} (h : CJ l ks Ph d us w) (i j : Nat) {o : Oper} (ho : l[i]? = some o) (ha : (o.after.any fun e => Region.binds .any e && e.on == j) = true) (hi : d i = true) : d j = true := by
  cases hj : d j with
  | true => rfl
  | false => rw [h.before i j ho ha hj] at hi; cases hi
theorem LPh.le {cs : List Nat} {St : Nat → (Nat → Value) → World → Prop} {d : Nat → Bool} {us : Nat → Value} {w : World} (h : LPh cs St d us w) (j c : Nat) (hc : cs[j]? = some c) (hd : d c = false) : ∃ s, s ≤ j ∧ St s (fun j => us (cs.getD j 1000000)) w := by
  obtain ⟨s, h1, h2, h3⟩ := h
  refine ⟨s, ?_, h3⟩
  rcases Nat.lt_or_ge j s with hlt | hge
  · have := (h2 j c hc).2 hlt
    rw [hd] at this
    cases this
  · exact hge
set_option maxRecDepth 100000 in
theorem clone_nb (w : World) : Calls Tryz.prog 56 #[.slice none 0 0] w fun e w' => e = .returned (.slice none 0 0) ∧ w' = w := by
  have he : ∀ w : World, (binOp .eql 49 (.slice none 0 0) (.slice none 0 0)).run Tryz.prog w = .ok (.bool true) w := fun _ => rfl
  go_enter Tryz.func56, Tryz.ntmps56
  go_wp2
  go_ret
  exact ⟨rfl, rfl⟩
set_option maxRecDepth 100000 in
theorem new_x (w : World) : Calls Tryz.prog 91 #[] w fun e w' => e = .returned (.pointer (some ⟨w.heap.size, 0, none⟩)) ∧ w' = w.alloc (.cells #[.slice none 0 0, .slice none 0 0, .int .i64 0, .slice none 0 0] 155) := by
  go_enter Tryz.func91, Tryz.ntmps91
  go_wp2
  go_ret
  exact ⟨rfl, rfl⟩
set_option maxRecDepth 100000 in
theorem heap_newx (w : World) : Calls Tryz.prog 57 #[] w fun e w' => e = .returned (.pointer (some ⟨w.heap.size + 1, 0, none⟩)) ∧ Below w.heap.size w w' ∧ HpAt w' w.heap.size (w.heap.size + 1) w.heap.size (.slice none 0 0) (.slice none 0 0) (.slice none 0 0) emptyD ∧ w'.heap.size = w.heap.size + 2 := by
  have h0 := new_x w
  have h1 := new_any w
  have h2 : Calls Tryz.prog 91 #[] w fun e w' => e = .returned (.pointer (some ⟨w.heap.size, 0, none⟩)) ∧ Below w.heap.size w w' ∧ w'.heap.size = w.heap.size + 1 ∧ ArAt w' w.heap.size w.heap.size (.slice none 0 0) (.slice none 0 0) (.slice none 0 0) emptyD := by
    refine h0.mono ?_
    rintro e w' ⟨rfl, rfl⟩
    refine ⟨rfl, (Below.refl _ _).alloc (Nat.le_refl _) _, by simp, ⟨Box.new _ _ _, ⟨rfl, .inl ⟨rfl, rfl⟩⟩, ⟨rfl, .inl ⟨rfl, rfl⟩⟩, ⟨rfl, .inl ⟨rfl, rfl⟩⟩, fun k hk => (by cases hk), Nat.le_refl _⟩⟩
  have HN := Veil.mk h2
  obtain ⟨A, hA⟩ : ∃ A, w.heap.size = A := ⟨_, rfl⟩
  rw [hA] at HN ⊢
  clear h0 h1 h2
  have HA := Veil.mk hA
  clear hA
  go_enter Tryz.func57, Tryz.ntmps57
  go_wp2_with (first | (go_at_call 91; ((with_reducible refine HN.out.mono ?_); rintro e w4 ⟨rfl, hb4, hs4, ha4⟩)))
  have bx := Box.new w4 102 #[.pointer (some ⟨A, 0, none⟩), .int .i64 0]
  have b5 : Below w4.heap.size w4 (w4.alloc (.cells #[.pointer (some ⟨A, 0, none⟩), .int .i64 0] 102)) := (Below.refl _ _).alloc (Nat.le_refl _) _
  have hsz : (w4.alloc (.cells #[.pointer (some ⟨A, 0, none⟩), .int .i64 0] 102)).heap.size = A + 2 := by rw [World.size_alloc, hs4]
  rw [hs4] at bx
  go_ret
  exact ⟨rfl, hb4.trans (b5.mono (by omega)), ⟨bx, ha4.on b5, by omega⟩, hsz⟩
/-- A fresh machine's cells. -/
abbrev machC (hp hv : Value) : Array Value := #[hp, .int .i64 0, .int .i64 0, .int .i64 0, .int .i64 0, .int .i64 0, .int .i64 0, .int .i64 0, .int .i64 0, .int .i64 0, .int .i64 0, .int .i64 0, .int .i64 0, .int .i64 0, .int .i64 0, .int .i64 0, .int .i64 0, .int .i64 0, .int .i64 0, .int .i64 0, .int .i64 0, .int .i64 0, .int .i64 0, .int .i64 0, .int .i64 0, .string ⟨#[]⟩, hv, .int .i64 4194304, .int .i64 20, .int .i64 10000, .slice none 0 0, .bool false, .slice none 0 0, .int .i64 0, .slice none 0 0, .int .i64 0, .int .i64 0, .slice none 0 0, .slice none 0 0, .slice none 0 0, .slice none 0 0, .bool false, .int .i64 0, .slice none 0 0, .slice none 0 0, .slice none 0 0, .slice none 0 0, .map none]
def VnSt (sb : Nat) (WD : World) : Nat → (Nat → Value) → World → Prop
  | 0 => fun _ w => w = WD
  | 1 => fun _ w => w = WD.setCell ⟨sb, 0, none⟩ (.slice none 0 0)
  | _ => fun _ w => w = (WD.setCell ⟨sb, 0, none⟩ (.slice none 0 0)).setCell ⟨sb, 2, none⟩ (.slice none 0 0)
def VmSt (hv : Value) (WE : World) : Nat → (Nat → Value) → World → Prop
  | 0 => fun _ w => w = WE
  | 1 => fun _ w => Below WE.heap.size WE w ∧ HpAt w WE.heap.size (WE.heap.size + 1) WE.heap.size (.slice none 0 0) (.slice none 0 0) (.slice none 0 0) emptyD ∧ w.heap.size = WE.heap.size + 2
  | _ => fun _ w => Below WE.heap.size WE w ∧ HpAt w WE.heap.size (WE.heap.size + 1) WE.heap.size (.slice none 0 0) (.slice none 0 0) (.slice none 0 0) emptyD ∧ Box w (WE.heap.size + 2) 61 (machC (.pointer (some ⟨WE.heap.size + 1, 0, none⟩)) hv)
theorem VmSt.below {hv : Value} {WE w : World} {s : Nat} {f : Nat → Value} (hs : s ≤ 1) (hst : VmSt hv WE s f w) : Below WE.heap.size WE w := by
  match s, hs, hst with
  | 0, _, hst => rw [show w = WE from hst]; exact Below.refl _ _
  | 1, _, hst => exact hst.1
set_option maxHeartbeats 4000000 in
set_option maxRecDepth 100000 in
theorem vm_new (w : World) : Calls Tryz.prog 25 #[(Value.iface 85 (.agg #[])), .agg #[.int .i64 4194304, .int .i64 20, .int .i64 10000], .agg #[.slice none 0 0, .bool false, .slice none 0 0]] w fun e w' => ∃ h A m, e = .returned (.pointer (some ⟨m, 0, none⟩)) ∧ w.heap.size ≤ A ∧ A ≤ m ∧ HpAt w' A h A (.slice none 0 0) (.slice none 0 0) (.slice none 0 0) emptyD ∧ Box w' m 61 (machC (.pointer (some ⟨h, 0, none⟩)) (Value.iface 85 (.agg #[]))) ∧ Below w.heap.size w w' := by
  obtain ⟨kb, hkb⟩ : ∃ kb, w.heap.size = kb := ⟨_, rfl⟩
  obtain ⟨sb, hsb⟩ : ∃ sb, kb + 1 = sb := ⟨_, rfl⟩
  have b1 := (Box.new w 48 #[.int .i64 4194304, .int .i64 20, .int .i64 10000]).more (.cells #[.slice none 0 0, .bool false, .slice none 0 0] 51)
  have b2 := Box.new (w.alloc (.cells #[.int .i64 4194304, .int .i64 20, .int .i64 10000] 48)) 51 #[.slice none 0 0, .bool false, .slice none 0 0]
  have bb : Below w.heap.size w ((w.alloc (.cells #[.int .i64 4194304, .int .i64 20, .int .i64 10000] 48)).alloc (.cells #[.slice none 0 0, .bool false, .slice none 0 0] 51)) := ((Below.refl _ _).alloc (Nat.le_refl _) _).alloc (by simp) _
  rw [World.size_alloc] at b2
  obtain ⟨W0, hW0⟩ : ∃ W0, ((w.alloc (.cells #[.int .i64 4194304, .int .i64 20, .int .i64 10000] 48)).alloc (.cells #[.slice none 0 0, .bool false, .slice none 0 0] 51)) = W0 := ⟨_, rfl⟩
  rw [hW0] at b1 b2 bb
  have HW0 := Veil.mk (And.intro hW0 (And.intro hkb hsb))
  rw [hkb] at b1 b2
  rw [hsb] at b2
  have HCL := Veil.mk clone_nb
  have x0 : W0.cell? ⟨kb, 0, none⟩ = some (.int .i64 4194304) := b1.at_ 0
  have x1 : W0.cell? ⟨kb, 1, none⟩ = some (.int .i64 20) := b1.at_ 1
  have x2 : W0.cell? ⟨kb, 2, none⟩ = some (.int .i64 10000) := b1.at_ 2
  have f0 := b1.free 0
  have f1 := b1.free 1
  have f2 := b1.free 2
  have HB0 := Veil.mk (And.intro bb (And.intro b1 b2))
  clear b1 b2 bb hW0 hkb hsb
  go_enter Tryz.func25, Tryz.ntmps25
  go_upto_region 1 with (fail)
  rw [HW0.out.1, HW0.out.2.1, HW0.out.2.2]
  go_upto_region 4 with (fail)
  have HBX : Veil (Below w.heap.size w (((W0.setCell ⟨kb, 0, none⟩ (.int .i64 4194304)).setCell ⟨kb, 1, none⟩ (.int .i64 20)).setCell ⟨kb, 2, none⟩ (.int .i64 10000)) ∧ Box (((W0.setCell ⟨kb, 0, none⟩ (.int .i64 4194304)).setCell ⟨kb, 1, none⟩ (.int .i64 20)).setCell ⟨kb, 2, none⟩ (.int .i64 10000)) kb 48 #[.int .i64 4194304, .int .i64 20, .int .i64 10000] ∧ Box (((W0.setCell ⟨kb, 0, none⟩ (.int .i64 4194304)).setCell ⟨kb, 1, none⟩ (.int .i64 20)).setCell ⟨kb, 2, none⟩ (.int .i64 10000)) sb 51 #[.slice none 0 0, .bool false, .slice none 0 0]) := ⟨by
    obtain ⟨h1, h2, h3⟩ := HB0.out
    have hk := HW0.out.2.1
    have t3 : Touch (fun k => k = kb) W0 (((W0.setCell ⟨kb, 0, none⟩ (.int .i64 4194304)).setCell ⟨kb, 1, none⟩ (.int .i64 20)).setCell ⟨kb, 2, none⟩ (.int .i64 10000)) := ((Touch.put (S := fun k => k = kb) rfl _ _).trans (Touch.put (S := fun k => k = kb) rfl _ _)).trans (Touch.put (S := fun k => k = kb) rfl _ _)
    exact ⟨h1.trans (t3.below h1.size (fun k hk2 => by omega)), ((h2.put 0 (.int .i64 4194304)).put 1 (.int .i64 20)).put 2 (.int .i64 10000), h3.touch t3 (fun e => h3.lab.ne h2.lab (by decide) e)⟩⟩
  clear x0 x1 x2 f0 f1 f2 HB0
  generalize (((W0.setCell ⟨kb, 0, none⟩ (.int .i64 4194304)).setCell ⟨kb, 1, none⟩ (.int .i64 20)).setCell ⟨kb, 2, none⟩ (.int .i64 10000)) = W3 at HBX ⊢
  obtain ⟨WD, hWD⟩ : ∃ WD, W3.drew = WD := ⟨_, rfl⟩
  have HSB : Veil (Box WD sb 51 #[.slice none 0 0, .bool false, .slice none 0 0]) := ⟨by rw [← hWD]; exact HBX.out.2.2.drew⟩
  have HKB : Veil (Box WD kb 48 #[.int .i64 4194304, .int .i64 20, .int .i64 10000]) := ⟨by rw [← hWD]; exact HBX.out.2.1.drew⟩
  have HBD : Veil (Below w.heap.size w WD) := ⟨by rw [← hWD]; exact HBX.out.1.drew⟩
  have HWD := Veil.mk hWD
  clear hWD HBX
  refine wp_region_chain ([some (· = .pointer (some ⟨sb, 0, none⟩)), some (· = .slice none 0 0), some (· = .slice none 0 0), some (· = .pointer (some ⟨sb, 2, none⟩)), some (· = .slice none 0 0), some (· = .slice none 0 0), some (· = .pointer (some ⟨sb, 0, none⟩)), none, some (· = .pointer (some ⟨sb, 2, none⟩)), none] : List (Option (Value → Prop))) (LPh [7, 9] (VnSt sb WD)) [some 22, some 23, some 24, some 25, some 26, some 27, some 28, none, some 29, none] (curV' _ [some 22, some 23, some 24, some 25, some 26, some 27, some 28, none, some 29, none]) (by kernel_rfl) rfl rfl (puts_cur _ _) (LPh.start (show W3.drew = WD from HWD.out)) ?_ (by kernel_rfl) ?_
  · refine Steps.cons rfl (fun bb aa w' hbs hb0 hbp hI K hK => ?_) ?_
    · obtain ⟨us, hus, ha, hI⟩ := hI
      obtain ⟨u0, u1, u2, u3, u4, u5, u6, u7, u8, u9, rfl⟩ := len10 hus
      have HI := Veil.mk hI
      clear hI
      rw [ha]
      simp only [puts, setAll, List.setIfInBounds_toArray, List.set_cons_zero, List.set_cons_succ]
      go_simp
      exact hK _ _ (chain_step HI.out hus hbs 0 _ (by show 0 < 10; decide) rfl hbp (val_of rfl rfl) (HI.out.ph.step 0 _ (by decide) (by decide)) (by simp only [puts, setAll, List.set_cons_zero, List.set_cons_succ, List.setIfInBounds_toArray]))
    refine Steps.cons rfl (fun bb aa w' hbs hb0 hbp hI K hK => ?_) ?_
    · obtain ⟨us, hus, ha, hI⟩ := hI
      obtain ⟨u0, u1, u2, u3, u4, u5, u6, u7, u8, u9, rfl⟩ := len10 hus
      have e0 : u0 = .pointer (some ⟨sb, 0, none⟩) := hI.val 0 _ rfl (gen_after 0 (by kernel_rfl) hbp)
      subst e0
      have h2 := hI.before 2 1 rfl (by kernel_rfl) hb0
      have h7 := hI.before 7 2 rfl (by kernel_rfl) h2
      have hst := hI.ph.at_ 0 7 rfl h7 (.inl rfl)
      clear h7 h2
      have c0 : w'.cell? ⟨sb, 0, none⟩ = some (.slice none 0 0) := by rw [show w' = WD from hst]; exact HSB.out.at_ 0
      have HI := Veil.mk hI
      clear hI
      rw [ha]
      simp only [puts, setAll, List.setIfInBounds_toArray, List.set_cons_zero, List.set_cons_succ]
      go_simp
      exact hK _ _ (chain_step HI.out hus hbs 1 _ (by show 1 < 10; decide) rfl hbp (val_of rfl rfl) (HI.out.ph.step 1 _ (by decide) (by decide)) (by simp only [puts, setAll, List.set_cons_zero, List.set_cons_succ, List.setIfInBounds_toArray]))
    refine Steps.cons rfl (fun bb aa w' hbs hb0 hbp hI K hK => ?_) ?_
    · obtain ⟨us, hus, ha, hI⟩ := hI
      obtain ⟨u0, u1, u2, u3, u4, u5, u6, u7, u8, u9, rfl⟩ := len10 hus
      have e1 : u1 = .slice none 0 0 := hI.val 1 _ rfl (gen_after 1 (by kernel_rfl) hbp)
      subst e1
      have h7 := hI.before 7 2 rfl (by kernel_rfl) hb0
      have HI := Veil.mk hI
      clear hI h7
      rw [ha]
      simp only [puts, setAll, List.setIfInBounds_toArray, List.set_cons_zero, List.set_cons_succ]
      go_simp
      go_at_call 56
      refine (HCL.out _).mono ?_
      rintro e9 w9 ⟨rfl, h9⟩
      subst w9
      go_simp
      exact hK _ _ (chain_step HI.out hus hbs 2 _ (by show 2 < 10; decide) rfl hbp (val_of rfl rfl) (HI.out.ph.step 2 _ (by decide) (by decide)) (by simp only [puts, setAll, List.set_cons_zero, List.set_cons_succ, List.setIfInBounds_toArray]))
    refine Steps.cons rfl (fun bb aa w' hbs hb0 hbp hI K hK => ?_) ?_
    · obtain ⟨us, hus, ha, hI⟩ := hI
      obtain ⟨u0, u1, u2, u3, u4, u5, u6, u7, u8, u9, rfl⟩ := len10 hus
      have HI := Veil.mk hI
      clear hI
      rw [ha]
      simp only [puts, setAll, List.setIfInBounds_toArray, List.set_cons_zero, List.set_cons_succ]
      go_simp
      exact hK _ _ (chain_step HI.out hus hbs 3 _ (by show 3 < 10; decide) rfl hbp (val_of rfl rfl) (HI.out.ph.step 3 _ (by decide) (by decide)) (by simp only [puts, setAll, List.set_cons_zero, List.set_cons_succ, List.setIfInBounds_toArray]))
    refine Steps.cons rfl (fun bb aa w' hbs hb0 hbp hI K hK => ?_) ?_
    · obtain ⟨us, hus, ha, hI⟩ := hI
      obtain ⟨u0, u1, u2, u3, u4, u5, u6, u7, u8, u9, rfl⟩ := len10 hus
      have e3 : u3 = .pointer (some ⟨sb, 2, none⟩) := hI.val 3 _ rfl (gen_after 3 (by kernel_rfl) hbp)
      subst e3
      have h5 := hI.before 5 4 rfl (by kernel_rfl) hb0
      have h7 := hI.before 7 5 rfl (by kernel_rfl) h5
      have hst := hI.ph.at_ 0 7 rfl h7 (.inl rfl)
      clear h7 h5
      have c0 : w'.cell? ⟨sb, 2, none⟩ = some (.slice none 0 0) := by rw [show w' = WD from hst]; exact HSB.out.at_ 2
      have HI := Veil.mk hI
      clear hI
      rw [ha]
      simp only [puts, setAll, List.setIfInBounds_toArray, List.set_cons_zero, List.set_cons_succ]
      go_simp
      exact hK _ _ (chain_step HI.out hus hbs 4 _ (by show 4 < 10; decide) rfl hbp (val_of rfl rfl) (HI.out.ph.step 4 _ (by decide) (by decide)) (by simp only [puts, setAll, List.set_cons_zero, List.set_cons_succ, List.setIfInBounds_toArray]))
    refine Steps.cons rfl (fun bb aa w' hbs hb0 hbp hI K hK => ?_) ?_
    · obtain ⟨us, hus, ha, hI⟩ := hI
      obtain ⟨u0, u1, u2, u3, u4, u5, u6, u7, u8, u9, rfl⟩ := len10 hus
      have e4 : u4 = .slice none 0 0 := hI.val 4 _ rfl (gen_after 4 (by kernel_rfl) hbp)
      subst e4
      have h7 := hI.before 7 5 rfl (by kernel_rfl) hb0
      have HI := Veil.mk hI
      clear hI h7
      rw [ha]
      simp only [puts, setAll, List.setIfInBounds_toArray, List.set_cons_zero, List.set_cons_succ]
      go_simp
      go_at_call 56
      refine (HCL.out _).mono ?_
      rintro e9 w9 ⟨rfl, h9⟩
      subst w9
      go_simp
      exact hK _ _ (chain_step HI.out hus hbs 5 _ (by show 5 < 10; decide) rfl hbp (val_of rfl rfl) (HI.out.ph.step 5 _ (by decide) (by decide)) (by simp only [puts, setAll, List.set_cons_zero, List.set_cons_succ, List.setIfInBounds_toArray]))
    refine Steps.cons rfl (fun bb aa w' hbs hb0 hbp hI K hK => ?_) ?_
    · obtain ⟨us, hus, ha, hI⟩ := hI
      obtain ⟨u0, u1, u2, u3, u4, u5, u6, u7, u8, u9, rfl⟩ := len10 hus
      have HI := Veil.mk hI
      clear hI
      rw [ha]
      simp only [puts, setAll, List.setIfInBounds_toArray, List.set_cons_zero, List.set_cons_succ]
      go_simp
      exact hK _ _ (chain_step HI.out hus hbs 6 _ (by show 6 < 10; decide) rfl hbp (val_of rfl rfl) (HI.out.ph.step 6 _ (by decide) (by decide)) (by simp only [puts, setAll, List.set_cons_zero, List.set_cons_succ, List.setIfInBounds_toArray]))
    refine Steps.cons rfl (fun bb aa w' hbs hb0 hbp hI K hK => ?_) ?_
    · obtain ⟨us, hus, ha, hI⟩ := hI
      obtain ⟨u0, u1, u2, u3, u4, u5, u6, u7, u8, u9, rfl⟩ := len10 hus
      have e6 : u6 = .pointer (some ⟨sb, 0, none⟩) := hI.val 6 _ rfl (gen_after 6 (by kernel_rfl) hbp)
      subst e6
      have e2 : u2 = .slice none 0 0 := hI.val 2 _ rfl (gen_after 2 (by kernel_rfl) hbp)
      subst e2
      have hst := hI.ph.at_ 0 7 rfl hb0 (.inl rfl)
      have HST := Veil.mk (show w' = WD from hst)
      have hrb : Box w' sb 51 #[.slice none 0 0, .bool false, .slice none 0 0] := by rw [HST.out]; exact HSB.out
      have c0 : w'.cell? ⟨sb, 0, none⟩ = some (.slice none 0 0) := hrb.at_ 0
      have f0 := hrb.free 0
      clear hst hrb
      have HI := Veil.mk hI
      clear hI
      rw [ha]
      simp only [puts, setAll, List.setIfInBounds_toArray, List.set_cons_zero, List.set_cons_succ]
      go_simp
      exact hK _ _ (chain_step HI.out hus hbs 7 undef (by show 7 < 10; decide) rfl hbp (none_of rfl) (HI.out.ph.next 0 7 _ rfl hb0 (.inl rfl) (by decide) (show _ = WD.setCell ⟨sb, 0, none⟩ (.slice none 0 0) by rw [HST.out])) (by simp only [puts, setAll, List.set_cons_zero, List.set_cons_succ, List.setIfInBounds_toArray]))
    refine Steps.cons rfl (fun bb aa w' hbs hb0 hbp hI K hK => ?_) ?_
    · obtain ⟨us, hus, ha, hI⟩ := hI
      obtain ⟨u0, u1, u2, u3, u4, u5, u6, u7, u8, u9, rfl⟩ := len10 hus
      have HI := Veil.mk hI
      clear hI
      rw [ha]
      simp only [puts, setAll, List.setIfInBounds_toArray, List.set_cons_zero, List.set_cons_succ]
      go_simp
      exact hK _ _ (chain_step HI.out hus hbs 8 _ (by show 8 < 10; decide) rfl hbp (val_of rfl rfl) (HI.out.ph.step 8 _ (by decide) (by decide)) (by simp only [puts, setAll, List.set_cons_zero, List.set_cons_succ, List.setIfInBounds_toArray]))
    refine Steps.cons rfl (fun bb aa w' hbs hb0 hbp hI K hK => ?_) ?_
    · obtain ⟨us, hus, ha, hI⟩ := hI
      obtain ⟨u0, u1, u2, u3, u4, u5, u6, u7, u8, u9, rfl⟩ := len10 hus
      have e8 : u8 = .pointer (some ⟨sb, 2, none⟩) := hI.val 8 _ rfl (gen_after 8 (by kernel_rfl) hbp)
      subst e8
      have e5 : u5 = .slice none 0 0 := hI.val 5 _ rfl (gen_after 5 (by kernel_rfl) hbp)
      subst e5
      have hst := hI.ph.at_ 1 9 rfl hb0 (.inr ⟨7, rfl, gen_after 7 (by kernel_rfl) hbp⟩)
      have HST := Veil.mk (show w' = WD.setCell ⟨sb, 0, none⟩ (.slice none 0 0) from hst)
      have hrb : Box w' sb 51 #[.slice none 0 0, .bool false, .slice none 0 0] := by rw [HST.out]; exact HSB.out.put 0 (.slice none 0 0)
      have c0 : w'.cell? ⟨sb, 2, none⟩ = some (.slice none 0 0) := hrb.at_ 2
      have f0 := hrb.free 2
      clear hst hrb
      have HI := Veil.mk hI
      clear hI
      rw [ha]
      simp only [puts, setAll, List.setIfInBounds_toArray, List.set_cons_zero, List.set_cons_succ]
      go_simp
      exact hK _ _ (chain_step HI.out hus hbs 9 undef (by show 9 < 10; decide) rfl hbp (none_of rfl) (HI.out.ph.next 1 9 _ rfl hb0 (.inr ⟨7, rfl, gen_after 7 (by kernel_rfl) hbp⟩) (by decide) (show _ = (WD.setCell ⟨sb, 0, none⟩ (.slice none 0 0)).setCell ⟨sb, 2, none⟩ (.slice none 0 0) by rw [HST.out])) (by simp only [puts, setAll, List.set_cons_zero, List.set_cons_succ, List.setIfInBounds_toArray]))
    exact Steps.nil
  · intro us w9 hus dd hD2 hJ
    obtain ⟨p0, p1, p2, p3, p4, p5, p6, p7, p8, p9, rfl⟩ := len10 hus
    have q1 := hJ.ph.all (fun c hc => hD2 c (by
      have : c = 7 ∨ c = 9 := by simpa using hc
      show c < 10
      omega))
    replace q1 : w9 = (WD.setCell ⟨sb, 0, none⟩ (.slice none 0 0)).setCell ⟨sb, 2, none⟩ (.slice none 0 0) := q1
    have t2 : Touch (fun k => k = sb) WD w9 := by rw [q1]; exact (Touch.put (S := fun k => k = sb) rfl _ _).trans (Touch.put (S := fun k => k = sb) rfl _ _)
    have s9 : Box w9 sb 51 #[.slice none 0 0, .bool false, .slice none 0 0] := by rw [q1]; exact (HSB.out.put 0 (.slice none 0 0)).put 2 (.slice none 0 0)
    have k9 := HKB.out.touch t2 (fun e => HKB.out.lab.ne HSB.out.lab (by decide) e)
    have hsbw : w.heap.size ≤ sb := by have := HW0.out.2.1; have := HW0.out.2.2; omega
    have b9 : Below w.heap.size w w9 := HBD.out.trans (t2.below HBD.out.size (fun k hk => by rw [hk]; exact hsbw))
    obtain ⟨WE, hWE⟩ : ∃ WE, w9.drew = WE := ⟨_, rfl⟩
    have hbe : Below w9.heap.size w9 WE := by rw [← hWE]; exact (Below.refl _ _).drew
    have HBB : Veil (∀ W, Below WE.heap.size WE W → W.cell? ⟨kb, 0, none⟩ = some (.int .i64 4194304) ∧ W.cell? ⟨kb, 1, none⟩ = some (.int .i64 20) ∧ W.cell? ⟨kb, 2, none⟩ = some (.int .i64 10000)) := ⟨fun W hb => by
      have := (k9.below hbe).below hb
      exact ⟨this.at_ 0, this.at_ 1, this.at_ 2⟩⟩
    have HSS : Veil (∀ W, Below WE.heap.size WE W → W.cell? ⟨sb, 0, none⟩ = some (.slice none 0 0) ∧ W.cell? ⟨sb, 1, none⟩ = some (.bool false) ∧ W.cell? ⟨sb, 2, none⟩ = some (.slice none 0 0)) := ⟨fun W hb => by
      have := (s9.below hbe).below hb
      exact ⟨this.at_ 0, this.at_ 1, this.at_ 2⟩⟩
    have HBE : Veil (Below w.heap.size w WE) := ⟨blw2 b9 hbe⟩
    have HWE := Veil.mk hWE
    clear hJ hD2 q1 t2 s9 k9 hsbw b9 hbe hWE
    simp only [puts, setAll, List.set_cons_zero, List.set_cons_succ, List.setIfInBounds_toArray]
    go_upto_region 5 with (fail)
    refine wp_region_chain ([some (· = .pointer (some ⟨WE.heap.size + 1, 0, none⟩)), some (· = (Value.iface 85 (.agg #[]))), some (· = .agg #[.int .i64 4194304, .int .i64 20, .int .i64 10000]), some (· = .agg #[.slice none 0 0, .bool false, .slice none 0 0]), some (· = .agg (machC (.pointer (some ⟨WE.heap.size + 1, 0, none⟩)) (Value.iface 85 (.agg #[])))), some (· = .pointer (some ⟨WE.heap.size + 2, 0, none⟩)), some (· = .pointer (some ⟨WE.heap.size + 2, 0, none⟩))] : List (Option (Value → Prop))) (LPh [0, 5] (VmSt (Value.iface 85 (.agg #[])) WE)) [some 30, some 31, some 32, some 33, some 34, some 35, some 6] (curV' _ [some 30, some 31, some 32, some 33, some 34, some 35, some 6]) (by kernel_rfl) rfl rfl (puts_cur _ _) (LPh.start (show w9.drew = WE from HWE.out)) ?_ (by kernel_rfl) ?_
    · refine Steps.cons rfl (fun bb aa w' hbs hb0 hbp hI K hK => ?_) ?_
      · obtain ⟨us, hus, ha, hI⟩ := hI
        obtain ⟨u0, u1, u2, u3, u4, u5, u6, rfl⟩ := len7 hus
        have hst := hI.ph.at_ 0 0 rfl hb0 (.inl rfl)
        have HST := Veil.mk (show w' = WE from hst)
        have HNX := Veil.mk (heap_newx w')
        clear hst
        have HI := Veil.mk hI
        clear hI
        rw [ha]
        simp only [puts, setAll, List.setIfInBounds_toArray, List.set_cons_zero, List.set_cons_succ]
        go_simp
        go_at_call 57
        refine HNX.out.mono ?_
        rintro e9 w9 ⟨rfl, hb9, hp9, hs9⟩
        go_simp
        exact hK _ _ (chain_step HI.out hus hbs 0 (.pointer (some ⟨w'.heap.size + 1, 0, none⟩)) (by show 0 < 7; decide) rfl hbp (val_of rfl (by rw [HST.out])) (HI.out.ph.next 0 0 _ rfl hb0 (.inl rfl) (by decide) (show Below WE.heap.size WE w9 ∧ HpAt w9 WE.heap.size (WE.heap.size + 1) WE.heap.size (.slice none 0 0) (.slice none 0 0) (.slice none 0 0) emptyD ∧ w9.heap.size = WE.heap.size + 2 by rw [← HST.out]; exact ⟨hb9, hp9, hs9⟩)) (by simp only [puts, setAll, List.set_cons_zero, List.set_cons_succ, List.setIfInBounds_toArray]))
      refine Steps.cons rfl (fun bb aa w' hbs hb0 hbp hI K hK => ?_) ?_
      · obtain ⟨us, hus, ha, hI⟩ := hI
        obtain ⟨u0, u1, u2, u3, u4, u5, u6, rfl⟩ := len7 hus
        have HI := Veil.mk hI
        clear hI
        rw [ha]
        simp only [puts, setAll, List.setIfInBounds_toArray, List.set_cons_zero, List.set_cons_succ]
        go_simp
        exact hK _ _ (chain_step HI.out hus hbs 1 _ (by show 1 < 7; decide) rfl hbp (val_of rfl rfl) (HI.out.ph.step 1 _ (by decide) (by decide)) (by simp only [puts, setAll, List.set_cons_zero, List.set_cons_succ, List.setIfInBounds_toArray]))
      refine Steps.cons rfl (fun bb aa w' hbs hb0 hbp hI K hK => ?_) ?_
      · obtain ⟨us, hus, ha, hI⟩ := hI
        obtain ⟨u0, u1, u2, u3, u4, u5, u6, rfl⟩ := len7 hus
        have h4 := hI.before 4 2 rfl (by kernel_rfl) hb0
        have h5 := hI.before 5 4 rfl (by kernel_rfl) h4
        obtain ⟨sg, hsg, hstg⟩ := hI.ph.le 1 5 rfl h5
        have hbl := VmSt.below hsg hstg
        obtain ⟨c0, c1, c2⟩ := HBB.out w' hbl
        clear hstg hbl
        have HI := Veil.mk hI
        clear hI h5 h4
        rw [ha]
        simp only [puts, setAll, List.setIfInBounds_toArray, List.set_cons_zero, List.set_cons_succ]
        go_simp
        exact hK _ _ (chain_step HI.out hus hbs 2 _ (by show 2 < 7; decide) rfl hbp (val_of rfl rfl) (HI.out.ph.step 2 _ (by decide) (by decide)) (by simp only [puts, setAll, List.set_cons_zero, List.set_cons_succ, List.setIfInBounds_toArray]))
      refine Steps.cons rfl (fun bb aa w' hbs hb0 hbp hI K hK => ?_) ?_
      · obtain ⟨us, hus, ha, hI⟩ := hI
        obtain ⟨u0, u1, u2, u3, u4, u5, u6, rfl⟩ := len7 hus
        have h4 := hI.before 4 3 rfl (by kernel_rfl) hb0
        have h5 := hI.before 5 4 rfl (by kernel_rfl) h4
        obtain ⟨sg, hsg, hstg⟩ := hI.ph.le 1 5 rfl h5
        have hbl := VmSt.below hsg hstg
        obtain ⟨c0, c1, c2⟩ := HSS.out w' hbl
        clear hstg hbl
        have HI := Veil.mk hI
        clear hI h5 h4
        rw [ha]
        simp only [puts, setAll, List.setIfInBounds_toArray, List.set_cons_zero, List.set_cons_succ]
        go_simp
        exact hK _ _ (chain_step HI.out hus hbs 3 _ (by show 3 < 7; decide) rfl hbp (val_of rfl rfl) (HI.out.ph.step 3 _ (by decide) (by decide)) (by simp only [puts, setAll, List.set_cons_zero, List.set_cons_succ, List.setIfInBounds_toArray]))
      refine Steps.cons rfl (fun bb aa w' hbs hb0 hbp hI K hK => ?_) ?_
      · obtain ⟨us, hus, ha, hI⟩ := hI
        obtain ⟨u0, u1, u2, u3, u4, u5, u6, rfl⟩ := len7 hus
        have e0 : u0 = .pointer (some ⟨WE.heap.size + 1, 0, none⟩) := hI.val 0 _ rfl (gen_after 0 (by kernel_rfl) hbp)
        subst e0
        have e1 : u1 = (Value.iface 85 (.agg #[])) := hI.val 1 _ rfl (gen_after 1 (by kernel_rfl) hbp)
        subst e1
        have e2 : u2 = .agg #[.int .i64 4194304, .int .i64 20, .int .i64 10000] := hI.val 2 _ rfl (gen_after 2 (by kernel_rfl) hbp)
        subst e2
        have e3 : u3 = .agg #[.slice none 0 0, .bool false, .slice none 0 0] := hI.val 3 _ rfl (gen_after 3 (by kernel_rfl) hbp)
        subst e3
        have HI := Veil.mk hI
        clear hI
        rw [ha]
        simp only [puts, setAll, List.setIfInBounds_toArray, List.set_cons_zero, List.set_cons_succ]
        go_simp
        exact hK _ _ (chain_step HI.out hus hbs 4 _ (by show 4 < 7; decide) rfl hbp (val_of rfl rfl) (HI.out.ph.step 4 _ (by decide) (by decide)) (by simp only [puts, setAll, List.set_cons_zero, List.set_cons_succ, List.setIfInBounds_toArray]))
      refine Steps.cons rfl (fun bb aa w' hbs hb0 hbp hI K hK => ?_) ?_
      · obtain ⟨us, hus, ha, hI⟩ := hI
        obtain ⟨u0, u1, u2, u3, u4, u5, u6, rfl⟩ := len7 hus
        have e4 : u4 = .agg (machC (.pointer (some ⟨WE.heap.size + 1, 0, none⟩)) (Value.iface 85 (.agg #[]))) := hI.val 4 _ rfl (gen_after 4 (by kernel_rfl) hbp)
        subst e4
        have HB0 := hI.back 4 0 rfl (by kernel_rfl) (gen_after 4 (by kernel_rfl) hbp)
        have hst := hI.ph.at_ 1 5 rfl hb0 (.inr ⟨0, rfl, HB0⟩)
        have HST := Veil.mk (show Below WE.heap.size WE w' ∧ HpAt w' WE.heap.size (WE.heap.size + 1) WE.heap.size (.slice none 0 0) (.slice none 0 0) (.slice none 0 0) emptyD ∧ w'.heap.size = WE.heap.size + 2 from hst)
        have hal : Below w'.heap.size w' (w'.alloc (.cells (machC (.pointer (some ⟨WE.heap.size + 1, 0, none⟩)) (Value.iface 85 (.agg #[]))) 61)) := (Below.refl _ _).alloc (Nat.le_refl _) _
        have bxn := Box.new w' 61 (machC (.pointer (some ⟨WE.heap.size + 1, 0, none⟩)) (Value.iface 85 (.agg #[])))
        rw [HST.out.2.2] at bxn
        have HNX : Veil (Below WE.heap.size WE (w'.alloc (.cells (machC (.pointer (some ⟨WE.heap.size + 1, 0, none⟩)) (Value.iface 85 (.agg #[]))) 61)) ∧ HpAt (w'.alloc (.cells (machC (.pointer (some ⟨WE.heap.size + 1, 0, none⟩)) (Value.iface 85 (.agg #[]))) 61)) WE.heap.size (WE.heap.size + 1) WE.heap.size (.slice none 0 0) (.slice none 0 0) (.slice none 0 0) emptyD ∧ Box (w'.alloc (.cells (machC (.pointer (some ⟨WE.heap.size + 1, 0, none⟩)) (Value.iface 85 (.agg #[]))) 61)) (WE.heap.size + 2) 61 (machC (.pointer (some ⟨WE.heap.size + 1, 0, none⟩)) (Value.iface 85 (.agg #[])))) := ⟨HST.out.1.trans (hal.mono HST.out.1.size), ⟨HST.out.2.1.hb.below hal, HST.out.2.1.ar.on hal, HST.out.2.1.hB⟩, bxn⟩
        clear hst hal bxn
        have HI := Veil.mk hI
        clear hI
        rw [ha]
        simp only [puts, setAll, List.setIfInBounds_toArray, List.set_cons_zero, List.set_cons_succ]
        go_simp
        exact hK _ _ (chain_step HI.out hus hbs 5 (.pointer (some ⟨w'.heap.size, 0, none⟩)) (by show 5 < 7; decide) rfl hbp (val_of rfl (by rw [HST.out.2.2])) (HI.out.ph.next 1 5 _ rfl hb0 (.inr ⟨0, rfl, HB0⟩) (by decide) HNX.out) (by simp only [puts, setAll, List.set_cons_zero, List.set_cons_succ, List.setIfInBounds_toArray]))
      refine Steps.cons rfl (fun bb aa w' hbs hb0 hbp hI K hK => ?_) ?_
      · obtain ⟨us, hus, ha, hI⟩ := hI
        obtain ⟨u0, u1, u2, u3, u4, u5, u6, rfl⟩ := len7 hus
        have e5 : u5 = .pointer (some ⟨WE.heap.size + 2, 0, none⟩) := hI.val 5 _ rfl (gen_after 5 (by kernel_rfl) hbp)
        subst e5
        have HI := Veil.mk hI
        clear hI
        rw [ha]
        simp only [puts, setAll, List.setIfInBounds_toArray, List.set_cons_zero, List.set_cons_succ]
        go_simp
        exact hK _ _ (chain_step HI.out hus hbs 6 _ (by show 6 < 7; decide) rfl hbp (val_of rfl rfl) (HI.out.ph.step 6 _ (by decide) (by decide)) (by simp only [puts, setAll, List.set_cons_zero, List.set_cons_succ, List.setIfInBounds_toArray]))
      exact Steps.nil
    · intro us w7 hus dd hD2 hJ
      obtain ⟨r0, r1, r2, r3, r4, r5, r6, rfl⟩ := len7 hus
      have q1 := hJ.ph.all (fun c hc => hD2 c (by
        have : c = 0 ∨ c = 5 := by simpa using hc
        show c < 7
        omega))
      obtain ⟨g1, g2, g3⟩ := q1
      have e6 : r6 = .pointer (some ⟨WE.heap.size + 2, 0, none⟩) := hJ.val 6 _ rfl (hD2 6 (by show 6 < 7; decide))
      subst e6
      have HZ := Veil.mk (And.intro g1 (And.intro g2 g3))
      clear hJ hD2 g1 g2 g3
      simp only [puts, setAll, List.set_cons_zero, List.set_cons_succ, List.setIfInBounds_toArray]
      go_wp2
      go_ret
      exact ⟨_, _, _, rfl, HBE.out.size, (by omega), HZ.out.2.1, HZ.out.2.2, blw2 HBE.out HZ.out.1⟩
end Go.Proofs.YtgdkjkfbknbgkaaGreatDoor
namespace Go.Proofs.YtgdkjkfbknbgkaaGreatDoor
open Go Go.RowKit

abbrev hostV : Value := .iface 85 (.agg #[])
/-- A machine's cells: its prototypes are f 0 to f 20. -/
abbrev machV (hp : Value) (f : Nat → Int) (hv : Value) : Array Value := #[hp, .int .i64 (f 0), .int .i64 (f 1), .int .i64 (f 2), .int .i64 (f 3), .int .i64 (f 4), .int .i64 (f 5), .int .i64 (f 6), .int .i64 (f 7), .int .i64 (f 8), .int .i64 (f 9), .int .i64 (f 10), .int .i64 (f 11), .int .i64 (f 12), .int .i64 (f 13), .int .i64 (f 14), .int .i64 (f 15), .int .i64 (f 16), .int .i64 (f 17), .int .i64 (f 18), .int .i64 (f 19), .int .i64 (f 20), .int .i64 0, .int .i64 0, .int .i64 0, .string ⟨#[]⟩, hv, .int .i64 4194304, .int .i64 20, .int .i64 10000, .slice none 0 0, .bool false, .slice none 0 0, .int .i64 0, .slice none 0 0, .int .i64 0, .int .i64 0, .slice none 0 0, .slice none 0 0, .slice none 0 0, .slice none 0 0, .bool false, .int .i64 0, .slice none 0 0, .slice none 0 0, .slice none 0 0, .slice none 0 0, .map none]
theorem machV_0 (hp hv : Value) : machV hp (fun _ => 0) hv = machC hp hv := rfl
theorem machV_at (hp hv : Value) (f : Nat → Int) : ∀ k, k < 21 → (machV hp f hv)[1 + k]? = some (.int .i64 (f k))
  | 0, _ => rfl
  | 1, _ => rfl
  | 2, _ => rfl
  | 3, _ => rfl
  | 4, _ => rfl
  | 5, _ => rfl
  | 6, _ => rfl
  | 7, _ => rfl
  | 8, _ => rfl
  | 9, _ => rfl
  | 10, _ => rfl
  | 11, _ => rfl
  | 12, _ => rfl
  | 13, _ => rfl
  | 14, _ => rfl
  | 15, _ => rfl
  | 16, _ => rfl
  | 17, _ => rfl
  | 18, _ => rfl
  | 19, _ => rfl
  | 20, _ => rfl
  | k + 21, h => absurd h (by omega)
theorem machV_put (hp hv : Value) (f : Nat → Int) (x : Int) : ∀ k, k < 21 → (machV hp f hv).setIfInBounds (1 + k) (.int .i64 x) = machV hp (fun j => if j = k then x else f j) hv
  | 0, _ => rfl
  | 1, _ => rfl
  | 2, _ => rfl
  | 3, _ => rfl
  | 4, _ => rfl
  | 5, _ => rfl
  | 6, _ => rfl
  | 7, _ => rfl
  | 8, _ => rfl
  | 9, _ => rfl
  | 10, _ => rfl
  | 11, _ => rfl
  | 12, _ => rfl
  | 13, _ => rfl
  | 14, _ => rfl
  | 15, _ => rfl
  | 16, _ => rfl
  | 17, _ => rfl
  | 18, _ => rfl
  | 19, _ => rfl
  | 20, _ => rfl
  | k + 21, h => absurd h (by omega)
theorem lab_lt {w : World} {k : Nat} {t : TypeId} (h : Lab w k t) : k < w.heap.size := by
  obtain ⟨cs, fr, h⟩ := h
  exact lt_of_block h
/-- What stays: all blocks whose label is none of ts. -/
def Kp (ts : List TypeId) (w w' : World) : Prop := ∀ k t, Lab w k t → ts.contains t = false → w'.heap[k]? = w.heap[k]?
section
variable {ts : List TypeId} {w w1 w2 : World}
theorem Kp.refl : Kp ts w w := fun _ _ _ _ => rfl
theorem Kp.trans (h : Kp ts w w1) (h2 : Kp ts w1 w2) : Kp ts w w2 := fun k t hl ht => by
  have e := h k t hl ht
  obtain ⟨cs, fr, hb⟩ := hl
  exact (h2 k t ⟨cs, fr, e.trans hb⟩ ht).trans e
theorem Kp.of_below (h : Below w.heap.size w w1) : Kp ts w w1 := fun k t hl _ => by
  obtain ⟨cs, fr, hb⟩ := hl
  exact h.block k (lt_of_block hb)
theorem Kp.box (h : Kp ts w w1) {g : Nat} {t : TypeId} {cs : Array Value} (hb : Box w g t cs) (ht : ts.contains t = false) : Box w1 g t cs := (h g t hb.lab ht).trans hb
theorem Kp.put {g : Nat} {t : TypeId} (hb : Lab w g t) (ht : ts.contains t = true) (i : Nat) (u : Value) : Kp ts w (w.setCell ⟨g, i, none⟩ u) := fun k t2 hl h2 => Below.heap_setCell w ⟨g, i, none⟩ u k (fun e => by
  have e : k = g := e
  subst e
  by_cases c : t2 = t
  · subst c; rw [ht] at h2; cases h2
  · exact hl.ne hb c rfl)
theorem Kp.mono {ts2 : List TypeId} (h : Kp ts w w1) (hs : ∀ t, ts2.contains t = false → ts.contains t = false) : Kp ts2 w w1 := fun k t hl ht => h k t hl (hs t ht)
end
abbrev arT : List TypeId := [155, 137, 3]
/-- An object: its block and its cells. -/
abbrev OS := Nat × Array Value
/-- A machine whose heap has these objects, none freed. -/
structure MM (W : World) (h A m : Nat) (f : Nat → Int) (os : List OS) : Prop where
  hp : ∃ cv fv rv, HpAt W A h A cv fv rv ⟨os.map fun o => some (40, o.1), [], os.length, []⟩
  mb : Box W m 61 (machV (.pointer (some ⟨h, 0, none⟩)) f hostV)
  ob : ∀ o ∈ os, Box W o.1 99 o.2
  am : A ≤ m
  al : ∀ o ∈ os, A ≤ o.1
  nd : (os.map Prod.fst).Nodup
/-- The arena's own blocks, as the world has them. -/
def FO (W : World) (A k : Nat) : Prop := ∃ cv fv rv c, Box W A 155 #[cv, fv, c, rv] ∧ AFoot A cv fv rv k
theorem FO.of {W : World} {A B : Nat} {cv fv rv : Value} {d : AD} (h : ArAt W B A cv fv rv d) (k : Nat) : FO W A k ↔ AFoot A cv fv rv k := by
  constructor
  · rintro ⟨cv', fv', rv', c, hb, hk⟩
    have e := (show W.heap[A]? = _ from h.box).symm.trans hb
    injection e with e
    injection e with e
    have e := congrArg Array.toList e
    injection e with e1 e
    injection e with e2 e
    injection e with _ e
    injection e with e3 _
    subst e1 e2 e3
    exact hk
  · exact fun hk => ⟨cv, fv, rv, _, h.box, hk⟩
/-- What is not the arena's own stays; what is its own then was, or is new. -/
structure Kq (A : Nat) (W W' : World) : Prop where
  blk : ∀ k, k < W.heap.size → ¬ FO W A k → W'.heap[k]? = W.heap[k]?
  foot : ∀ k, FO W' A k → FO W A k ∨ W.heap.size ≤ k
  size : W.heap.size ≤ W'.heap.size
theorem Kq.trans {A : Nat} {W W1 W2 : World} (h : Kq A W W1) (h2 : Kq A W1 W2) : Kq A W W2 :=
  ⟨fun k hk hn => (h2.blk k (Nat.lt_of_lt_of_le hk h.size) (fun hf => (h.foot k hf).elim hn (fun h9 => by omega))).trans (h.blk k hk hn), fun k hk => (h2.foot k hk).elim (h.foot k) (fun h9 => .inr (Nat.le_trans h.size h9)), Nat.le_trans h.size h2.size⟩
theorem Kq.of_below {A : Nat} {W W1 : World} (hA : A < W.heap.size) (h : Below W.heap.size W W1) : Kq A W W1 :=
  ⟨fun k hk _ => h.block k hk, fun k hk => .inl (by
    obtain ⟨cv, fv, rv, c, hb, hk⟩ := hk
    exact ⟨cv, fv, rv, c, (h.block A hA).symm.trans hb, hk⟩), h.size⟩
theorem Kq.new {A g : Nat} {W W1 : World} (h : Kq A W W1) (hA : A < W.heap.size) (hg : W.heap.size ≤ g) (i : Nat) (u : Value) : Kq A W (W1.setCell ⟨g, i, none⟩ u) := by
  have hne : ∀ k, k < W.heap.size → (W1.setCell ⟨g, i, none⟩ u).heap[k]? = W1.heap[k]? := fun k hk => Below.heap_setCell W1 ⟨g, i, none⟩ u k (fun e => by have e : k = g := e; omega)
  refine ⟨fun k hk hn => (hne k hk).trans (h.blk k hk hn), fun k hk => h.foot k ?_, by simpa [World.setCell] using h.size⟩
  obtain ⟨cv, fv, rv, c, hb, hk⟩ := hk
  exact ⟨cv, fv, rv, c, (hne A hA).symm.trans hb, hk⟩
section
variable {W W' : World} {h A m : Nat} {f : Nat → Int} {os : List OS}
theorem MM.alt (H : MM W h A m f os) : A < W.heap.size := by
  obtain ⟨cv, fv, rv, hp⟩ := H.hp
  exact hp.ar.box.lt
theorem MM.on (H : MM W h A m f os) (hb : Below W.heap.size W W') : MM W' h A m f os := by
  obtain ⟨⟨cv, fv, rv, hp⟩, mb, ob, am, al, nd⟩ := H
  exact ⟨⟨cv, fv, rv, hp.hb.below hb, hp.ar.on hb, hp.hB⟩, mb.below hb, fun o ho => (ob o ho).below hb, am, al, nd⟩
/-- A new object. -/
theorem MM.make (H : MM W h A m f os) (cl proto : Int) (hl : os.length < 1000000) : Calls Tryz.prog 13 #[.pointer (some ⟨h, 0, none⟩), .int .i64 cl, .int .i64 proto] W fun e w' => e = .returned (.tuple #[.int .i64 ((os.length : Int) + 1), .pointer (some ⟨W.heap.size, 0, none⟩)]) ∧ MM w' h A m f (os ++ [(W.heap.size, obj0 cl proto)]) ∧ Below A W w' ∧ Kp arT W w' ∧ Kq A W w' := by
  obtain ⟨⟨cv, fv, rv, hp⟩, mb, ob, am, al, nd⟩ := H
  refine (heap_make hp cl proto rfl (by show os.length < _; omega) (by rw [List.length_map]; omega)).mono ?_
  rintro e w' ⟨he, hbo, ht, cv', fv', rv', hp', hF⟩
  rw [show (⟨os.map fun o => some (40, o.1), [], os.length, []⟩ : AD).cells.length = os.length from List.length_map ..] at he
  have keep : ∀ b (t : TypeId) cs, Box W b t cs → t ≠ 155 → t ≠ 137 → t ≠ 3 → Box w' b t cs := fun b t cs hx e1 e2 e3 => hx.touch ht (AFoot.lab hp.ar hx.lab e1 e2 e3)
  refine ⟨he, ⟨⟨cv', fv', rv', ?_⟩, keep _ _ _ mb (by decide) (by decide) (by decide), fun o ho => ?_, am, fun o ho => ?_, ?_⟩, ht.below (Nat.le_of_lt (Nat.lt_of_le_of_lt hp.ar.ha hp.ar.box.lt)) (fun k hk => (AFoot.lt hp.ar hk).1), fun k t hl ht2 => ht.block k (lab_lt hl) (AFoot.lab hp.ar hl (fun e => (by subst e; cases ht2)) (fun e => (by subst e; cases ht2)) (fun e => (by subst e; cases ht2))), ⟨fun k hk hn => ht.block k hk (fun h9 => hn ((FO.of hp.ar k).2 h9)), fun k hk => (hF k ((FO.of hp'.ar k).1 hk)).imp (FO.of hp.ar k).2 id, ht.size⟩⟩
  · rw [List.map_append, List.length_append]
    exact hp'
  · rcases List.mem_append.1 ho with h9 | h9
    · exact keep _ _ _ (ob o h9) (by decide) (by decide) (by decide)
    · rw [List.mem_singleton.1 h9]
      exact hbo
  · rcases List.mem_append.1 ho with h9 | h9
    · exact al o h9
    · rw [List.mem_singleton.1 h9]
      exact Nat.le_of_lt (Nat.lt_of_le_of_lt am mb.lt)
  · rw [List.map_append, List.nodup_append]
    refine ⟨nd, by simp, fun x hx y hy e => ?_⟩
    obtain ⟨o, ho, rfl⟩ := List.mem_map.1 hx
    have := (ob o ho).lt
    have : y = W.heap.size := by simpa using hy
    omega
/-- A prototype's cell is written. -/
theorem MM.proto (H : MM W h A m f os) (k : Nat) (hk : k < 21) (x : Int) : MM (W.setCell ⟨m, 1 + k, none⟩ (.int .i64 x)) h A m (fun j => if j = k then x else f j) os := by
  obtain ⟨⟨cv, fv, rv, hp⟩, mb, ob, am, al, nd⟩ := H
  have ht : Touch (fun b => b = m) W (W.setCell ⟨m, 1 + k, none⟩ (.int .i64 x)) := Touch.put (S := fun b => b = m) rfl _ _
  refine ⟨⟨cv, fv, rv, hp.hb.touch ht (fun e => hp.hb.lab.ne mb.lab (by decide) e), hp.ar.touch ht (fun b hb e => ?_), hp.hB⟩, ?_, fun o ho => (ob o ho).touch ht (fun e => (ob o ho).lab.ne mb.lab (by decide) e), am, al, nd⟩
  · subst e
    exact AFoot.lab hp.ar mb.lab (by decide) (by decide) (by decide) hb
  · have := mb.put (1 + k) (.int .i64 x)
    rw [machV_put _ _ _ _ k hk] at this
    exact this
theorem MM.obj (H : MM W h A m f os) (i : Nat) (o : OS) (ho : os[i]? = some o) : Calls Tryz.prog 26 #[.pointer (some ⟨h, 0, none⟩), .int .i64 ((i : Int) + 1)] W fun e w' => e = .returned (.pointer (some ⟨o.1, 0, none⟩)) ∧ w' = W := by
  obtain ⟨⟨cv, fv, rv, hp⟩, mb, ob, am, al, nd⟩ := H
  refine obj_some hp _ o.1 ?_
  have hi : i < os.length := (List.getElem?_eq_some_iff.1 ho).1
  unfold AD.get
  rw [if_pos ⟨by omega, by show (i : Int) + 1 ≤ ((os.map _).length : Nat); rw [List.length_map]; omega⟩, show ((i : Int) + 1 - 1).toNat = i by omega]
  show (os.map _)[i]?.getD none = _
  rw [List.getElem?_map, ho]
  rfl
end
def prF (i : Nat) : Nat → Int := fun k => if k < i then (k : Int) + 1 else 0
theorem prF_next (i : Nat) : (fun j => if j = i then ((i : Int) + 1) else prF i j) = prF (i + 1) := by
  funext j
  unfold prF
  by_cases e : j = i
  · subst e
    rw [if_pos rfl, if_pos (by omega)]
  · rw [if_neg e]
    by_cases h : j < i
    · rw [if_pos h, if_pos (by omega)]
    · rw [if_neg h, if_neg (by omega)]
/-- The prototypes' objects. -/
def McSt (h A m i : Nat) (os : List OS) (WD : World) : Nat → (Nat → Value) → World → Prop
  | 0 => fun _ w => w = WD
  | 1 => fun _ w => MM w h A m (prF i) (os ++ [(WD.heap.size, obj0 0 0)]) ∧ Below A WD w
  | _ => fun _ w => MM w h A m (prF (i + 1)) (os ++ [(WD.heap.size, obj0 0 0)]) ∧ Below A WD w
structure PrL (w W : World) (h A m i : Nat) (os : List OS) : Prop where
  mm : MM W h A m (prF i) os
  len : os.length = i
  pl : ∀ o ∈ os, o.2 = obj0 0 0
  bel : Below w.heap.size w W
  lo : w.heap.size ≤ A
theorem PrL.next {w WD W : World} {h A m i : Nat} {os : List OS} (H : PrL w WD h A m i os) (hm : MM W h A m (prF (i + 1)) (os ++ [(WD.heap.size, obj0 0 0)])) (hb : Below A WD W) : PrL w W h A m (i + 1) (os ++ [(WD.heap.size, obj0 0 0)]) := by
  refine ⟨hm, by rw [List.length_append, H.len]; rfl, fun o ho => ?_, H.bel.trans (hb.mono H.lo), H.lo⟩
  rcases List.mem_append.1 ho with h9 | h9
  · exact H.pl o h9
  · rw [List.mem_singleton.1 h9]
set_option maxHeartbeats 4000000 in
set_option maxRecDepth 100000 in
theorem machine_any (w : World) : Calls Tryz.prog 9 #[] w fun e w' => ∃ h A m os, e = .returned (.pointer (some ⟨m, 0, none⟩)) ∧ PrL w w' h A m 21 os := by
  have HVN := Veil.mk (vm_new w)
  go_enter Tryz.func9, Tryz.ntmps9
  go_upto_region 2 with (go_at_call 25; ((with_reducible refine HVN.out.mono ?_); rintro e w1 ⟨h, A, m, rfl, hA, hm, hp1, hx1, hb1⟩))
  have H0 : Veil (PrL w w1 h A m 0 []) := ⟨⟨⟨⟨_, _, _, hp1⟩, by rw [show prF 0 = fun _ => 0 from (by funext k; unfold prF; rw [if_neg (by omega)]), machV_0]; exact hx1, fun o ho => (by cases ho), hm, fun o ho => (by cases ho), by simp⟩, rfl, fun o ho => (by cases ho), hb1, hA⟩⟩
  have c0 : w1.cell? ⟨m, 0, none⟩ = some (.pointer (some ⟨h, 0, none⟩)) := hx1.at_ 0
  clear hp1 hb1 hA hm hx1 HVN
  go_wp2
  clear c0
  go_loopw [17] (fun i wr => ∃ (k : Nat) (os : List OS), k ≤ 21 ∧ i = .int .i64 (k : Int) ∧ PrL w wr h A m k os) (fun i _ => 21 - (intOf i).toNat)
  case atStart => exact ⟨0, [], by omega, rfl, H0.out⟩
  case round =>
    clear H0
    obtain ⟨i, os, hi, rfl, hpl⟩ := hrel
    have hi0 : (0 : Int) ≤ (i : Int) := by omega
    by_cases hlt : i < 21
    · have hlt' : (i : Int) < 21 := by omega
      have hpl2 := Veil.mk hpl
      clear hpl hi
      go_upto_region 7 with (fail)
      obtain ⟨WD, hWD⟩ : ∃ WD, wr.drew = WD := ⟨_, rfl⟩
      have HPD : Veil (PrL w WD h A m i os) := ⟨by rw [← hWD]; exact ⟨hpl2.out.mm.on (Below.refl _ _).drew, hpl2.out.len, hpl2.out.pl, blw2 hpl2.out.bel (Below.refl _ _).drew, hpl2.out.lo⟩⟩
      have HMA : Veil (Calls Tryz.prog 13 #[.pointer (some ⟨h, 0, none⟩), .int .i64 0, .int .i64 0] WD fun e w' => e = .returned (.tuple #[.int .i64 ((i : Int) + 1), .pointer (some ⟨WD.heap.size, 0, none⟩)]) ∧ MM w' h A m (prF i) (os ++ [(WD.heap.size, obj0 0 0)]) ∧ Below A WD w') := ⟨by
        refine (HPD.out.mm.make 0 0 (by rw [HPD.out.len]; omega)).mono ?_
        rintro e w' ⟨he, h1, h2, -⟩
        rw [HPD.out.len] at he
        exact ⟨he, h1, h2⟩⟩
      have HWD := Veil.mk hWD
      clear hWD hpl2
      refine wp_region_chain (some (· = .pointer (some ⟨m, 0, none⟩)) :: some (· = .int .i64 (i : Int)) :: some (· = .pointer (some ⟨m, 0, none⟩)) :: some (· = .pointer (some ⟨m, 0, none⟩)) :: some (· = .pointer (some ⟨m, 0, none⟩)) :: some (· = .pointer (some ⟨h, 0, none⟩)) :: some (· = (.tuple #[.int .i64 ((i : Int) + 1), .pointer (some ⟨WD.heap.size, 0, none⟩)])) :: some (· = (.tuple #[.int .i64 ((i : Int) + 1), .pointer (some ⟨WD.heap.size, 0, none⟩)])) :: some (· = .int .i64 ((i : Int) + 1)) :: some (· = .pointer (some ⟨WD.heap.size, 0, none⟩)) :: some (· = .pointer (some ⟨m, 0, none⟩)) :: some (· = .pointer (some ⟨m, 1, none⟩)) :: some (· = .pointer (some ⟨m, 1 + i, none⟩)) :: none :: [] : List (Option (Value → Prop))) (LPh [6, 13] (McSt h A m i os WD)) [some 21, some 22, some 23, some 24, some 25, some 26, some 27, some 20, some 28, some 29, some 30, some 31, some 32, none] (curV' _ [some 21, some 22, some 23, some 24, some 25, some 26, some 27, some 20, some 28, some 29, some 30, some 31, some 32, none]) (by kernel_rfl) rfl rfl (puts_cur _ _) (LPh.start (show wr.drew = WD from HWD.out)) ?_ (by kernel_rfl) ?_
      · refine Steps.cons rfl (fun bb aa w' hbs hb0 hbp hI K hK => ?_) ?_
        · obtain ⟨us, hus, ha, hI⟩ := hI
          obtain ⟨u0, u1, u2, u3, u4, u5, u6, u7, u8, u9, u10, u11, u12, u13, rfl⟩ := lenA14 hus
          have HI := Veil.mk hI
          clear hI
          rw [ha]
          simp only [puts, setAll, List.setIfInBounds_toArray, List.set_cons_zero, List.set_cons_succ]
          go_simp
          exact hK _ _ (chain_step HI.out hus hbs 0 _ (by show 0 < 14; decide) rfl hbp (val_of rfl rfl) (HI.out.ph.step 0 _ (by decide) (by decide)) (by simp only [puts, setAll, List.set_cons_zero, List.set_cons_succ, List.setIfInBounds_toArray]))
        refine Steps.cons rfl (fun bb aa w' hbs hb0 hbp hI K hK => ?_) ?_
        · obtain ⟨us, hus, ha, hI⟩ := hI
          obtain ⟨u0, u1, u2, u3, u4, u5, u6, u7, u8, u9, u10, u11, u12, u13, rfl⟩ := lenA14 hus
          have HI := Veil.mk hI
          clear hI
          rw [ha]
          simp only [puts, setAll, List.setIfInBounds_toArray, List.set_cons_zero, List.set_cons_succ]
          go_simp
          exact hK _ _ (chain_step HI.out hus hbs 1 _ (by show 1 < 14; decide) rfl hbp (val_of rfl rfl) (HI.out.ph.step 1 _ (by decide) (by decide)) (by simp only [puts, setAll, List.set_cons_zero, List.set_cons_succ, List.setIfInBounds_toArray]))
        refine Steps.cons rfl (fun bb aa w' hbs hb0 hbp hI K hK => ?_) ?_
        · obtain ⟨us, hus, ha, hI⟩ := hI
          obtain ⟨u0, u1, u2, u3, u4, u5, u6, u7, u8, u9, u10, u11, u12, u13, rfl⟩ := lenA14 hus
          have HI := Veil.mk hI
          clear hI
          rw [ha]
          simp only [puts, setAll, List.setIfInBounds_toArray, List.set_cons_zero, List.set_cons_succ]
          go_simp
          exact hK _ _ (chain_step HI.out hus hbs 2 _ (by show 2 < 14; decide) rfl hbp (val_of rfl rfl) (HI.out.ph.step 2 _ (by decide) (by decide)) (by simp only [puts, setAll, List.set_cons_zero, List.set_cons_succ, List.setIfInBounds_toArray]))
        refine Steps.cons rfl (fun bb aa w' hbs hb0 hbp hI K hK => ?_) ?_
        · obtain ⟨us, hus, ha, hI⟩ := hI
          obtain ⟨u0, u1, u2, u3, u4, u5, u6, u7, u8, u9, u10, u11, u12, u13, rfl⟩ := lenA14 hus
          have e2 : u2 = .pointer (some ⟨m, 0, none⟩) := hI.val 2 _ rfl (gen_after 2 (by kernel_rfl) hbp)
          subst e2
          have HI := Veil.mk hI
          clear hI
          rw [ha]
          simp only [puts, setAll, List.setIfInBounds_toArray, List.set_cons_zero, List.set_cons_succ]
          go_simp
          exact hK _ _ (chain_step HI.out hus hbs 3 _ (by show 3 < 14; decide) rfl hbp (val_of rfl rfl) (HI.out.ph.step 3 _ (by decide) (by decide)) (by simp only [puts, setAll, List.set_cons_zero, List.set_cons_succ, List.setIfInBounds_toArray]))
        refine Steps.cons rfl (fun bb aa w' hbs hb0 hbp hI K hK => ?_) ?_
        · obtain ⟨us, hus, ha, hI⟩ := hI
          obtain ⟨u0, u1, u2, u3, u4, u5, u6, u7, u8, u9, u10, u11, u12, u13, rfl⟩ := lenA14 hus
          have e3 : u3 = .pointer (some ⟨m, 0, none⟩) := hI.val 3 _ rfl (gen_after 3 (by kernel_rfl) hbp)
          subst e3
          have HI := Veil.mk hI
          clear hI
          rw [ha]
          simp only [puts, setAll, List.setIfInBounds_toArray, List.set_cons_zero, List.set_cons_succ]
          go_simp
          exact hK _ _ (chain_step HI.out hus hbs 4 _ (by show 4 < 14; decide) rfl hbp (val_of rfl rfl) (HI.out.ph.step 4 _ (by decide) (by decide)) (by simp only [puts, setAll, List.set_cons_zero, List.set_cons_succ, List.setIfInBounds_toArray]))
        refine Steps.cons rfl (fun bb aa w' hbs hb0 hbp hI K hK => ?_) ?_
        · obtain ⟨us, hus, ha, hI⟩ := hI
          obtain ⟨u0, u1, u2, u3, u4, u5, u6, u7, u8, u9, u10, u11, u12, u13, rfl⟩ := lenA14 hus
          have e4 : u4 = .pointer (some ⟨m, 0, none⟩) := hI.val 4 _ rfl (gen_after 4 (by kernel_rfl) hbp)
          subst e4
          have gb := (hI.bwd [5] 6 5 (by kernel_rfl) rfl hb0)
          have hst := hI.ph.btw1 0 (.inl rfl) (.inr ⟨6, rfl, gb⟩)
          have hst' : WD = w' := (show w' = WD from hst).symm
          clear hst
          subst hst'
          have c0 : WD.cell? ⟨m, 0, none⟩ = some (.pointer (some ⟨h, 0, none⟩)) := HPD.out.mm.mb.at_ 0
          clear gb
          have HI := Veil.mk hI
          clear hI
          rw [ha]
          simp only [puts, setAll, List.setIfInBounds_toArray, List.set_cons_zero, List.set_cons_succ]
          go_simp
          exact hK _ _ (chain_step HI.out hus hbs 5 _ (by show 5 < 14; decide) rfl hbp (val_of rfl rfl) (HI.out.ph.step 5 _ (by decide) (by decide)) (by simp only [puts, setAll, List.set_cons_zero, List.set_cons_succ, List.setIfInBounds_toArray]))
        refine Steps.cons rfl (fun bb aa w' hbs hb0 hbp hI K hK => ?_) ?_
        · obtain ⟨us, hus, ha, hI⟩ := hI
          obtain ⟨u0, u1, u2, u3, u4, u5, u6, u7, u8, u9, u10, u11, u12, u13, rfl⟩ := lenA14 hus
          have e5 : u5 = .pointer (some ⟨h, 0, none⟩) := hI.val 5 _ rfl (gen_after 5 (by kernel_rfl) hbp)
          subst e5
          have gb := hb0
          have hst := hI.ph.btw1 0 (.inl rfl) (.inr ⟨6, rfl, gb⟩)
          have hst' : WD = w' := (show w' = WD from hst).symm
          clear hst
          subst hst'
          clear gb
          have HI := Veil.mk hI
          clear hI
          rw [ha]
          simp only [puts, setAll, List.setIfInBounds_toArray, List.set_cons_zero, List.set_cons_succ]
          go_simp
          go_at_call 13
          refine HMA.out.mono ?_
          rintro e9 w9 ⟨rfl, hm9⟩
          go_simp
          exact hK _ _ (chain_step HI.out hus hbs 6 _ (by show 6 < 14; decide) rfl hbp (val_of rfl rfl) (HI.out.ph.next 0 6 _ rfl hb0 (.inl rfl) (by decide) (hm9)) (by simp only [puts, setAll, List.set_cons_zero, List.set_cons_succ, List.setIfInBounds_toArray]))
        refine Steps.cons rfl (fun bb aa w' hbs hb0 hbp hI K hK => ?_) ?_
        · obtain ⟨us, hus, ha, hI⟩ := hI
          obtain ⟨u0, u1, u2, u3, u4, u5, u6, u7, u8, u9, u10, u11, u12, u13, rfl⟩ := lenA14 hus
          have e6 : u6 = (.tuple #[.int .i64 ((i : Int) + 1), .pointer (some ⟨WD.heap.size, 0, none⟩)]) := hI.val 6 _ rfl (gen_after 6 (by kernel_rfl) hbp)
          subst e6
          have HI := Veil.mk hI
          clear hI
          rw [ha]
          simp only [puts, setAll, List.setIfInBounds_toArray, List.set_cons_zero, List.set_cons_succ]
          go_simp
          exact hK _ _ (chain_step HI.out hus hbs 7 _ (by show 7 < 14; decide) rfl hbp (val_of rfl rfl) (HI.out.ph.step 7 _ (by decide) (by decide)) (by simp only [puts, setAll, List.set_cons_zero, List.set_cons_succ, List.setIfInBounds_toArray]))
        refine Steps.cons rfl (fun bb aa w' hbs hb0 hbp hI K hK => ?_) ?_
        · obtain ⟨us, hus, ha, hI⟩ := hI
          obtain ⟨u0, u1, u2, u3, u4, u5, u6, u7, u8, u9, u10, u11, u12, u13, rfl⟩ := lenA14 hus
          have e7 : u7 = (.tuple #[.int .i64 ((i : Int) + 1), .pointer (some ⟨WD.heap.size, 0, none⟩)]) := hI.val 7 _ rfl (gen_after 7 (by kernel_rfl) hbp)
          subst e7
          have HI := Veil.mk hI
          clear hI
          rw [ha]
          simp only [puts, setAll, List.setIfInBounds_toArray, List.set_cons_zero, List.set_cons_succ]
          go_simp
          exact hK _ _ (chain_step HI.out hus hbs 8 _ (by show 8 < 14; decide) rfl hbp (val_of rfl rfl) (HI.out.ph.step 8 _ (by decide) (by decide)) (by simp only [puts, setAll, List.set_cons_zero, List.set_cons_succ, List.setIfInBounds_toArray]))
        refine Steps.cons rfl (fun bb aa w' hbs hb0 hbp hI K hK => ?_) ?_
        · obtain ⟨us, hus, ha, hI⟩ := hI
          obtain ⟨u0, u1, u2, u3, u4, u5, u6, u7, u8, u9, u10, u11, u12, u13, rfl⟩ := lenA14 hus
          have e7 : u7 = (.tuple #[.int .i64 ((i : Int) + 1), .pointer (some ⟨WD.heap.size, 0, none⟩)]) := hI.val 7 _ rfl (gen_after 7 (by kernel_rfl) hbp)
          subst e7
          have HI := Veil.mk hI
          clear hI
          rw [ha]
          simp only [puts, setAll, List.setIfInBounds_toArray, List.set_cons_zero, List.set_cons_succ]
          go_simp
          exact hK _ _ (chain_step HI.out hus hbs 9 _ (by show 9 < 14; decide) rfl hbp (val_of rfl rfl) (HI.out.ph.step 9 _ (by decide) (by decide)) (by simp only [puts, setAll, List.set_cons_zero, List.set_cons_succ, List.setIfInBounds_toArray]))
        refine Steps.cons rfl (fun bb aa w' hbs hb0 hbp hI K hK => ?_) ?_
        · obtain ⟨us, hus, ha, hI⟩ := hI
          obtain ⟨u0, u1, u2, u3, u4, u5, u6, u7, u8, u9, u10, u11, u12, u13, rfl⟩ := lenA14 hus
          have e0 : u0 = .pointer (some ⟨m, 0, none⟩) := hI.val 0 _ rfl (gen_after 0 (by kernel_rfl) hbp)
          subst e0
          have HI := Veil.mk hI
          clear hI
          rw [ha]
          simp only [puts, setAll, List.setIfInBounds_toArray, List.set_cons_zero, List.set_cons_succ]
          go_simp
          exact hK _ _ (chain_step HI.out hus hbs 10 _ (by show 10 < 14; decide) rfl hbp (val_of rfl rfl) (HI.out.ph.step 10 _ (by decide) (by decide)) (by simp only [puts, setAll, List.set_cons_zero, List.set_cons_succ, List.setIfInBounds_toArray]))
        refine Steps.cons rfl (fun bb aa w' hbs hb0 hbp hI K hK => ?_) ?_
        · obtain ⟨us, hus, ha, hI⟩ := hI
          obtain ⟨u0, u1, u2, u3, u4, u5, u6, u7, u8, u9, u10, u11, u12, u13, rfl⟩ := lenA14 hus
          have e10 : u10 = .pointer (some ⟨m, 0, none⟩) := hI.val 10 _ rfl (gen_after 10 (by kernel_rfl) hbp)
          subst e10
          have HI := Veil.mk hI
          clear hI
          rw [ha]
          simp only [puts, setAll, List.setIfInBounds_toArray, List.set_cons_zero, List.set_cons_succ]
          go_simp
          exact hK _ _ (chain_step HI.out hus hbs 11 _ (by show 11 < 14; decide) rfl hbp (val_of rfl rfl) (HI.out.ph.step 11 _ (by decide) (by decide)) (by simp only [puts, setAll, List.set_cons_zero, List.set_cons_succ, List.setIfInBounds_toArray]))
        refine Steps.cons rfl (fun bb aa w' hbs hb0 hbp hI K hK => ?_) ?_
        · obtain ⟨us, hus, ha, hI⟩ := hI
          obtain ⟨u0, u1, u2, u3, u4, u5, u6, u7, u8, u9, u10, u11, u12, u13, rfl⟩ := lenA14 hus
          have e11 : u11 = .pointer (some ⟨m, 1, none⟩) := hI.val 11 _ rfl (gen_after 11 (by kernel_rfl) hbp)
          subst e11
          have e1 : u1 = .int .i64 (i : Int) := hI.val 1 _ rfl (gen_after 1 (by kernel_rfl) hbp)
          subst e1
          have ga := (gen_after 6 (by kernel_rfl) hbp)
          have gb := (hI.bwd [12] 13 12 (by kernel_rfl) rfl hb0)
          have hst := hI.ph.btw1 1 (.inr ⟨6, rfl, ga⟩) (.inr ⟨13, rfl, gb⟩)
          clear hst
          have hix : ((1 : Nat) + i) = 1 + i := rfl
          clear ga gb
          have HI := Veil.mk hI
          clear hI
          rw [ha]
          simp only [puts, setAll, List.setIfInBounds_toArray, List.set_cons_zero, List.set_cons_succ]
          go_simp
          exact hK _ _ (chain_step HI.out hus hbs 12 _ (by show 12 < 14; decide) rfl hbp (val_of rfl rfl) (HI.out.ph.step 12 _ (by decide) (by decide)) (by simp only [puts, setAll, List.set_cons_zero, List.set_cons_succ, List.setIfInBounds_toArray]))
        refine Steps.cons rfl (fun bb aa w' hbs hb0 hbp hI K hK => ?_) ?_
        · obtain ⟨us, hus, ha, hI⟩ := hI
          obtain ⟨u0, u1, u2, u3, u4, u5, u6, u7, u8, u9, u10, u11, u12, u13, rfl⟩ := lenA14 hus
          have e12 : u12 = .pointer (some ⟨m, 1 + i, none⟩) := hI.val 12 _ rfl (gen_after 12 (by kernel_rfl) hbp)
          subst e12
          have e8 : u8 = .int .i64 ((i : Int) + 1) := hI.val 8 _ rfl (gen_after 8 (by kernel_rfl) hbp)
          subst e8
          have ga := (gen_after 6 (by kernel_rfl) hbp)
          have gb := hb0
          have hst := hI.ph.btw1 1 (.inr ⟨6, rfl, ga⟩) (.inr ⟨13, rfl, gb⟩)
          have HSW := Veil.mk (show MM w' h A m (prF i) (os ++ [(WD.heap.size, obj0 0 0)]) ∧ Below A WD w' from hst)
          have c0 : w'.cell? ⟨m, 1 + i, none⟩ = some (.int .i64 (prF i i)) := by rw [HSW.out.1.mb.at_ (1 + i)]; exact machV_at _ _ _ i hlt
          have f0 := HSW.out.1.mb.free (1 + i)
          clear hst
          have HGA := Veil.mk ga
          clear ga gb
          have HI := Veil.mk hI
          clear hI
          rw [ha]
          simp only [puts, setAll, List.setIfInBounds_toArray, List.set_cons_zero, List.set_cons_succ]
          go_simp
          exact hK _ _ (chain_step HI.out hus hbs 13 undef (by show 13 < 14; decide) rfl hbp (none_of rfl) (HI.out.ph.next 1 13 _ rfl hb0 (.inr ⟨6, rfl, HGA.out⟩) (by decide) (by show MM _ h A m (prF (i + 1)) _ ∧ _; rw [← prF_next i]; exact ⟨HSW.out.1.proto i hlt _, HSW.out.2.trans ((Touch.put (S := fun b => b = m) rfl _ _).below (by have := HSW.out.2.size; have := HPD.out.mm.mb.lt; have := HPD.out.mm.am; omega) (fun k hk => by rw [hk]; exact HPD.out.mm.am))⟩)) (by simp only [puts, setAll, List.set_cons_zero, List.set_cons_succ, List.setIfInBounds_toArray]))
        exact Steps.nil
      · intro us wE hus dd hD2 hJ
        obtain ⟨p0, p1, p2, p3, p4, p5, p6, p7, p8, p9, p10, p11, p12, p13, rfl⟩ := lenA14 hus
        have q1 := hJ.ph.all (fun c hc => hD2 c (by
          have : c = 6 ∨ c = 13 := by simpa using hc
          show c < 14
          omega))
        have e0 : p0 = .pointer (some ⟨m, 0, none⟩) := hJ.val 0 _ rfl (hD2 0 (by show 0 < 14; decide))
        subst e0
        have e1 : p1 = .int .i64 (i : Int) := hJ.val 1 _ rfl (hD2 1 (by show 1 < 14; decide))
        subst e1
        have e2 : p2 = .pointer (some ⟨m, 0, none⟩) := hJ.val 2 _ rfl (hD2 2 (by show 2 < 14; decide))
        subst e2
        have e3 : p3 = .pointer (some ⟨m, 0, none⟩) := hJ.val 3 _ rfl (hD2 3 (by show 3 < 14; decide))
        subst e3
        have e4 : p4 = .pointer (some ⟨m, 0, none⟩) := hJ.val 4 _ rfl (hD2 4 (by show 4 < 14; decide))
        subst e4
        have e5 : p5 = .pointer (some ⟨h, 0, none⟩) := hJ.val 5 _ rfl (hD2 5 (by show 5 < 14; decide))
        subst e5
        have e6 : p6 = (.tuple #[.int .i64 ((i : Int) + 1), .pointer (some ⟨WD.heap.size, 0, none⟩)]) := hJ.val 6 _ rfl (hD2 6 (by show 6 < 14; decide))
        subst e6
        have e7 : p7 = (.tuple #[.int .i64 ((i : Int) + 1), .pointer (some ⟨WD.heap.size, 0, none⟩)]) := hJ.val 7 _ rfl (hD2 7 (by show 7 < 14; decide))
        subst e7
        have e8 : p8 = .int .i64 ((i : Int) + 1) := hJ.val 8 _ rfl (hD2 8 (by show 8 < 14; decide))
        subst e8
        have e9 : p9 = .pointer (some ⟨WD.heap.size, 0, none⟩) := hJ.val 9 _ rfl (hD2 9 (by show 9 < 14; decide))
        subst e9
        have e10 : p10 = .pointer (some ⟨m, 0, none⟩) := hJ.val 10 _ rfl (hD2 10 (by show 10 < 14; decide))
        subst e10
        have e11 : p11 = .pointer (some ⟨m, 1, none⟩) := hJ.val 11 _ rfl (hD2 11 (by show 11 < 14; decide))
        subst e11
        have e12 : p12 = .pointer (some ⟨m, 1 + i, none⟩) := hJ.val 12 _ rfl (hD2 12 (by show 12 < 14; decide))
        subst e12
        clear hJ hD2
        have HQ := Veil.mk (show MM wE h A m (prF (i + 1)) (os ++ [(WD.heap.size, obj0 0 0)]) ∧ Below A WD wE from q1)
        clear q1
        simp only [puts, setAll, List.setIfInBounds_toArray, List.set_cons_zero, List.set_cons_succ]
        have HE0 : wE.cell? ⟨m, 0, none⟩ = some (.pointer (some ⟨h, 0, none⟩)) := HQ.out.1.mb.at_ 0
        have HE1 : wE.cell? ⟨m, 1 + i, none⟩ = some (.int .i64 ((i : Int) + 1)) := by rw [HQ.out.1.mb.at_ (1 + i), machV_at _ _ _ i hlt]; unfold prF; rw [if_pos (by omega)]
        have HOB := Veil.mk (fun W (hW : Below wE.heap.size wE W) => (HQ.out.1.on hW).obj i (WD.heap.size, obj0 0 0) (by rw [List.getElem?_append_right (by rw [HPD.out.len]; omega), HPD.out.len]; simp))
        obtain ⟨WF, hWF⟩ : ∃ WF, wE.drew = WF := ⟨_, rfl⟩
        have HE0 : WF.cell? ⟨m, 0, none⟩ = some (.pointer (some ⟨h, 0, none⟩)) := by rw [← hWF]; exact HE0
        have HE1 : WF.cell? ⟨m, 1 + i, none⟩ = some (.int .i64 ((i : Int) + 1)) := by rw [← hWF]; exact HE1
        have HO := HOB.out WF (by rw [← hWF]; exact (Below.refl _ _).drew)
        have HO := Veil.mk HO
        have HX : Veil (MM WF h A m (prF (i + 1)) (os ++ [(WD.heap.size, obj0 0 0)]) ∧ Below A WD WF) := ⟨by rw [← hWF]; exact ⟨HQ.out.1.on (Below.refl _ _).drew, HQ.out.2.drew⟩⟩
        have HWF := Veil.mk hWF
        clear hWF HQ HOB HMA
        go_upto_region 8 with (fail)
        have HC8 := Veil.mk (And.intro HE0 HE1)
        clear HE0 HE1
        refine wp_region_chain (some (· = .pointer (some ⟨m, 0, none⟩)) :: some (· = .pointer (some ⟨m, 0, none⟩)) :: some (· = .pointer (some ⟨m, 0, none⟩)) :: some (· = .pointer (some ⟨h, 0, none⟩)) :: some (· = .pointer (some ⟨m, 0, none⟩)) :: some (· = .int .i64 (i : Int)) :: some (· = .pointer (some ⟨m, 0, none⟩)) :: some (· = .pointer (some ⟨m, 1, none⟩)) :: some (· = .pointer (some ⟨m, 1 + i, none⟩)) :: some (· = .int .i64 ((i : Int) + 1)) :: some (· = .pointer (some ⟨WD.heap.size, 0, none⟩)) :: some (· = .bool false) :: [] : List (Option (Value → Prop))) (LPh [] (fun _ _ w => w = WF)) [some 33, some 34, some 35, some 36, some 37, some 38, some 39, some 40, some 41, some 42, some 43, some 44] (curV' _ [some 33, some 34, some 35, some 36, some 37, some 38, some 39, some 40, some 41, some 42, some 43, some 44]) (by kernel_rfl) rfl rfl (puts_cur _ _) (LPh.start (show wE.drew = WF from HWF.out)) ?_ (by kernel_rfl) ?_
        · refine Steps.cons rfl (fun bb aa w' hbs hb0 hbp hI K hK => ?_) ?_
          · obtain ⟨us, hus, ha, hI⟩ := hI
            obtain ⟨u0, u1, u2, u3, u4, u5, u6, u7, u8, u9, u10, u11, rfl⟩ := lenA12 hus
            have HI := Veil.mk hI
            clear hI
            rw [ha]
            simp only [puts, setAll, List.setIfInBounds_toArray, List.set_cons_zero, List.set_cons_succ]
            go_simp
            exact hK _ _ (chain_step HI.out hus hbs 0 _ (by show 0 < 12; decide) rfl hbp (val_of rfl rfl) (HI.out.ph.step 0 _ (by decide) (by decide)) (by simp only [puts, setAll, List.set_cons_zero, List.set_cons_succ, List.setIfInBounds_toArray]))
          refine Steps.cons rfl (fun bb aa w' hbs hb0 hbp hI K hK => ?_) ?_
          · obtain ⟨us, hus, ha, hI⟩ := hI
            obtain ⟨u0, u1, u2, u3, u4, u5, u6, u7, u8, u9, u10, u11, rfl⟩ := lenA12 hus
            have e0 : u0 = .pointer (some ⟨m, 0, none⟩) := hI.val 0 _ rfl (gen_after 0 (by kernel_rfl) hbp)
            subst e0
            have HI := Veil.mk hI
            clear hI
            rw [ha]
            simp only [puts, setAll, List.setIfInBounds_toArray, List.set_cons_zero, List.set_cons_succ]
            go_simp
            exact hK _ _ (chain_step HI.out hus hbs 1 _ (by show 1 < 12; decide) rfl hbp (val_of rfl rfl) (HI.out.ph.step 1 _ (by decide) (by decide)) (by simp only [puts, setAll, List.set_cons_zero, List.set_cons_succ, List.setIfInBounds_toArray]))
          refine Steps.cons rfl (fun bb aa w' hbs hb0 hbp hI K hK => ?_) ?_
          · obtain ⟨us, hus, ha, hI⟩ := hI
            obtain ⟨u0, u1, u2, u3, u4, u5, u6, u7, u8, u9, u10, u11, rfl⟩ := lenA12 hus
            have e1 : u1 = .pointer (some ⟨m, 0, none⟩) := hI.val 1 _ rfl (gen_after 1 (by kernel_rfl) hbp)
            subst e1
            have HI := Veil.mk hI
            clear hI
            rw [ha]
            simp only [puts, setAll, List.setIfInBounds_toArray, List.set_cons_zero, List.set_cons_succ]
            go_simp
            exact hK _ _ (chain_step HI.out hus hbs 2 _ (by show 2 < 12; decide) rfl hbp (val_of rfl rfl) (HI.out.ph.step 2 _ (by decide) (by decide)) (by simp only [puts, setAll, List.set_cons_zero, List.set_cons_succ, List.setIfInBounds_toArray]))
          refine Steps.cons rfl (fun bb aa w' hbs hb0 hbp hI K hK => ?_) ?_
          · obtain ⟨us, hus, ha, hI⟩ := hI
            obtain ⟨u0, u1, u2, u3, u4, u5, u6, u7, u8, u9, u10, u11, rfl⟩ := lenA12 hus
            have e2 : u2 = .pointer (some ⟨m, 0, none⟩) := hI.val 2 _ rfl (gen_after 2 (by kernel_rfl) hbp)
            subst e2
            have hst := hI.ph.btw1 0 (.inl rfl) (.inl rfl)
            have hst' : WF = w' := (show w' = WF from hst).symm
            clear hst
            subst hst'
            have c0 := HC8.out.1
            have HI := Veil.mk hI
            clear hI
            rw [ha]
            simp only [puts, setAll, List.setIfInBounds_toArray, List.set_cons_zero, List.set_cons_succ]
            go_simp
            exact hK _ _ (chain_step HI.out hus hbs 3 _ (by show 3 < 12; decide) rfl hbp (val_of rfl rfl) (HI.out.ph.step 3 _ (by decide) (by decide)) (by simp only [puts, setAll, List.set_cons_zero, List.set_cons_succ, List.setIfInBounds_toArray]))
          refine Steps.cons rfl (fun bb aa w' hbs hb0 hbp hI K hK => ?_) ?_
          · obtain ⟨us, hus, ha, hI⟩ := hI
            obtain ⟨u0, u1, u2, u3, u4, u5, u6, u7, u8, u9, u10, u11, rfl⟩ := lenA12 hus
            have HI := Veil.mk hI
            clear hI
            rw [ha]
            simp only [puts, setAll, List.setIfInBounds_toArray, List.set_cons_zero, List.set_cons_succ]
            go_simp
            exact hK _ _ (chain_step HI.out hus hbs 4 _ (by show 4 < 12; decide) rfl hbp (val_of rfl rfl) (HI.out.ph.step 4 _ (by decide) (by decide)) (by simp only [puts, setAll, List.set_cons_zero, List.set_cons_succ, List.setIfInBounds_toArray]))
          refine Steps.cons rfl (fun bb aa w' hbs hb0 hbp hI K hK => ?_) ?_
          · obtain ⟨us, hus, ha, hI⟩ := hI
            obtain ⟨u0, u1, u2, u3, u4, u5, u6, u7, u8, u9, u10, u11, rfl⟩ := lenA12 hus
            have HI := Veil.mk hI
            clear hI
            rw [ha]
            simp only [puts, setAll, List.setIfInBounds_toArray, List.set_cons_zero, List.set_cons_succ]
            go_simp
            exact hK _ _ (chain_step HI.out hus hbs 5 _ (by show 5 < 12; decide) rfl hbp (val_of rfl rfl) (HI.out.ph.step 5 _ (by decide) (by decide)) (by simp only [puts, setAll, List.set_cons_zero, List.set_cons_succ, List.setIfInBounds_toArray]))
          refine Steps.cons rfl (fun bb aa w' hbs hb0 hbp hI K hK => ?_) ?_
          · obtain ⟨us, hus, ha, hI⟩ := hI
            obtain ⟨u0, u1, u2, u3, u4, u5, u6, u7, u8, u9, u10, u11, rfl⟩ := lenA12 hus
            have e4 : u4 = .pointer (some ⟨m, 0, none⟩) := hI.val 4 _ rfl (gen_after 4 (by kernel_rfl) hbp)
            subst e4
            have HI := Veil.mk hI
            clear hI
            rw [ha]
            simp only [puts, setAll, List.setIfInBounds_toArray, List.set_cons_zero, List.set_cons_succ]
            go_simp
            exact hK _ _ (chain_step HI.out hus hbs 6 _ (by show 6 < 12; decide) rfl hbp (val_of rfl rfl) (HI.out.ph.step 6 _ (by decide) (by decide)) (by simp only [puts, setAll, List.set_cons_zero, List.set_cons_succ, List.setIfInBounds_toArray]))
          refine Steps.cons rfl (fun bb aa w' hbs hb0 hbp hI K hK => ?_) ?_
          · obtain ⟨us, hus, ha, hI⟩ := hI
            obtain ⟨u0, u1, u2, u3, u4, u5, u6, u7, u8, u9, u10, u11, rfl⟩ := lenA12 hus
            have e6 : u6 = .pointer (some ⟨m, 0, none⟩) := hI.val 6 _ rfl (gen_after 6 (by kernel_rfl) hbp)
            subst e6
            have HI := Veil.mk hI
            clear hI
            rw [ha]
            simp only [puts, setAll, List.setIfInBounds_toArray, List.set_cons_zero, List.set_cons_succ]
            go_simp
            exact hK _ _ (chain_step HI.out hus hbs 7 _ (by show 7 < 12; decide) rfl hbp (val_of rfl rfl) (HI.out.ph.step 7 _ (by decide) (by decide)) (by simp only [puts, setAll, List.set_cons_zero, List.set_cons_succ, List.setIfInBounds_toArray]))
          refine Steps.cons rfl (fun bb aa w' hbs hb0 hbp hI K hK => ?_) ?_
          · obtain ⟨us, hus, ha, hI⟩ := hI
            obtain ⟨u0, u1, u2, u3, u4, u5, u6, u7, u8, u9, u10, u11, rfl⟩ := lenA12 hus
            have e7 : u7 = .pointer (some ⟨m, 1, none⟩) := hI.val 7 _ rfl (gen_after 7 (by kernel_rfl) hbp)
            subst e7
            have e5 : u5 = .int .i64 (i : Int) := hI.val 5 _ rfl (gen_after 5 (by kernel_rfl) hbp)
            subst e5
            have HI := Veil.mk hI
            clear hI
            rw [ha]
            simp only [puts, setAll, List.setIfInBounds_toArray, List.set_cons_zero, List.set_cons_succ]
            go_simp
            exact hK _ _ (chain_step HI.out hus hbs 8 _ (by show 8 < 12; decide) rfl hbp (val_of rfl rfl) (HI.out.ph.step 8 _ (by decide) (by decide)) (by simp only [puts, setAll, List.set_cons_zero, List.set_cons_succ, List.setIfInBounds_toArray]))
          refine Steps.cons rfl (fun bb aa w' hbs hb0 hbp hI K hK => ?_) ?_
          · obtain ⟨us, hus, ha, hI⟩ := hI
            obtain ⟨u0, u1, u2, u3, u4, u5, u6, u7, u8, u9, u10, u11, rfl⟩ := lenA12 hus
            have e8 : u8 = .pointer (some ⟨m, 1 + i, none⟩) := hI.val 8 _ rfl (gen_after 8 (by kernel_rfl) hbp)
            subst e8
            have hst := hI.ph.btw1 0 (.inl rfl) (.inl rfl)
            have hst' : WF = w' := (show w' = WF from hst).symm
            clear hst
            subst hst'
            have c0 := HC8.out.2
            have HI := Veil.mk hI
            clear hI
            rw [ha]
            simp only [puts, setAll, List.setIfInBounds_toArray, List.set_cons_zero, List.set_cons_succ]
            go_simp
            exact hK _ _ (chain_step HI.out hus hbs 9 _ (by show 9 < 12; decide) rfl hbp (val_of rfl rfl) (HI.out.ph.step 9 _ (by decide) (by decide)) (by simp only [puts, setAll, List.set_cons_zero, List.set_cons_succ, List.setIfInBounds_toArray]))
          refine Steps.cons rfl (fun bb aa w' hbs hb0 hbp hI K hK => ?_) ?_
          · obtain ⟨us, hus, ha, hI⟩ := hI
            obtain ⟨u0, u1, u2, u3, u4, u5, u6, u7, u8, u9, u10, u11, rfl⟩ := lenA12 hus
            have e3 : u3 = .pointer (some ⟨h, 0, none⟩) := hI.val 3 _ rfl (gen_after 3 (by kernel_rfl) hbp)
            subst e3
            have e9 : u9 = .int .i64 ((i : Int) + 1) := hI.val 9 _ rfl (gen_after 9 (by kernel_rfl) hbp)
            subst e9
            have hst := hI.ph.btw1 0 (.inl rfl) (.inl rfl)
            have hst' : WF = w' := (show w' = WF from hst).symm
            clear hst
            subst hst'
            have HI := Veil.mk hI
            clear hI
            rw [ha]
            simp only [puts, setAll, List.setIfInBounds_toArray, List.set_cons_zero, List.set_cons_succ]
            go_simp
            go_at_call 26
            refine HO.out.mono ?_
            rintro e9 w9 ⟨rfl, h9⟩
            subst w9
            go_simp
            exact hK _ _ (chain_step HI.out hus hbs 10 _ (by show 10 < 12; decide) rfl hbp (val_of rfl rfl) (HI.out.ph.step 10 _ (by decide) (by decide)) (by simp only [puts, setAll, List.set_cons_zero, List.set_cons_succ, List.setIfInBounds_toArray]))
          refine Steps.cons rfl (fun bb aa w' hbs hb0 hbp hI K hK => ?_) ?_
          · obtain ⟨us, hus, ha, hI⟩ := hI
            obtain ⟨u0, u1, u2, u3, u4, u5, u6, u7, u8, u9, u10, u11, rfl⟩ := lenA12 hus
            have e10 : u10 = .pointer (some ⟨WD.heap.size, 0, none⟩) := hI.val 10 _ rfl (gen_after 10 (by kernel_rfl) hbp)
            subst e10
            have HI := Veil.mk hI
            clear hI
            rw [ha]
            simp only [puts, setAll, List.setIfInBounds_toArray, List.set_cons_zero, List.set_cons_succ]
            go_simp
            exact hK _ _ (chain_step HI.out hus hbs 11 _ (by show 11 < 12; decide) rfl hbp (val_of rfl rfl) (HI.out.ph.step 11 _ (by decide) (by decide)) (by simp only [puts, setAll, List.set_cons_zero, List.set_cons_succ, List.setIfInBounds_toArray]))
          exact Steps.nil
        · intro us wE hus dd hD2 hJ
          obtain ⟨p0, p1, p2, p3, p4, p5, p6, p7, p8, p9, p10, p11, rfl⟩ := lenA12 hus
          have q1 := hJ.ph.all (fun c hc => by cases hc)
          have e0 : p0 = .pointer (some ⟨m, 0, none⟩) := hJ.val 0 _ rfl (hD2 0 (by show 0 < 12; decide))
          subst e0
          have e1 : p1 = .pointer (some ⟨m, 0, none⟩) := hJ.val 1 _ rfl (hD2 1 (by show 1 < 12; decide))
          subst e1
          have e2 : p2 = .pointer (some ⟨m, 0, none⟩) := hJ.val 2 _ rfl (hD2 2 (by show 2 < 12; decide))
          subst e2
          have e3 : p3 = .pointer (some ⟨h, 0, none⟩) := hJ.val 3 _ rfl (hD2 3 (by show 3 < 12; decide))
          subst e3
          have e4 : p4 = .pointer (some ⟨m, 0, none⟩) := hJ.val 4 _ rfl (hD2 4 (by show 4 < 12; decide))
          subst e4
          have e5 : p5 = .int .i64 (i : Int) := hJ.val 5 _ rfl (hD2 5 (by show 5 < 12; decide))
          subst e5
          have e6 : p6 = .pointer (some ⟨m, 0, none⟩) := hJ.val 6 _ rfl (hD2 6 (by show 6 < 12; decide))
          subst e6
          have e7 : p7 = .pointer (some ⟨m, 1, none⟩) := hJ.val 7 _ rfl (hD2 7 (by show 7 < 12; decide))
          subst e7
          have e8 : p8 = .pointer (some ⟨m, 1 + i, none⟩) := hJ.val 8 _ rfl (hD2 8 (by show 8 < 12; decide))
          subst e8
          have e9 : p9 = .int .i64 ((i : Int) + 1) := hJ.val 9 _ rfl (hD2 9 (by show 9 < 12; decide))
          subst e9
          have e10 : p10 = .pointer (some ⟨WD.heap.size, 0, none⟩) := hJ.val 10 _ rfl (hD2 10 (by show 10 < 12; decide))
          subst e10
          have e11 : p11 = .bool false := hJ.val 11 _ rfl (hD2 11 (by show 11 < 12; decide))
          subst e11
          clear hJ hD2
          have hq : wE = WF := q1
          clear q1
          simp only [puts, setAll, List.setIfInBounds_toArray, List.set_cons_zero, List.set_cons_succ]
          subst hq
          have HREL : Veil (PrL w wE h A m (i + 1) (os ++ [(WD.heap.size, obj0 0 0)])) := ⟨HPD.out.next HX.out.1 HX.out.2⟩
          clear HC8 HO HX HWF HPD HWD
          go_wp2
          go_roundw
          case rel => exact ⟨i + 1, _, by omega, by go_num, HREL.out⟩
          case measure => simp [intOf]; omega

    · obtain rfl : i = 21 := by omega
      have HL := Veil.mk hpl
      clear hpl hlt hi hi0
      go_wp2
      go_ret
      exact ⟨h, A, m, os, rfl, HL.out⟩
end Go.Proofs.YtgdkjkfbknbgkaaGreatDoor
namespace Go.Proofs.YtgdkjkfbknbgkaaGreatDoor
open Go Go.RowKit

theorem cell_of_row2 (g i : Nat) : (⟨g, 0, none⟩ : Addr).add i = ⟨g, i, none⟩ := by
  unfold Addr.add; split
  · simp [*]
  · simp
def flatV (l : List Vt) : List Value := l.flatMap fun v => [.int .i64 v.1, .int .i64 v.2.1, .string v.2.2]
theorem flatV_len (l : List Vt) : (flatV l).length = l.length * 3 := by
  induction l with
  | nil => rfl
  | cons a r ih => show (_ :: _ :: _ :: flatV r).length = _; simp only [List.length_cons, ih]; omega
theorem flatV_at : ∀ (l : List Vt) (i : Nat) (v : Vt), l[i]? = some v → (flatV l)[i * 3]? = some (.int .i64 v.1) ∧ (flatV l)[i * 3 + 1]? = some (.int .i64 v.2.1) ∧ (flatV l)[i * 3 + 2]? = some (.string v.2.2)
  | [], i, v, h => by cases h
  | a :: r, 0, v, h => by
    have h : some a = some v := h
    injection h with h
    subst h
    exact ⟨rfl, rfl, rfl⟩
  | a :: r, i + 1, v, h => by
    have := flatV_at r i v h
    rw [show (i + 1) * 3 = i * 3 + 3 by omega, show i * 3 + 3 + 1 = (i * 3 + 1) + 3 by omega, show i * 3 + 3 + 2 = (i * 3 + 2) + 3 by omega]
    exact this
theorem flatV_one (l : List Vt) : ∀ v ∈ flatV l, v.oneCell' = true := fun v hv => by
  obtain ⟨x, -, hx⟩ := List.mem_flatMap.1 hv
  have : v = .int .i64 x.1 ∨ v = .int .i64 x.2.1 ∨ v = .string x.2.2 := by simpa using hx
  rcases this with rfl | rfl | rfl <;> rfl
/-- A slice value reads as these values. -/
def RowV (W : World) (ev : Value) (l : List Vt) : Prop := ∃ ao cap, ev = .slice ao l.length cap ∧ l.length ≤ cap ∧ (ao = none → l = [] ∧ cap = 0) ∧ ∀ ad, ao = some ad → ∃ g, ad = ⟨g, 0, none⟩ ∧ Lab W g 30 ∧ ∀ j u, (flatV l)[j]? = some u → W.cell? ⟨g, j, none⟩ = some u
theorem cell_blk {w w' : World} {k : Nat} (h : w'.heap[k]? = w.heap[k]?) (j : Nat) : w'.cell? ⟨k, j, none⟩ = w.cell? ⟨k, j, none⟩ := by
  simp only [World.cell?, h]
theorem Kp.lab {ts : List TypeId} {w w1 : World} (h : Kp ts w w1) {g : Nat} {t : TypeId} (hl : Lab w g t) (ht : ts.contains t = false) : Lab w1 g t := by
  have e := h g t hl ht
  obtain ⟨cs, fr, hb⟩ := hl
  exact ⟨cs, fr, e.trans hb⟩
theorem RowV.kp {ts : List TypeId} {W W' : World} {ev : Value} {l : List Vt} (h : RowV W ev l) (hk : Kp ts W W') (ht : ts.contains 30 = false) : RowV W' ev l := by
  obtain ⟨ao, cap, e, h1, h2, h3⟩ := h
  refine ⟨ao, cap, e, h1, h2, fun ad had => ?_⟩
  obtain ⟨g, e2, hl, hc⟩ := h3 ad had
  exact ⟨g, e2, hk.lab hl ht, fun j u hj => by rw [cell_blk (hk g _ hl ht)]; exact hc j u hj⟩
theorem RowV.on {W W' : World} {ev : Value} {l : List Vt} (h : RowV W ev l) (hb : Below W.heap.size W W') : RowV W' ev l := h.kp (ts := []) (Kp.of_below hb) rfl
theorem RowV.put {W : World} {ev : Value} {l : List Vt} (h : RowV W ev l) (g i : Nat) (u : Value) (hg : ∀ ad n cap, ev = .slice (some ad) n cap → ad.block ≠ g) : RowV (W.setCell ⟨g, i, none⟩ u) ev l := by
  obtain ⟨ao, cap, e, h1, h2, h3⟩ := h
  refine ⟨ao, cap, e, h1, h2, fun ad had => ?_⟩
  obtain ⟨g2, e2, hl, hc⟩ := h3 ad had
  have hne : g2 ≠ g := by
    have := hg ad l.length cap (by rw [e, had])
    rw [e2] at this
    exact this
  have hb := Below.heap_setCell W ⟨g, i, none⟩ u g2 hne
  refine ⟨g2, e2, ?_, fun j u hj => by rw [cell_blk hb]; exact hc j u hj⟩
  obtain ⟨cs, fr, hx⟩ := hl
  exact ⟨cs, fr, hb.trans hx⟩
theorem RowV.nil (W : World) : RowV W (.slice none 0 0) [] := ⟨none, 0, rfl, Nat.le_refl _, fun _ => ⟨rfl, rfl⟩, fun ad h => by cases h⟩
theorem RowV.own {W : World} {B : Nat} {v : Value} {l : List Vt} (h : W.ownsRow B 30 3 v l.length (flatV l)) : RowV W v l := by
  rcases h.2 with ⟨rfl, h0⟩ | ⟨g, cap, cur, rfl, hB, hb, hc, _⟩
  · have : l = [] := List.length_eq_zero_iff.1 h0
    subst this
    exact RowV.nil W
  · refine ⟨_, cap, rfl, hc, fun h => (by cases h), fun ad had => ⟨g, by injection had with had; exact had.symm, ⟨cur, _, hb⟩, fun j u hj => ?_⟩⟩
    have hjl : j < (flatV l).length := (List.getElem?_eq_some_iff.1 hj).1
    rw [flatV_len] at hjl
    rw [h.cellAt j hjl]
    exact hj
theorem RowV.box {W : World} {g : Nat} (l : List Vt) (n : Nat) (hn : l.length = n) (h : Box W g 30 (flatV l).toArray) : RowV W (.slice (some ⟨g, 0, none⟩) n n) l := by
  subst hn
  refine ⟨_, _, rfl, Nat.le_refl _, fun h => (by cases h), fun ad had => ⟨g, by injection had with had; exact had.symm, h.lab, fun j u hj => ?_⟩⟩
  rw [h.at_ j]
  simpa using hj
theorem Tryz.infoW : (Tryz.prog.info? 30).map (fun i => (i.zero, i.size, i.bytes)) = some (some (.agg #[.int .i64 0, .int .i64 0, .string ⟨#[]⟩]), 3, 32) := by kernel_rfl
set_option maxHeartbeats 1000000 in
set_option maxRecDepth 100000 in
/-- slices.Clone of values. -/
theorem clone_v (sv : Value) (l : List Vt) (hl : l.length ≤ 1000000) (w : World) (h : RowV w sv l) : Calls Tryz.prog 55 #[sv] w fun e w' => ∃ v, e = .returned v ∧ Below w.heap.size w w' ∧ RowV w' v l ∧ ∀ ad n cap, v = .slice (some ad) n cap → w.heap.size ≤ ad.block := by
  have q : ∀ (w : World) (a : Option Addr) (n c n' c' : Nat), (binOp .eql 57 (.slice a n c) (.slice none n' c')).run Tryz.prog w = .ok (.bool a.isNone) w := fun w a n c n' c' => Lib.run_eql_slice_nil w _ _ a n c n' c' Tryz.underlying57
  obtain ⟨ao, cap, rfl, hlc, hno, hso⟩ := h
  cases ao with
  | none =>
    obtain ⟨rfl, rfl⟩ := hno rfl
    clear hlc hno hso
    go_enter Tryz.func55, Tryz.ntmps55
    go_wp2
    go_ret
    exact ⟨_, rfl, Below.refl _ _, RowV.nil _, fun ad n cap h => (by cases h)⟩
  | some ad =>
    obtain ⟨g, rfl, hlb, hc⟩ := hso _ rfl
    have hlt := lab_lt hlb
    obtain ⟨i0, hi, hz0, hz1, hz2⟩ := info_parts Tryz.infoW
    obtain ⟨n, hn⟩ : ∃ n, l.length = n := ⟨_, rfl⟩
    have hro : (w.alloc (.cells #[] 30)).ownsRow w.heap.size 30 3 (.slice (some ⟨w.heap.size, 0, none⟩) 0 0) 0 [] := ⟨rfl, .inr ⟨w.heap.size, 0, #[], rfl, Nat.le_refl _, Box.new w 30 #[], Nat.le_refl _, Nat.zero_le _, rfl, rfl⟩⟩
    have hlen := flatV_len l
    have hsrc : ∀ (j : Nat) (u : Value), (flatV l)[j]? = some u → (w.alloc (.cells #[] 30)).cell? ((⟨g, 0, none⟩ : Addr).add j) = some u := fun j u hj => by
      rw [cell_of_row2, ((Below.refl w.heap.size w).alloc (Nat.le_refl _) _).cell (p := ⟨g, j, none⟩) hlt]
      exact hc j u hj
    have hone := flatV_one l
    obtain ⟨fl, hfl⟩ : ∃ fl, flatV l = fl := ⟨_, rfl⟩
    have HFL := Veil.mk (And.intro hfl hn)
    rw [hfl] at hlen hsrc hone
    rw [hn] at hlen hl hlc ⊢
    have hs0 : w.heap.size ≤ (w.alloc (.cells #[] 30)).heap.size := by rw [World.size_alloc]; omega
    have hb0 : Below w.heap.size w (w.alloc (.cells #[] 30)) := (Below.refl _ _).alloc (Nat.le_refl _) _
    have HH := Veil.mk (And.intro hs0 hb0)
    have HL := Veil.mk hlen
    clear hb0 hc hno hso hfl hn hlb hlc
    go_enter Tryz.func55, Tryz.ntmps55
    go_upto_region 3 with (fail)
    go_wp2_with (at_builtin; go_loud (refine wpList_append_own_at _ rfl _ _ 57 rfl w.heap.size 30 i0 (.agg #[.int .i64 0, .int .i64 0, .string ⟨#[]⟩]) 3 32 Tryz.underlying57 hi hz0 hz1 hz2 rfl (by decide) _ 0 [] rfl hro ⟨g, 0, none⟩ n cap fl rfl HL.out hsrc hone (by unfold maxLen; omega) (by omega) HH.out.1 ?_); intro v5 w5 hown2 hgrow2 hnil2 hblk2; refine Hid.out ?_)
    have ht2 : Touch (fun b => b = w.heap.size) (w.alloc (.cells #[] 30)) w5 := Touch.of_grown hgrow2 (fun b hb => by
      have hb : (Value.slice (some ⟨w.heap.size, 0, none⟩) 0 0).ownBlock = some b := hb
      injection hb with hb
      exact hb.symm)
    rw [Nat.zero_add, List.nil_append] at hown2
    have HF := Veil.mk (And.intro (HH.out.2.trans (ht2.below HH.out.1 (fun k hk => by omega))) hown2)
    clear ht2 hgrow2 hblk2 hnil2 hown2 hro hsrc hs0 hone
    obtain ⟨a5, c5, hv5, -⟩ := slice_own HF.out.2
    subst hv5
    refine Lib.hid ?_
    go_wp2
    go_ret
    obtain ⟨h1, h2⟩ := HF.out
    obtain ⟨e1, e2⟩ := HFL.out
    rw [← e1, ← e2] at h2
    refine ⟨.slice a5 n c5, rfl, h1, ?_, fun ad n2 cap h => ?_⟩
    rotate_left
    · injection h with h
      subst h
      rcases h2.2 with ⟨h3, -⟩ | ⟨g3, _, _, h3, h4, _⟩
      · cases h3
      · injection h3 with h3
        injection h3 with h3
        rw [h3]
        exact h4
    have := RowV.own h2
    rw [e2] at this
    exact this
section
variable {W W' : World} {h A m : Nat} {f : Nat → Int} {os : List OS}
set_option maxRecDepth 100000 in
theorem MM.proto_any (H : MM W h A m f os) (k : Nat) (hk : k < 21) : Calls Tryz.prog 54 #[.pointer (some ⟨m, 0, none⟩), .int .i64 (k : Int)] W fun e w' => e = .returned (.int .i64 (f k)) ∧ w' = W := by
  have c0 : W.cell? ⟨m, 1 + k, none⟩ = some (.int .i64 (f k)) := by rw [H.mb.at_ (1 + k)]; exact machV_at _ _ _ k hk
  have h0 : (0 : Int) ≤ (k : Int) := by omega
  have h1 : (k : Int) < 21 := by omega
  clear H
  go_enter Tryz.func54, Tryz.ntmps54
  go_wp2
  go_ret
  exact ⟨rfl, rfl⟩
set_option maxRecDepth 100000 in
/-- A new object, by the machine. -/
theorem MM.create (H : MM W h A m f os) (cl proto : Int) (hl : os.length < 1000000) : Calls Tryz.prog 53 #[.pointer (some ⟨m, 0, none⟩), .int .i64 cl, .int .i64 proto] W fun e w' => e = .returned (.tuple #[.int .i64 ((os.length : Int) + 1), .pointer (some ⟨W.heap.size, 0, none⟩)]) ∧ MM w' h A m f (os ++ [(W.heap.size, obj0 cl proto)]) ∧ Below A W w' ∧ Kp arT W w' ∧ Kq A W w' := by
  have c0 : W.cell? ⟨m, 0, none⟩ = some (.pointer (some ⟨h, 0, none⟩)) := H.mb.at_ 0
  have HM := Veil.mk (H.make cl proto hl)
  clear H
  go_enter Tryz.func53, Tryz.ntmps53
  go_wp2_with (first | (go_at_call 13; ((with_reducible refine HM.out.mono ?_); rintro e w9 ⟨rfl, hm9, hb9, hk9, hq9⟩)))
  refine bodyPost_ret (v := .tuple #[.int .i64 ((os.length : Int) + 1), .pointer (some ⟨W.heap.size, 0, none⟩)]) (by simp [results, Tryz.results53, go_sem]) rfl ⟨rfl, hm9, hb9, hk9, hq9⟩
end
end Go.Proofs.YtgdkjkfbknbgkaaGreatDoor
namespace Go.Proofs.YtgdkjkfbknbgkaaGreatDoor
open Go Go.RowKit

theorem object_mk (r : Int) (w : World) : Calls Tryz.prog 18 #[.int .i64 r] w fun e w' => e = .returned (valV (9, r, ⟨#[]⟩)) ∧ Below w.heap.size w w' := by
  obtain ⟨vb, hvb⟩ : ∃ vb, w.heap.size = vb := ⟨_, rfl⟩
  obtain ⟨W0, hW0⟩ : ∃ W0, w.alloc (.cells #[.int .i64 0, .int .i64 0, .string ⟨#[]⟩] 30) = W0 := ⟨_, rfl⟩
  have b1 := Box.new w 30 #[.int .i64 0, .int .i64 0, .string ⟨#[]⟩]
  have bb : Below w.heap.size w (w.alloc (.cells #[.int .i64 0, .int .i64 0, .string ⟨#[]⟩] 30)) := (Below.refl _ _).alloc (Nat.le_refl _) _
  rw [hW0] at b1 bb
  rw [hvb] at b1 bb ⊢
  have HW0 := Veil.mk (And.intro hW0 hvb)
  have HBB := Veil.mk (And.intro bb b1)
  have z0 : W0.cell? ⟨vb, 0, none⟩ = some (.int .i64 0) := b1.at_ 0
  have z1 : W0.cell? ⟨vb, 1, none⟩ = some (.int .i64 0) := b1.at_ 1
  have z2 : W0.cell? ⟨vb, 2, none⟩ = some (.string ⟨#[]⟩) := b1.at_ 2
  have f0 := b1.free 0
  have f1 := b1.free 1
  have f2 := b1.free 2
  clear hW0 hvb b1 bb
  go_enter Tryz.func18, Tryz.ntmps18
  go_upto_region 1 with (fail)
  rw [HW0.out.1, HW0.out.2]
  go_wp2
  have hr3 := ((HBB.out.2.put 0 (.int .i64 9)).put 1 (.int .i64 r)).put 2 (.string ⟨#[]⟩)
  have y0 := hr3.at_ 0
  have y1 := hr3.at_ 1
  have y2 := hr3.at_ 2
  exact bodyPost_ret (v := valV (9, r, ⟨#[]⟩)) (by simp [results, Tryz.results18, go_sem, y0, y1, y2]) rfl ⟨rfl, ((HBB.out.1.setCell (p := ⟨vb, 0, none⟩) (Nat.le_refl _) _).setCell (p := ⟨vb, 1, none⟩) (Nat.le_refl _) _).setCell (p := ⟨vb, 2, none⟩) (Nat.le_refl _) _⟩
set_option maxRecDepth 100000 in
theorem isobj_any (x : Vt) (w : World) : Calls Tryz.prog 47 #[valV x] w fun e w' => e = .returned (.bool (x.1 == 9)) ∧ Below w.heap.size w w' := by
  have b1 := Box.new w 30 #[.int .i64 x.1, .int .i64 x.2.1, .string x.2.2]
  have bb : Below w.heap.size w (w.alloc (.cells #[.int .i64 x.1, .int .i64 x.2.1, .string x.2.2] 30)) := (Below.refl _ _).alloc (Nat.le_refl _) _
  obtain ⟨kb, hkb⟩ : ∃ kb, w.heap.size = kb := ⟨_, rfl⟩
  obtain ⟨W0, hW0⟩ : ∃ W0, w.alloc (.cells #[.int .i64 x.1, .int .i64 x.2.1, .string x.2.2] 30) = W0 := ⟨_, rfl⟩
  rw [hW0] at b1 bb
  have HW0 := Veil.mk (And.intro hW0 hkb)
  rw [hkb] at b1
  have HBB := Veil.mk (And.intro bb b1)
  have x0 : W0.cell? ⟨kb, 0, none⟩ = some (.int .i64 x.1) := b1.at_ 0
  have x1 : W0.cell? ⟨kb, 1, none⟩ = some (.int .i64 x.2.1) := b1.at_ 1
  have x2 : W0.cell? ⟨kb, 2, none⟩ = some (.string x.2.2) := b1.at_ 2
  clear hW0 hkb b1 bb
  go_enter Tryz.func47, Tryz.ntmps47
  go_upto_region 1 with (fail)
  rw [HW0.out.1, HW0.out.2]
  go_wp2
  go_ret
  exact ⟨rfl, HBB.out.1⟩
set_option maxRecDepth 100000 in
theorem ref_9 (x : Vt) (hx : x.1 = 9) (w : World) : Calls Tryz.prog 48 #[valV x] w fun e w' => e = .returned (.int .i64 x.2.1) ∧ Below w.heap.size w w' := by
  have b1 := Box.new w 30 #[.int .i64 x.1, .int .i64 x.2.1, .string x.2.2]
  have bb : Below w.heap.size w (w.alloc (.cells #[.int .i64 x.1, .int .i64 x.2.1, .string x.2.2] 30)) := (Below.refl _ _).alloc (Nat.le_refl _) _
  obtain ⟨kb, hkb⟩ : ∃ kb, w.heap.size = kb := ⟨_, rfl⟩
  obtain ⟨W0, hW0⟩ : ∃ W0, w.alloc (.cells #[.int .i64 x.1, .int .i64 x.2.1, .string x.2.2] 30) = W0 := ⟨_, rfl⟩
  rw [hW0] at b1 bb
  have HW0 := Veil.mk (And.intro hW0 hkb)
  rw [hkb] at b1
  have HBB := Veil.mk (And.intro bb b1)
  have x0 : W0.cell? ⟨kb, 0, none⟩ = some (.int .i64 x.1) := b1.at_ 0
  have x1 : W0.cell? ⟨kb, 1, none⟩ = some (.int .i64 x.2.1) := b1.at_ 1
  have x2 : W0.cell? ⟨kb, 2, none⟩ = some (.string x.2.2) := b1.at_ 2
  clear hW0 hkb b1 bb
  rw [hx] at x0
  clear hx
  go_enter Tryz.func48, Tryz.ntmps48
  go_upto_region 1 with (fail)
  rw [HW0.out.1, HW0.out.2]
  go_wp2
  go_ret
  exact ⟨rfl, HBB.out.1⟩
set_option maxRecDepth 100000 in
theorem of_no (h : Nat) (x : Vt) (hx : (x.1 == 9) = false) (w : World) : Calls Tryz.prog 21 #[.pointer (some ⟨h, 0, none⟩), valV x] w fun e w' => e = .returned (.pointer none) ∧ Below w.heap.size w w' := by
  have HI := Veil.mk (fun w => isobj_any x w)
  rw [hx] at HI
  have b1 := Box.new w 30 #[.int .i64 x.1, .int .i64 x.2.1, .string x.2.2]
  have bb : Below w.heap.size w (w.alloc (.cells #[.int .i64 x.1, .int .i64 x.2.1, .string x.2.2] 30)) := (Below.refl _ _).alloc (Nat.le_refl _) _
  obtain ⟨kb, hkb⟩ : ∃ kb, w.heap.size = kb := ⟨_, rfl⟩
  obtain ⟨W0, hW0⟩ : ∃ W0, w.alloc (.cells #[.int .i64 x.1, .int .i64 x.2.1, .string x.2.2] 30) = W0 := ⟨_, rfl⟩
  rw [hW0] at b1 bb
  have HW0 := Veil.mk (And.intro hW0 hkb)
  rw [hkb] at b1
  have HBB := Veil.mk (And.intro bb b1)
  have x0 : W0.cell? ⟨kb, 0, none⟩ = some (.int .i64 x.1) := b1.at_ 0
  have x1 : W0.cell? ⟨kb, 1, none⟩ = some (.int .i64 x.2.1) := b1.at_ 1
  have x2 : W0.cell? ⟨kb, 2, none⟩ = some (.string x.2.2) := b1.at_ 2
  clear hW0 hkb b1 bb
  clear hx
  go_enter Tryz.func21, Tryz.ntmps21
  go_upto_region 1 with (fail)
  rw [HW0.out.1, HW0.out.2]
  go_wp2_with (go_at_call 47; ((with_reducible refine (HI.out _).mono ?_); rintro e w4 ⟨rfl, h4⟩))
  go_ret
  exact ⟨rfl, HBB.out.1.trans (h4.mono HBB.out.1.size)⟩
set_option maxRecDepth 100000 in
theorem of_yes (h o : Nat) (x : Vt) (hx : x.1 = 9) (w : World) (HO : Veil (∀ W, Below w.heap.size w W → Calls Tryz.prog 26 #[.pointer (some ⟨h, 0, none⟩), .int .i64 x.2.1] W fun e9 w' => e9 = .returned (.pointer (some ⟨o, 0, none⟩)) ∧ w' = W)) : Calls Tryz.prog 21 #[.pointer (some ⟨h, 0, none⟩), valV x] w fun e w' => e = .returned (.pointer (some ⟨o, 0, none⟩)) ∧ Below w.heap.size w w' := by
  have HI := Veil.mk (fun w => isobj_any x w)
  rw [show (x.1 == 9) = true by rw [hx]; rfl] at HI
  have HR := Veil.mk (fun w => ref_9 x hx w)
  have b1 := Box.new w 30 #[.int .i64 x.1, .int .i64 x.2.1, .string x.2.2]
  have bb : Below w.heap.size w (w.alloc (.cells #[.int .i64 x.1, .int .i64 x.2.1, .string x.2.2] 30)) := (Below.refl _ _).alloc (Nat.le_refl _) _
  obtain ⟨kb, hkb⟩ : ∃ kb, w.heap.size = kb := ⟨_, rfl⟩
  obtain ⟨W0, hW0⟩ : ∃ W0, w.alloc (.cells #[.int .i64 x.1, .int .i64 x.2.1, .string x.2.2] 30) = W0 := ⟨_, rfl⟩
  rw [hW0] at b1 bb
  have HW0 := Veil.mk (And.intro hW0 hkb)
  rw [hkb] at b1
  have HBB := Veil.mk (And.intro bb b1)
  have x0 : W0.cell? ⟨kb, 0, none⟩ = some (.int .i64 x.1) := b1.at_ 0
  have x1 : W0.cell? ⟨kb, 1, none⟩ = some (.int .i64 x.2.1) := b1.at_ 1
  have x2 : W0.cell? ⟨kb, 2, none⟩ = some (.string x.2.2) := b1.at_ 2
  clear hW0 hkb b1 bb
  clear hx
  go_enter Tryz.func21, Tryz.ntmps21
  go_upto_region 1 with (fail)
  rw [HW0.out.1, HW0.out.2]
  go_upto_region 3 with (go_at_call 47; ((with_reducible refine (HI.out _).mono ?_); rintro e w4 ⟨rfl, h4⟩))
  have HB4 := Veil.mk (HBB.out.1.trans (h4.mono HBB.out.1.size))
  have b4 := HBB.out.2.below h4
  have y0 : w4.cell? ⟨kb, 0, none⟩ = some (.int .i64 x.1) := b4.at_ 0
  have y1 : w4.cell? ⟨kb, 1, none⟩ = some (.int .i64 x.2.1) := b4.at_ 1
  have y2 : w4.cell? ⟨kb, 2, none⟩ = some (.string x.2.2) := b4.at_ 2
  clear h4 b4 x0 x1 x2
  go_wp2_with (first | (go_at_call 48; ((with_reducible refine (HR.out _).mono ?_); rintro e w5 ⟨rfl, h5⟩; have HB5 := Veil.mk (HB4.out.trans (h5.mono HB4.out.size)); clear h5)) | (go_at_call 26; ((with_reducible refine (HO.out _ HB5.out).mono ?_); rintro e w6 ⟨rfl, h6⟩; subst w6)))
  go_ret
  exact ⟨rfl, HB5.out⟩
theorem Kp.new {ts : List TypeId} {w w1 : World} (h : Kp ts w w1) {g : Nat} (hg : w.heap.size ≤ g) (i : Nat) (u : Value) : Kp ts w (w1.setCell ⟨g, i, none⟩ u) := fun k t hl ht => (Below.heap_setCell w1 ⟨g, i, none⟩ u k (fun e => by
  have e : k = g := e
  have := lab_lt hl
  omega)).trans (h k t hl ht)
section
variable {W W' : World} {h A m : Nat} {f : Nat → Int} {os : List OS}
theorem MM.of_ (H : MM W h A m f os) (i : Nat) (o : OS) (ho : os[i]? = some o) (s : ByteArray) : Calls Tryz.prog 21 #[.pointer (some ⟨h, 0, none⟩), valV (9, (i : Int) + 1, s)] W fun e w' => e = .returned (.pointer (some ⟨o.1, 0, none⟩)) ∧ Below W.heap.size W w' :=
  of_yes h o.1 (9, (i : Int) + 1, s) rfl W ⟨fun _ hb => (H.on hb).obj i o ho⟩
abbrev mmT : List TypeId := [61, 99, 102, 155, 137, 3]
theorem own_kp {ts : List TypeId} {w w' : World} {B n size : Nat} {v : Value} {xs : List Value} {e : TypeId} (h : w.ownsRow B e size v n xs) (hk : Kp ts w w') (ht : ts.contains e = false) : w'.ownsRow B e size v n xs := by
  refine ⟨h.1, ?_⟩
  rcases h.2 with h2 | ⟨g, cap, cur, e1, e2, e3, e4⟩
  · exact .inl h2
  · exact .inr ⟨g, cap, cur, e1, e2, (hk g e ⟨cur, _, e3⟩ ht).trans e3, e4⟩
theorem MM.kp {ts : List TypeId} (H : MM W h A m f os) (hk : Kp ts W W') (ht : ∀ t ∈ mmT, ts.contains t = false) : MM W' h A m f os := by
  obtain ⟨⟨cv, fv, rv, hp⟩, mb, ob, am, al, nd⟩ := H
  refine ⟨⟨cv, fv, rv, hk.box hp.hb (ht _ (by simp)), ⟨hk.box hp.ar.box (ht _ (by simp)), own_kp hp.ar.co hk (ht _ (by simp)), own_kp hp.ar.fo hk (ht _ (by simp)), own_kp hp.ar.ro hk (ht _ (by simp)), hp.ar.ap, hp.ar.ha⟩, hp.hB⟩, hk.box mb (ht _ (by simp)), fun o ho => hk.box (ob o ho) (ht _ (by simp)), am, al, nd⟩
/-- A cell of an object is written. -/
theorem MM.setObj {b : Nat} {cs : Array Value} {os1 os2 : List OS} (H : MM W h A m f (os1 ++ (b, cs) :: os2)) (j : Nat) (u : Value) : MM (W.setCell ⟨b, j, none⟩ u) h A m f (os1 ++ (b, cs.setIfInBounds j u) :: os2) := by
  obtain ⟨⟨cv, fv, rv, hp⟩, mb, ob, am, al, nd⟩ := H
  have hb := ob (b, cs) (by simp)
  have ht : Touch (fun k => k = b) W (W.setCell ⟨b, j, none⟩ u) := Touch.put (S := fun k => k = b) rfl _ _
  have nd2 : ∀ o ∈ os1 ++ os2, o.1 ≠ b := fun o ho e => by
    rw [List.map_append, List.map_cons] at nd
    obtain ⟨-, n2, n3⟩ := List.nodup_append.1 nd
    have n2 := (List.nodup_cons.1 n2).1
    rcases List.mem_append.1 ho with h9 | h9
    · exact n3 o.1 (List.mem_map.2 ⟨o, h9, rfl⟩) b (by simp) e
    · exact n2 (List.mem_map.2 ⟨o, h9, e⟩)
  refine ⟨⟨cv, fv, rv, ?_⟩, mb.touch ht (fun e => mb.lab.ne hb.lab (by decide) e), fun o ho => ?_, am, fun o ho => ?_, ?_⟩
  · have e1 : ((os1 ++ (b, cs.setIfInBounds j u) :: os2).map fun o => some (40, o.1)) = ((os1 ++ (b, cs) :: os2).map fun o => some (40, o.1)) := by simp
    have e2 : (os1 ++ (b, cs.setIfInBounds j u) :: os2).length = (os1 ++ (b, cs) :: os2).length := by simp
    rw [e1, e2]
    refine ⟨hp.hb.touch ht (fun e => hp.hb.lab.ne hb.lab (by decide) e), hp.ar.touch ht (fun k hk e => ?_), hp.hB⟩
    subst e
    exact AFoot.lab hp.ar hb.lab (by decide) (by decide) (by decide) hk
  · have : o = (b, cs.setIfInBounds j u) ∨ o ∈ os1 ++ os2 := by
      simp only [List.mem_append, List.mem_cons] at ho ⊢
      rcases ho with h9 | h9 | h9 <;> simp [h9]
    rcases this with rfl | h9
    · exact hb.put j u
    · refine (ob o ?_).touch ht (nd2 o h9)
      simp only [List.mem_append, List.mem_cons] at h9 ⊢
      rcases h9 with h9 | h9 <;> simp [h9]
  · have : o.1 = b ∨ o ∈ os1 ++ os2 := by
      simp only [List.mem_append, List.mem_cons] at ho ⊢
      rcases ho with h9 | h9 | h9 <;> simp [h9]
    rcases this with e | h9
    · rw [e]; exact al (b, cs) (by simp)
    · refine al o ?_
      simp only [List.mem_append, List.mem_cons] at h9 ⊢
      rcases h9 with h9 | h9 <;> simp [h9]
  · have e1 : (os1 ++ (b, cs.setIfInBounds j u) :: os2).map Prod.fst = (os1 ++ (b, cs) :: os2).map Prod.fst := by simp
    rw [e1]
    exact nd
set_option maxHeartbeats 1000000 in
set_option maxRecDepth 100000 in
/-- An array of these values. -/
theorem MM.array (H : MM W h A m f os) (sv : Value) (l : List Vt) (hr : RowV W sv l) (hl : l.length ≤ 10000) (hn : os.length < 1000000) : Calls Tryz.prog 24 #[.pointer (some ⟨m, 0, none⟩), sv] W fun e w' => e = .returned (valV (9, (os.length : Int) + 1, ⟨#[]⟩)) ∧ ∃ b ev, W.heap.size ≤ b ∧ MM w' h A m f (os ++ [(b, objC 1 (f 2) false (.pointer none) ev)]) ∧ RowV w' ev l ∧ Below A W w' ∧ Kp arT W w' ∧ Kq A W w' ∧ ∀ ad n cap, ev = .slice (some ad) n cap → W.heap.size < ad.block := by
  obtain ⟨ao, ca, rfl, hr2⟩ := hr
  have HRW : Veil (RowV W (.slice ao l.length ca) l) := ⟨ao, ca, rfl, hr2⟩
  clear hr2
  obtain ⟨vb, hvb⟩ : ∃ vb, W.heap.size = vb := ⟨_, rfl⟩
  obtain ⟨W0, hW0⟩ : ∃ W0, W.alloc (.cells #[.int .i64 0, .int .i64 0, .string ⟨#[]⟩] 30) = W0 := ⟨_, rfl⟩
  have b1 := Box.new W 30 #[.int .i64 0, .int .i64 0, .string ⟨#[]⟩]
  have bb : Below W.heap.size W (W.alloc (.cells #[.int .i64 0, .int .i64 0, .string ⟨#[]⟩] 30)) := (Below.refl _ _).alloc (Nat.le_refl _) _
  rw [hW0] at b1 bb
  rw [hvb] at b1
  have HW0 := Veil.mk (And.intro hW0 hvb)
  have H0 := Veil.mk (H.on bb)
  have HPR : Veil (Calls Tryz.prog 54 #[.pointer (some ⟨m, 0, none⟩), .int .i64 2] W0 fun e w' => e = .returned (.int .i64 (f 2)) ∧ w' = W0) := ⟨H0.out.proto_any 2 (by decide)⟩
  have HCR := Veil.mk (H0.out.create 1 (f 2) hn)
  have HAT : Veil (A < W.heap.size) := ⟨H.alt⟩
  have HAM : Veil (A ≤ m ∧ m < W.heap.size) := ⟨H.am, H.mb.lt⟩
  have HX := Veil.mk (And.intro b1 bb)
  have hle : ¬ (10000 : Int) < (l.length : Int) := by omega
  obtain ⟨n, hn2⟩ : ∃ n, l.length = n := ⟨_, rfl⟩
  have HN := Veil.mk hn2
  rw [hn2] at HRW hle ⊢
  clear hW0 hvb b1 bb H hn2 hl hn
  go_enter Tryz.func24, Tryz.ntmps24
  go_upto_region 1 with (fail)
  rw [HW0.out.1, HW0.out.2]
  go_upto_region 7 with (first | (go_at_call 54; ((with_reducible refine HPR.out.mono ?_); rintro e w1 ⟨rfl, h1⟩; subst w1)) | (go_at_call 53; ((with_reducible refine HCR.out.mono ?_); rintro e w2 ⟨rfl, hm2, hb2, hk2, hq2⟩)))
  have HKQ2 := Veil.mk ((Kq.of_below HAT.out HX.out.2).trans hq2)
  clear hq2
  have HQ2 := Veil.mk (And.intro hm2 (And.intro ((HX.out.2.mono (by have := HAM.out; omega)).trans hb2) ((Kp.of_below HX.out.2).trans hk2)))
  have HC2 := Veil.mk (clone_v (.slice ao n ca) l (by have := HN.out; omega) w2 (HRW.out.kp HQ2.out.2.2 rfl))
  have bv2 := hk2.box HX.out.1 rfl
  have bo2 : Box w2 W0.heap.size 99 (obj0 1 (f 2)) := hm2.ob (W0.heap.size, obj0 1 (f 2)) (by simp)
  have HB2 := Veil.mk (And.intro bv2 bo2)
  obtain ⟨ob, hob⟩ : ∃ ob, W0.heap.size = ob := ⟨_, rfl⟩
  rw [hob] at HB2 HQ2 ⊢
  have HOB := Veil.mk hob
  clear hob
  clear hm2 hb2 hk2 bv2 bo2 HPR HCR
  skip
  go_upto_region 8 with (go_at_call 55; ((with_reducible refine HC2.out.mono ?_); rintro e w3 ⟨v, rfl, hb3, hv3, hg3⟩; have HG3 := Veil.mk hg3; clear hg3; have HB3 := Veil.mk (And.intro hb3 (And.intro hv3 (And.intro (HB2.out.1.below hb3) (HB2.out.2.below hb3)))); have o4 : w3.cell? ⟨ob, 4, none⟩ = some (.slice none 0 0) := HB3.out.2.2.2.at_ 4; have of4 := HB3.out.2.2.2.free 4; obtain ⟨a9, c9, hv9, -⟩ := HB3.out.2.1; subst hv9; clear hb3 hv3))
  have HM4 := Veil.mk ((HQ2.out.1.on HB3.out.1).setObj (os1 := os) (os2 := []) 4 (.slice a9 l.length c9))
  have ht4 : Touch (fun k => k = ob) w3 (w3.setCell ⟨ob, 4, none⟩ (.slice a9 l.length c9)) := Touch.put (S := fun k => k = ob) rfl _ _
  have HV4 : Veil (Box (w3.setCell ⟨ob, 4, none⟩ (.slice a9 l.length c9)) vb 30 #[.int .i64 0, .int .i64 0, .string ⟨#[]⟩]) := ⟨HB3.out.2.2.1.touch ht4 (fun e => HB3.out.2.2.1.lab.ne HB3.out.2.2.2.lab (by decide) e)⟩
  have HR4 : Veil (RowV (w3.setCell ⟨ob, 4, none⟩ (.slice a9 l.length c9)) (.slice a9 l.length c9) l) := ⟨HB3.out.2.1.kp (Kp.put (ts := [99]) HB3.out.2.2.2.lab rfl _ _) rfl⟩
  have HK4 : Veil (Below A W (w3.setCell ⟨ob, 4, none⟩ (.slice a9 l.length c9)) ∧ Kp arT W (w3.setCell ⟨ob, 4, none⟩ (.slice a9 l.length c9)) ∧ Kq A W (w3.setCell ⟨ob, 4, none⟩ (.slice a9 l.length c9))) := by
    have hA : A ≤ W.heap.size := by have := HAM.out; omega
    have ho : W.heap.size ≤ ob := by rw [← HOB.out]; exact HX.out.2.size
    have hb3 := HQ2.out.2.1.trans (HB3.out.1.mono (Nat.le_trans hA HQ2.out.2.1.size))
    exact ⟨hb3.setCell (p := ⟨ob, 4, none⟩) (by show A ≤ ob; omega) _, (HQ2.out.2.2.trans (Kp.of_below HB3.out.1)).new ho _ _, (HKQ2.out.trans (Kq.of_below (Nat.lt_of_lt_of_le HAT.out HKQ2.out.size) HB3.out.1)).new HAT.out ho _ _⟩
  have HG4 : Veil (∀ ad n cap, Value.slice a9 l.length c9 = .slice (some ad) n cap → vb < ad.block) := ⟨fun ad n cap e => by
    have h1 := HG3.out ad n cap e
    have h2 := HB2.out.1.lt
    omega⟩
  clear ht4 HB3 HB2 HQ2 HC2 H0 HG3 HRW o4 of4
  generalize (w3.setCell ⟨ob, 4, none⟩ (.slice a9 l.length c9)) = w4 at HM4 HV4 HR4 HK4 ⊢
  have HVO := Veil.mk (object_mk ((os.length : Int) + 1) w4)
  go_wp2_with (go_at_call 18; ((with_reducible refine HVO.out.mono ?_); rintro e w5 ⟨rfl, hb5⟩; have HB5 := Veil.mk (And.intro hb5 (HV4.out.below hb5)); have v0 : w5.cell? ⟨vb, 0, none⟩ = some (.int .i64 0) := HB5.out.2.at_ 0; have v1 : w5.cell? ⟨vb, 1, none⟩ = some (.int .i64 0) := HB5.out.2.at_ 1; have v2 : w5.cell? ⟨vb, 2, none⟩ = some (.string ⟨#[]⟩) := HB5.out.2.at_ 2; have g0 := HB5.out.2.free 0; have g1 := HB5.out.2.free 1; have g2 := HB5.out.2.free 2; clear hb5))
  have hr6 := ((HB5.out.2.put 0 (.int .i64 9)).put 1 (.int .i64 ((os.length : Int) + 1))).put 2 (.string ⟨#[]⟩)
  have y0 := hr6.at_ 0
  have y1 := hr6.at_ 1
  have y2 := hr6.at_ 2
  have hA : A ≤ W.heap.size := by have := HAM.out; omega
  have hvb : W.heap.size = vb := HW0.out.2
  have kx : Kp [30] w5 (((w5.setCell ⟨vb, 0, none⟩ (.int .i64 9)).setCell ⟨vb, 1, none⟩ (.int .i64 ((os.length : Int) + 1))).setCell ⟨vb, 2, none⟩ (.string ⟨#[]⟩)) := ((Kp.put HB5.out.2.lab rfl _ _).trans (Kp.put (HB5.out.2.put 0 _).lab rfl _ _)).trans (Kp.put ((HB5.out.2.put 0 _).put 1 _).lab rfl _ _)
  have hm6 := ((HM4.out.on HB5.out.1).kp kx (by decide))
  refine bodyPost_ret (v := valV (9, (os.length : Int) + 1, ⟨#[]⟩)) (by simp [results, Tryz.results24, go_sem, y0, y1, y2]) rfl ⟨rfl, ob, _, by rw [← HOB.out]; exact HX.out.2.size, hm6, ?_, ?_, ?_, ?_, ?_⟩
  · have hG : ∀ ad n cap, Value.slice a9 l.length c9 = .slice (some ad) n cap → ad.block ≠ vb := fun ad n cap e => by have := HG4.out ad n cap e; omega
    exact (((HR4.out.on HB5.out.1).put vb _ _ hG).put vb _ _ hG).put vb _ _ hG
  · exact (((HK4.out.1.trans (HB5.out.1.mono (Nat.le_trans hA HK4.out.1.size))).setCell (p := ⟨vb, 0, none⟩) (by show A ≤ vb; omega) _).setCell (p := ⟨vb, 1, none⟩) (by show A ≤ vb; omega) _).setCell (p := ⟨vb, 2, none⟩) (by show A ≤ vb; omega) _
  · exact (((HK4.out.2.1.trans (Kp.of_below HB5.out.1)).new (by omega) _ _).new (by omega) _ _).new (by omega) _ _
  · exact (((HK4.out.2.2.trans (Kq.of_below (Nat.lt_of_lt_of_le HAT.out HK4.out.2.2.size) HB5.out.1)).new HAT.out (by omega) _ _).new HAT.out (by omega) _ _).new HAT.out (by omega) _ _
  · intro ad n cap e
    rw [hvb]
    exact HG4.out ad n cap e
end
end Go.Proofs.YtgdkjkfbknbgkaaGreatDoor
