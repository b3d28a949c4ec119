/- Package vm: New. -/
import Derived.Test.YtgdkjkfbknbgkaaGreatDoorHa
import Derived.Test.YtgdkjkfbknbgkaaGreatDoorIl
import Derived.Test.YtgdkjkfbknbgkaaGreatDoorIr
namespace Go.Proofs.YtgdkjkfbknbgkaaGreatDoor
open Go Go.RowKit

theorem len10 {α : Type} {us : List α} (h : us.length = 10) : ∃ a0 a1 a2 a3 a4 a5 a6 a7 a8 a9, us = [a0, a1, a2, a3, a4, a5, a6, a7, a8, a9] := by
  match us, h with
  | [a0, a1, a2, a3, a4, a5, a6, a7, a8, a9], _ => exact ⟨a0, a1, a2, a3, a4, a5, a6, a7, a8, a9, rfl⟩
theorem len7 {α : Type} {us : List α} (h : us.length = 7) : ∃ a0 a1 a2 a3 a4 a5 a6, us = [a0, a1, a2, a3, a4, a5, a6] := by
  match us, h with
  | [a0, a1, a2, a3, a4, a5, a6], _ => exact ⟨a0, a1, a2, a3, a4, a5, a6, rfl⟩
theorem CJ.back {l : List Oper} {ks : List (Option (Value → Prop))} {Ph : (Nat → Bool) → (Nat → Value) → World → Prop} {d : Nat → Bool} {us : Nat → Value} {w : World} (h : CJ l ks Ph d us w) (i j : Nat) {o : Oper} (ho : l[i]? = some o) (ha : (o.after.any fun e => Region.binds .any e && e.on == j) = true) (hi : d i = true) : d j = true := by
  cases hj : d j with
  | true => rfl
  | false => rw [h.before i j ho ha hj] at hi; cases hi
theorem LPh.le {cs : List Nat} {St : Nat → (Nat → Value) → World → Prop} {d : Nat → Bool} {us : Nat → Value} {w : World} (h : LPh cs St d us w) (j c : Nat) (hc : cs[j]? = some c) (hd : d c = false) : ∃ s, s ≤ j ∧ St s (fun j => us (cs.getD j 1000000)) w := by
  obtain ⟨s, h1, h2, h3⟩ := h
  refine ⟨s, ?_, h3⟩
  rcases Nat.lt_or_ge j s with hlt | hge
  · have := (h2 j c hc).2 hlt
    rw [hd] at this
    cases this
  · exact hge
set_option maxRecDepth 100000 in
theorem clone_nb (w : World) : Calls Tryz.prog 56 #[.slice none 0 0] w fun e w' => e = .returned (.slice none 0 0) ∧ w' = w := by
  have he : ∀ w : World, (binOp .eql 49 (.slice none 0 0) (.slice none 0 0)).run Tryz.prog w = .ok (.bool true) w := fun _ => rfl
  go_enter Tryz.func56, Tryz.ntmps56
  go_wp2
  go_ret
  exact ⟨rfl, rfl⟩
set_option maxRecDepth 100000 in
theorem new_x (w : World) : Calls Tryz.prog 91 #[] w fun e w' => e = .returned (.pointer (some ⟨w.heap.size, 0, none⟩)) ∧ w' = w.alloc (.cells #[.slice none 0 0, .slice none 0 0, .int .i64 0, .slice none 0 0] 155) := by
  go_enter Tryz.func91, Tryz.ntmps91
  go_wp2
  go_ret
  exact ⟨rfl, rfl⟩
set_option maxRecDepth 100000 in
theorem heap_newx (w : World) : Calls Tryz.prog 57 #[] w fun e w' => e = .returned (.pointer (some ⟨w.heap.size + 1, 0, none⟩)) ∧ Below w.heap.size w w' ∧ HpAt w' w.heap.size (w.heap.size + 1) w.heap.size (.slice none 0 0) (.slice none 0 0) (.slice none 0 0) emptyD ∧ w'.heap.size = w.heap.size + 2 := by
  have h0 := new_x w
  have h1 := new_any w
  have h2 : Calls Tryz.prog 91 #[] w fun e w' => e = .returned (.pointer (some ⟨w.heap.size, 0, none⟩)) ∧ Below w.heap.size w w' ∧ w'.heap.size = w.heap.size + 1 ∧ ArAt w' w.heap.size w.heap.size (.slice none 0 0) (.slice none 0 0) (.slice none 0 0) emptyD := by
    refine h0.mono ?_
    rintro e w' ⟨rfl, rfl⟩
    refine ⟨rfl, (Below.refl _ _).alloc (Nat.le_refl _) _, by simp, ⟨Box.new _ _ _, ⟨rfl, .inl ⟨rfl, rfl⟩⟩, ⟨rfl, .inl ⟨rfl, rfl⟩⟩, ⟨rfl, .inl ⟨rfl, rfl⟩⟩, fun k hk => (by cases hk), Nat.le_refl _⟩⟩
  have HN := Veil.mk h2
  obtain ⟨A, hA⟩ : ∃ A, w.heap.size = A := ⟨_, rfl⟩
  rw [hA] at HN ⊢
  clear h0 h1 h2
  have HA := Veil.mk hA
  clear hA
  go_enter Tryz.func57, Tryz.ntmps57
  go_wp2_with (first | (go_at_call 91; ((with_reducible refine HN.out.mono ?_); rintro e w4 ⟨rfl, hb4, hs4, ha4⟩)))
  have bx := Box.new w4 102 #[.pointer (some ⟨A, 0, none⟩), .int .i64 0]
  have b5 : Below w4.heap.size w4 (w4.alloc (.cells #[.pointer (some ⟨A, 0, none⟩), .int .i64 0] 102)) := (Below.refl _ _).alloc (Nat.le_refl _) _
  have hsz : (w4.alloc (.cells #[.pointer (some ⟨A, 0, none⟩), .int .i64 0] 102)).heap.size = A + 2 := by rw [World.size_alloc, hs4]
  rw [hs4] at bx
  go_ret
  exact ⟨rfl, hb4.trans (b5.mono (by omega)), ⟨bx, ha4.on b5, by omega⟩, hsz⟩
/-- A fresh machine's cells. -/
abbrev machC (hp hv : Value) : Array Value := #[hp, .int .i64 0, .int .i64 0, .int .i64 0, .int .i64 0, .int .i64 0, .int .i64 0, .int .i64 0, .int .i64 0, .int .i64 0, .int .i64 0, .int .i64 0, .int .i64 0, .int .i64 0, .int .i64 0, .int .i64 0, .int .i64 0, .int .i64 0, .int .i64 0, .int .i64 0, .int .i64 0, .int .i64 0, .int .i64 0, .int .i64 0, .int .i64 0, .string ⟨#[]⟩, hv, .int .i64 4194304, .int .i64 20, .int .i64 10000, .slice none 0 0, .bool false, .slice none 0 0, .int .i64 0, .slice none 0 0, .int .i64 0, .int .i64 0, .slice none 0 0, .slice none 0 0, .slice none 0 0, .slice none 0 0, .bool false, .int .i64 0, .slice none 0 0, .slice none 0 0, .slice none 0 0, .slice none 0 0, .map none]
def VnSt (sb : Nat) (WD : World) : Nat → (Nat → Value) → World → Prop
  | 0 => fun _ w => w = WD
  | 1 => fun _ w => w = WD.setCell ⟨sb, 0, none⟩ (.slice none 0 0)
  | _ => fun _ w => w = (WD.setCell ⟨sb, 0, none⟩ (.slice none 0 0)).setCell ⟨sb, 2, none⟩ (.slice none 0 0)
def VmSt (hv : Value) (WE : World) : Nat → (Nat → Value) → World → Prop
  | 0 => fun _ w => w = WE
  | 1 => fun _ w => Below WE.heap.size WE w ∧ HpAt w WE.heap.size (WE.heap.size + 1) WE.heap.size (.slice none 0 0) (.slice none 0 0) (.slice none 0 0) emptyD ∧ w.heap.size = WE.heap.size + 2
  | _ => fun _ w => Below WE.heap.size WE w ∧ HpAt w WE.heap.size (WE.heap.size + 1) WE.heap.size (.slice none 0 0) (.slice none 0 0) (.slice none 0 0) emptyD ∧ Box w (WE.heap.size + 2) 61 (machC (.pointer (some ⟨WE.heap.size + 1, 0, none⟩)) hv)
theorem VmSt.below {hv : Value} {WE w : World} {s : Nat} {f : Nat → Value} (hs : s ≤ 1) (hst : VmSt hv WE s f w) : Below WE.heap.size WE w := by
  match s, hs, hst with
  | 0, _, hst => rw [show w = WE from hst]; exact Below.refl _ _
  | 1, _, hst => exact hst.1
set_option maxHeartbeats 4000000 in
set_option maxRecDepth 100000 in
theorem vm_new (w : World) : Calls Tryz.prog 25 #[(Value.iface 85 (.agg #[])), .agg #[.int .i64 4194304, .int .i64 20, .int .i64 10000], .agg #[.slice none 0 0, .bool false, .slice none 0 0]] w fun e w' => ∃ h A m, e = .returned (.pointer (some ⟨m, 0, none⟩)) ∧ w.heap.size ≤ A ∧ A ≤ m ∧ HpAt w' A h A (.slice none 0 0) (.slice none 0 0) (.slice none 0 0) emptyD ∧ Box w' m 61 (machC (.pointer (some ⟨h, 0, none⟩)) (Value.iface 85 (.agg #[]))) ∧ Below w.heap.size w w' := by
  obtain ⟨kb, hkb⟩ : ∃ kb, w.heap.size = kb := ⟨_, rfl⟩
  obtain ⟨sb, hsb⟩ : ∃ sb, kb + 1 = sb := ⟨_, rfl⟩
  have b1 := (Box.new w 48 #[.int .i64 4194304, .int .i64 20, .int .i64 10000]).more (.cells #[.slice none 0 0, .bool false, .slice none 0 0] 51)
  have b2 := Box.new (w.alloc (.cells #[.int .i64 4194304, .int .i64 20, .int .i64 10000] 48)) 51 #[.slice none 0 0, .bool false, .slice none 0 0]
  have bb : Below w.heap.size w ((w.alloc (.cells #[.int .i64 4194304, .int .i64 20, .int .i64 10000] 48)).alloc (.cells #[.slice none 0 0, .bool false, .slice none 0 0] 51)) := ((Below.refl _ _).alloc (Nat.le_refl _) _).alloc (by simp) _
  rw [World.size_alloc] at b2
  obtain ⟨W0, hW0⟩ : ∃ W0, ((w.alloc (.cells #[.int .i64 4194304, .int .i64 20, .int .i64 10000] 48)).alloc (.cells #[.slice none 0 0, .bool false, .slice none 0 0] 51)) = W0 := ⟨_, rfl⟩
  rw [hW0] at b1 b2 bb
  have HW0 := Veil.mk (And.intro hW0 (And.intro hkb hsb))
  rw [hkb] at b1 b2
  rw [hsb] at b2
  have HCL := Veil.mk clone_nb
  have x0 : W0.cell? ⟨kb, 0, none⟩ = some (.int .i64 4194304) := b1.at_ 0
  have x1 : W0.cell? ⟨kb, 1, none⟩ = some (.int .i64 20) := b1.at_ 1
  have x2 : W0.cell? ⟨kb, 2, none⟩ = some (.int .i64 10000) := b1.at_ 2
  have f0 := b1.free 0
  have f1 := b1.free 1
  have f2 := b1.free 2
  have HB0 := Veil.mk (And.intro bb (And.intro b1 b2))
  clear b1 b2 bb hW0 hkb hsb
  go_enter Tryz.func25, Tryz.ntmps25
  go_upto_region 1 with (fail)
  rw [HW0.out.1, HW0.out.2.1, HW0.out.2.2]
  go_upto_region 4 with (fail)
  have HBX : Veil (Below w.heap.size w (((W0.setCell ⟨kb, 0, none⟩ (.int .i64 4194304)).setCell ⟨kb, 1, none⟩ (.int .i64 20)).setCell ⟨kb, 2, none⟩ (.int .i64 10000)) ∧ Box (((W0.setCell ⟨kb, 0, none⟩ (.int .i64 4194304)).setCell ⟨kb, 1, none⟩ (.int .i64 20)).setCell ⟨kb, 2, none⟩ (.int .i64 10000)) kb 48 #[.int .i64 4194304, .int .i64 20, .int .i64 10000] ∧ Box (((W0.setCell ⟨kb, 0, none⟩ (.int .i64 4194304)).setCell ⟨kb, 1, none⟩ (.int .i64 20)).setCell ⟨kb, 2, none⟩ (.int .i64 10000)) sb 51 #[.slice none 0 0, .bool false, .slice none 0 0]) := ⟨by
    obtain ⟨h1, h2, h3⟩ := HB0.out
    have hk := HW0.out.2.1
    have t3 : Touch (fun k => k = kb) W0 (((W0.setCell ⟨kb, 0, none⟩ (.int .i64 4194304)).setCell ⟨kb, 1, none⟩ (.int .i64 20)).setCell ⟨kb, 2, none⟩ (.int .i64 10000)) := ((Touch.put (S := fun k => k = kb) rfl _ _).trans (Touch.put (S := fun k => k = kb) rfl _ _)).trans (Touch.put (S := fun k => k = kb) rfl _ _)
    exact ⟨h1.trans (t3.below h1.size (fun k hk2 => by omega)), ((h2.put 0 (.int .i64 4194304)).put 1 (.int .i64 20)).put 2 (.int .i64 10000), h3.touch t3 (fun e => h3.lab.ne h2.lab (by decide) e)⟩⟩
  clear x0 x1 x2 f0 f1 f2 HB0
  generalize (((W0.setCell ⟨kb, 0, none⟩ (.int .i64 4194304)).setCell ⟨kb, 1, none⟩ (.int .i64 20)).setCell ⟨kb, 2, none⟩ (.int .i64 10000)) = W3 at HBX ⊢
  obtain ⟨WD, hWD⟩ : ∃ WD, W3.drew = WD := ⟨_, rfl⟩
  have HSB : Veil (Box WD sb 51 #[.slice none 0 0, .bool false, .slice none 0 0]) := ⟨by rw [← hWD]; exact HBX.out.2.2.drew⟩
  have HKB : Veil (Box WD kb 48 #[.int .i64 4194304, .int .i64 20, .int .i64 10000]) := ⟨by rw [← hWD]; exact HBX.out.2.1.drew⟩
  have HBD : Veil (Below w.heap.size w WD) := ⟨by rw [← hWD]; exact HBX.out.1.drew⟩
  have HWD := Veil.mk hWD
  clear hWD HBX
  refine wp_region_chain ([some (· = .pointer (some ⟨sb, 0, none⟩)), some (· = .slice none 0 0), some (· = .slice none 0 0), some (· = .pointer (some ⟨sb, 2, none⟩)), some (· = .slice none 0 0), some (· = .slice none 0 0), some (· = .pointer (some ⟨sb, 0, none⟩)), none, some (· = .pointer (some ⟨sb, 2, none⟩)), none] : List (Option (Value → Prop))) (LPh [7, 9] (VnSt sb WD)) [some 22, some 23, some 24, some 25, some 26, some 27, some 28, none, some 29, none] (curV' _ [some 22, some 23, some 24, some 25, some 26, some 27, some 28, none, some 29, none]) (by kernel_rfl) rfl rfl (puts_cur _ _) (LPh.start (show W3.drew = WD from HWD.out)) ?_ (by kernel_rfl) ?_
  · refine Steps.cons rfl (fun bb aa w' hbs hb0 hbp hI K hK => ?_) ?_
    · obtain ⟨us, hus, ha, hI⟩ := hI
      obtain ⟨u0, u1, u2, u3, u4, u5, u6, u7, u8, u9, rfl⟩ := len10 hus
      have HI := Veil.mk hI
      clear hI
      rw [ha]
      simp only [puts, setAll, List.setIfInBounds_toArray, List.set_cons_zero, List.set_cons_succ]
      go_simp
      exact hK _ _ (chain_step HI.out hus hbs 0 _ (by show 0 < 10; decide) rfl hbp (val_of rfl rfl) (HI.out.ph.step 0 _ (by decide) (by decide)) (by simp only [puts, setAll, List.set_cons_zero, List.set_cons_succ, List.setIfInBounds_toArray]))
    refine Steps.cons rfl (fun bb aa w' hbs hb0 hbp hI K hK => ?_) ?_
    · obtain ⟨us, hus, ha, hI⟩ := hI
      obtain ⟨u0, u1, u2, u3, u4, u5, u6, u7, u8, u9, rfl⟩ := len10 hus
      have e0 : u0 = .pointer (some ⟨sb, 0, none⟩) := hI.val 0 _ rfl (gen_after 0 (by kernel_rfl) hbp)
      subst e0
      have h2 := hI.before 2 1 rfl (by kernel_rfl) hb0
      have h7 := hI.before 7 2 rfl (by kernel_rfl) h2
      have hst := hI.ph.at_ 0 7 rfl h7 (.inl rfl)
      clear h7 h2
      have c0 : w'.cell? ⟨sb, 0, none⟩ = some (.slice none 0 0) := by rw [show w' = WD from hst]; exact HSB.out.at_ 0
      have HI := Veil.mk hI
      clear hI
      rw [ha]
      simp only [puts, setAll, List.setIfInBounds_toArray, List.set_cons_zero, List.set_cons_succ]
      go_simp
      exact hK _ _ (chain_step HI.out hus hbs 1 _ (by show 1 < 10; decide) rfl hbp (val_of rfl rfl) (HI.out.ph.step 1 _ (by decide) (by decide)) (by simp only [puts, setAll, List.set_cons_zero, List.set_cons_succ, List.setIfInBounds_toArray]))
    refine Steps.cons rfl (fun bb aa w' hbs hb0 hbp hI K hK => ?_) ?_
    · obtain ⟨us, hus, ha, hI⟩ := hI
      obtain ⟨u0, u1, u2, u3, u4, u5, u6, u7, u8, u9, rfl⟩ := len10 hus
      have e1 : u1 = .slice none 0 0 := hI.val 1 _ rfl (gen_after 1 (by kernel_rfl) hbp)
      subst e1
      have h7 := hI.before 7 2 rfl (by kernel_rfl) hb0
      have HI := Veil.mk hI
      clear hI h7
      rw [ha]
      simp only [puts, setAll, List.setIfInBounds_toArray, List.set_cons_zero, List.set_cons_succ]
      go_simp
      go_at_call 56
      refine (HCL.out _).mono ?_
      rintro e9 w9 ⟨rfl, h9⟩
      subst w9
      go_simp
      exact hK _ _ (chain_step HI.out hus hbs 2 _ (by show 2 < 10; decide) rfl hbp (val_of rfl rfl) (HI.out.ph.step 2 _ (by decide) (by decide)) (by simp only [puts, setAll, List.set_cons_zero, List.set_cons_succ, List.setIfInBounds_toArray]))
    refine Steps.cons rfl (fun bb aa w' hbs hb0 hbp hI K hK => ?_) ?_
    · obtain ⟨us, hus, ha, hI⟩ := hI
      obtain ⟨u0, u1, u2, u3, u4, u5, u6, u7, u8, u9, rfl⟩ := len10 hus
      have HI := Veil.mk hI
      clear hI
      rw [ha]
      simp only [puts, setAll, List.setIfInBounds_toArray, List.set_cons_zero, List.set_cons_succ]
      go_simp
      exact hK _ _ (chain_step HI.out hus hbs 3 _ (by show 3 < 10; decide) rfl hbp (val_of rfl rfl) (HI.out.ph.step 3 _ (by decide) (by decide)) (by simp only [puts, setAll, List.set_cons_zero, List.set_cons_succ, List.setIfInBounds_toArray]))
    refine Steps.cons rfl (fun bb aa w' hbs hb0 hbp hI K hK => ?_) ?_
    · obtain ⟨us, hus, ha, hI⟩ := hI
      obtain ⟨u0, u1, u2, u3, u4, u5, u6, u7, u8, u9, rfl⟩ := len10 hus
      have e3 : u3 = .pointer (some ⟨sb, 2, none⟩) := hI.val 3 _ rfl (gen_after 3 (by kernel_rfl) hbp)
      subst e3
      have h5 := hI.before 5 4 rfl (by kernel_rfl) hb0
      have h7 := hI.before 7 5 rfl (by kernel_rfl) h5
      have hst := hI.ph.at_ 0 7 rfl h7 (.inl rfl)
      clear h7 h5
      have c0 : w'.cell? ⟨sb, 2, none⟩ = some (.slice none 0 0) := by rw [show w' = WD from hst]; exact HSB.out.at_ 2
      have HI := Veil.mk hI
      clear hI
      rw [ha]
      simp only [puts, setAll, List.setIfInBounds_toArray, List.set_cons_zero, List.set_cons_succ]
      go_simp
      exact hK _ _ (chain_step HI.out hus hbs 4 _ (by show 4 < 10; decide) rfl hbp (val_of rfl rfl) (HI.out.ph.step 4 _ (by decide) (by decide)) (by simp only [puts, setAll, List.set_cons_zero, List.set_cons_succ, List.setIfInBounds_toArray]))
    refine Steps.cons rfl (fun bb aa w' hbs hb0 hbp hI K hK => ?_) ?_
    · obtain ⟨us, hus, ha, hI⟩ := hI
      obtain ⟨u0, u1, u2, u3, u4, u5, u6, u7, u8, u9, rfl⟩ := len10 hus
      have e4 : u4 = .slice none 0 0 := hI.val 4 _ rfl (gen_after 4 (by kernel_rfl) hbp)
      subst e4
      have h7 := hI.before 7 5 rfl (by kernel_rfl) hb0
      have HI := Veil.mk hI
      clear hI h7
      rw [ha]
      simp only [puts, setAll, List.setIfInBounds_toArray, List.set_cons_zero, List.set_cons_succ]
      go_simp
      go_at_call 56
      refine (HCL.out _).mono ?_
      rintro e9 w9 ⟨rfl, h9⟩
      subst w9
      go_simp
      exact hK _ _ (chain_step HI.out hus hbs 5 _ (by show 5 < 10; decide) rfl hbp (val_of rfl rfl) (HI.out.ph.step 5 _ (by decide) (by decide)) (by simp only [puts, setAll, List.set_cons_zero, List.set_cons_succ, List.setIfInBounds_toArray]))
    refine Steps.cons rfl (fun bb aa w' hbs hb0 hbp hI K hK => ?_) ?_
    · obtain ⟨us, hus, ha, hI⟩ := hI
      obtain ⟨u0, u1, u2, u3, u4, u5, u6, u7, u8, u9, rfl⟩ := len10 hus
      have HI := Veil.mk hI
      clear hI
      rw [ha]
      simp only [puts, setAll, List.setIfInBounds_toArray, List.set_cons_zero, List.set_cons_succ]
      go_simp
      exact hK _ _ (chain_step HI.out hus hbs 6 _ (by show 6 < 10; decide) rfl hbp (val_of rfl rfl) (HI.out.ph.step 6 _ (by decide) (by decide)) (by simp only [puts, setAll, List.set_cons_zero, List.set_cons_succ, List.setIfInBounds_toArray]))
    refine Steps.cons rfl (fun bb aa w' hbs hb0 hbp hI K hK => ?_) ?_
    · obtain ⟨us, hus, ha, hI⟩ := hI
      obtain ⟨u0, u1, u2, u3, u4, u5, u6, u7, u8, u9, rfl⟩ := len10 hus
      have e6 : u6 = .pointer (some ⟨sb, 0, none⟩) := hI.val 6 _ rfl (gen_after 6 (by kernel_rfl) hbp)
      subst e6
      have e2 : u2 = .slice none 0 0 := hI.val 2 _ rfl (gen_after 2 (by kernel_rfl) hbp)
      subst e2
      have hst := hI.ph.at_ 0 7 rfl hb0 (.inl rfl)
      have HST := Veil.mk (show w' = WD from hst)
      have hrb : Box w' sb 51 #[.slice none 0 0, .bool false, .slice none 0 0] := by rw [HST.out]; exact HSB.out
      have c0 : w'.cell? ⟨sb, 0, none⟩ = some (.slice none 0 0) := hrb.at_ 0
      have f0 := hrb.free 0
      clear hst hrb
      have HI := Veil.mk hI
      clear hI
      rw [ha]
      simp only [puts, setAll, List.setIfInBounds_toArray, List.set_cons_zero, List.set_cons_succ]
      go_simp
      exact hK _ _ (chain_step HI.out hus hbs 7 undef (by show 7 < 10; decide) rfl hbp (none_of rfl) (HI.out.ph.next 0 7 _ rfl hb0 (.inl rfl) (by decide) (show _ = WD.setCell ⟨sb, 0, none⟩ (.slice none 0 0) by rw [HST.out])) (by simp only [puts, setAll, List.set_cons_zero, List.set_cons_succ, List.setIfInBounds_toArray]))
    refine Steps.cons rfl (fun bb aa w' hbs hb0 hbp hI K hK => ?_) ?_
    · obtain ⟨us, hus, ha, hI⟩ := hI
      obtain ⟨u0, u1, u2, u3, u4, u5, u6, u7, u8, u9, rfl⟩ := len10 hus
      have HI := Veil.mk hI
      clear hI
      rw [ha]
      simp only [puts, setAll, List.setIfInBounds_toArray, List.set_cons_zero, List.set_cons_succ]
      go_simp
      exact hK _ _ (chain_step HI.out hus hbs 8 _ (by show 8 < 10; decide) rfl hbp (val_of rfl rfl) (HI.out.ph.step 8 _ (by decide) (by decide)) (by simp only [puts, setAll, List.set_cons_zero, List.set_cons_succ, List.setIfInBounds_toArray]))
    refine Steps.cons rfl (fun bb aa w' hbs hb0 hbp hI K hK => ?_) ?_
    · obtain ⟨us, hus, ha, hI⟩ := hI
      obtain ⟨u0, u1, u2, u3, u4, u5, u6, u7, u8, u9, rfl⟩ := len10 hus
      have e8 : u8 = .pointer (some ⟨sb, 2, none⟩) := hI.val 8 _ rfl (gen_after 8 (by kernel_rfl) hbp)
      subst e8
      have e5 : u5 = .slice none 0 0 := hI.val 5 _ rfl (gen_after 5 (by kernel_rfl) hbp)
      subst e5
      have hst := hI.ph.at_ 1 9 rfl hb0 (.inr ⟨7, rfl, gen_after 7 (by kernel_rfl) hbp⟩)
      have HST := Veil.mk (show w' = WD.setCell ⟨sb, 0, none⟩ (.slice none 0 0) from hst)
      have hrb : Box w' sb 51 #[.slice none 0 0, .bool false, .slice none 0 0] := by rw [HST.out]; exact HSB.out.put 0 (.slice none 0 0)
      have c0 : w'.cell? ⟨sb, 2, none⟩ = some (.slice none 0 0) := hrb.at_ 2
      have f0 := hrb.free 2
      clear hst hrb
      have HI := Veil.mk hI
      clear hI
      rw [ha]
      simp only [puts, setAll, List.setIfInBounds_toArray, List.set_cons_zero, List.set_cons_succ]
      go_simp
      exact hK _ _ (chain_step HI.out hus hbs 9 undef (by show 9 < 10; decide) rfl hbp (none_of rfl) (HI.out.ph.next 1 9 _ rfl hb0 (.inr ⟨7, rfl, gen_after 7 (by kernel_rfl) hbp⟩) (by decide) (show _ = (WD.setCell ⟨sb, 0, none⟩ (.slice none 0 0)).setCell ⟨sb, 2, none⟩ (.slice none 0 0) by rw [HST.out])) (by simp only [puts, setAll, List.set_cons_zero, List.set_cons_succ, List.setIfInBounds_toArray]))
    exact Steps.nil
  · intro us w9 hus dd hD2 hJ
    obtain ⟨p0, p1, p2, p3, p4, p5, p6, p7, p8, p9, rfl⟩ := len10 hus
    have q1 := hJ.ph.all (fun c hc => hD2 c (by
      have : c = 7 ∨ c = 9 := by simpa using hc
      show c < 10
      omega))
    replace q1 : w9 = (WD.setCell ⟨sb, 0, none⟩ (.slice none 0 0)).setCell ⟨sb, 2, none⟩ (.slice none 0 0) := q1
    have t2 : Touch (fun k => k = sb) WD w9 := by rw [q1]; exact (Touch.put (S := fun k => k = sb) rfl _ _).trans (Touch.put (S := fun k => k = sb) rfl _ _)
    have s9 : Box w9 sb 51 #[.slice none 0 0, .bool false, .slice none 0 0] := by rw [q1]; exact (HSB.out.put 0 (.slice none 0 0)).put 2 (.slice none 0 0)
    have k9 := HKB.out.touch t2 (fun e => HKB.out.lab.ne HSB.out.lab (by decide) e)
    have hsbw : w.heap.size ≤ sb := by have := HW0.out.2.1; have := HW0.out.2.2; omega
    have b9 : Below w.heap.size w w9 := HBD.out.trans (t2.below HBD.out.size (fun k hk => by rw [hk]; exact hsbw))
    obtain ⟨WE, hWE⟩ : ∃ WE, w9.drew = WE := ⟨_, rfl⟩
    have hbe : Below w9.heap.size w9 WE := by rw [← hWE]; exact (Below.refl _ _).drew
    have HBB : Veil (∀ W, Below WE.heap.size WE W → W.cell? ⟨kb, 0, none⟩ = some (.int .i64 4194304) ∧ W.cell? ⟨kb, 1, none⟩ = some (.int .i64 20) ∧ W.cell? ⟨kb, 2, none⟩ = some (.int .i64 10000)) := ⟨fun W hb => by
      have := (k9.below hbe).below hb
      exact ⟨this.at_ 0, this.at_ 1, this.at_ 2⟩⟩
    have HSS : Veil (∀ W, Below WE.heap.size WE W → W.cell? ⟨sb, 0, none⟩ = some (.slice none 0 0) ∧ W.cell? ⟨sb, 1, none⟩ = some (.bool false) ∧ W.cell? ⟨sb, 2, none⟩ = some (.slice none 0 0)) := ⟨fun W hb => by
      have := (s9.below hbe).below hb
      exact ⟨this.at_ 0, this.at_ 1, this.at_ 2⟩⟩
    have HBE : Veil (Below w.heap.size w WE) := ⟨blw2 b9 hbe⟩
    have HWE := Veil.mk hWE
    clear hJ hD2 q1 t2 s9 k9 hsbw b9 hbe hWE
    simp only [puts, setAll, List.set_cons_zero, List.set_cons_succ, List.setIfInBounds_toArray]
    go_upto_region 5 with (fail)
    refine wp_region_chain ([some (· = .pointer (some ⟨WE.heap.size + 1, 0, none⟩)), some (· = (Value.iface 85 (.agg #[]))), some (· = .agg #[.int .i64 4194304, .int .i64 20, .int .i64 10000]), some (· = .agg #[.slice none 0 0, .bool false, .slice none 0 0]), some (· = .agg (machC (.pointer (some ⟨WE.heap.size + 1, 0, none⟩)) (Value.iface 85 (.agg #[])))), some (· = .pointer (some ⟨WE.heap.size + 2, 0, none⟩)), some (· = .pointer (some ⟨WE.heap.size + 2, 0, none⟩))] : List (Option (Value → Prop))) (LPh [0, 5] (VmSt (Value.iface 85 (.agg #[])) WE)) [some 30, some 31, some 32, some 33, some 34, some 35, some 6] (curV' _ [some 30, some 31, some 32, some 33, some 34, some 35, some 6]) (by kernel_rfl) rfl rfl (puts_cur _ _) (LPh.start (show w9.drew = WE from HWE.out)) ?_ (by kernel_rfl) ?_
    · refine Steps.cons rfl (fun bb aa w' hbs hb0 hbp hI K hK => ?_) ?_
      · obtain ⟨us, hus, ha, hI⟩ := hI
        obtain ⟨u0, u1, u2, u3, u4, u5, u6, rfl⟩ := len7 hus
        have hst := hI.ph.at_ 0 0 rfl hb0 (.inl rfl)
        have HST := Veil.mk (show w' = WE from hst)
        have HNX := Veil.mk (heap_newx w')
        clear hst
        have HI := Veil.mk hI
        clear hI
        rw [ha]
        simp only [puts, setAll, List.setIfInBounds_toArray, List.set_cons_zero, List.set_cons_succ]
        go_simp
        go_at_call 57
        refine HNX.out.mono ?_
        rintro e9 w9 ⟨rfl, hb9, hp9, hs9⟩
        go_simp
        exact hK _ _ (chain_step HI.out hus hbs 0 (.pointer (some ⟨w'.heap.size + 1, 0, none⟩)) (by show 0 < 7; decide) rfl hbp (val_of rfl (by rw [HST.out])) (HI.out.ph.next 0 0 _ rfl hb0 (.inl rfl) (by decide) (show Below WE.heap.size WE w9 ∧ HpAt w9 WE.heap.size (WE.heap.size + 1) WE.heap.size (.slice none 0 0) (.slice none 0 0) (.slice none 0 0) emptyD ∧ w9.heap.size = WE.heap.size + 2 by rw [← HST.out]; exact ⟨hb9, hp9, hs9⟩)) (by simp only [puts, setAll, List.set_cons_zero, List.set_cons_succ, List.setIfInBounds_toArray]))
      refine Steps.cons rfl (fun bb aa w' hbs hb0 hbp hI K hK => ?_) ?_
      · obtain ⟨us, hus, ha, hI⟩ := hI
        obtain ⟨u0, u1, u2, u3, u4, u5, u6, rfl⟩ := len7 hus
        have HI := Veil.mk hI
        clear hI
        rw [ha]
        simp only [puts, setAll, List.setIfInBounds_toArray, List.set_cons_zero, List.set_cons_succ]
        go_simp
        exact hK _ _ (chain_step HI.out hus hbs 1 _ (by show 1 < 7; decide) rfl hbp (val_of rfl rfl) (HI.out.ph.step 1 _ (by decide) (by decide)) (by simp only [puts, setAll, List.set_cons_zero, List.set_cons_succ, List.setIfInBounds_toArray]))
      refine Steps.cons rfl (fun bb aa w' hbs hb0 hbp hI K hK => ?_) ?_
      · obtain ⟨us, hus, ha, hI⟩ := hI
        obtain ⟨u0, u1, u2, u3, u4, u5, u6, rfl⟩ := len7 hus
        have h4 := hI.before 4 2 rfl (by kernel_rfl) hb0
        have h5 := hI.before 5 4 rfl (by kernel_rfl) h4
        obtain ⟨sg, hsg, hstg⟩ := hI.ph.le 1 5 rfl h5
        have hbl := VmSt.below hsg hstg
        obtain ⟨c0, c1, c2⟩ := HBB.out w' hbl
        clear hstg hbl
        have HI := Veil.mk hI
        clear hI h5 h4
        rw [ha]
        simp only [puts, setAll, List.setIfInBounds_toArray, List.set_cons_zero, List.set_cons_succ]
        go_simp
        exact hK _ _ (chain_step HI.out hus hbs 2 _ (by show 2 < 7; decide) rfl hbp (val_of rfl rfl) (HI.out.ph.step 2 _ (by decide) (by decide)) (by simp only [puts, setAll, List.set_cons_zero, List.set_cons_succ, List.setIfInBounds_toArray]))
      refine Steps.cons rfl (fun bb aa w' hbs hb0 hbp hI K hK => ?_) ?_
      · obtain ⟨us, hus, ha, hI⟩ := hI
        obtain ⟨u0, u1, u2, u3, u4, u5, u6, rfl⟩ := len7 hus
        have h4 := hI.before 4 3 rfl (by kernel_rfl) hb0
        have h5 := hI.before 5 4 rfl (by kernel_rfl) h4
        obtain ⟨sg, hsg, hstg⟩ := hI.ph.le 1 5 rfl h5
        have hbl := VmSt.below hsg hstg
        obtain ⟨c0, c1, c2⟩ := HSS.out w' hbl
        clear hstg hbl
        have HI := Veil.mk hI
        clear hI h5 h4
        rw [ha]
        simp only [puts, setAll, List.setIfInBounds_toArray, List.set_cons_zero, List.set_cons_succ]
        go_simp
        exact hK _ _ (chain_step HI.out hus hbs 3 _ (by show 3 < 7; decide) rfl hbp (val_of rfl rfl) (HI.out.ph.step 3 _ (by decide) (by decide)) (by simp only [puts, setAll, List.set_cons_zero, List.set_cons_succ, List.setIfInBounds_toArray]))
      refine Steps.cons rfl (fun bb aa w' hbs hb0 hbp hI K hK => ?_) ?_
      · obtain ⟨us, hus, ha, hI⟩ := hI
        obtain ⟨u0, u1, u2, u3, u4, u5, u6, rfl⟩ := len7 hus
        have e0 : u0 = .pointer (some ⟨WE.heap.size + 1, 0, none⟩) := hI.val 0 _ rfl (gen_after 0 (by kernel_rfl) hbp)
        subst e0
        have e1 : u1 = (Value.iface 85 (.agg #[])) := hI.val 1 _ rfl (gen_after 1 (by kernel_rfl) hbp)
        subst e1
        have e2 : u2 = .agg #[.int .i64 4194304, .int .i64 20, .int .i64 10000] := hI.val 2 _ rfl (gen_after 2 (by kernel_rfl) hbp)
        subst e2
        have e3 : u3 = .agg #[.slice none 0 0, .bool false, .slice none 0 0] := hI.val 3 _ rfl (gen_after 3 (by kernel_rfl) hbp)
        subst e3
        have HI := Veil.mk hI
        clear hI
        rw [ha]
        simp only [puts, setAll, List.setIfInBounds_toArray, List.set_cons_zero, List.set_cons_succ]
        go_simp
        exact hK _ _ (chain_step HI.out hus hbs 4 _ (by show 4 < 7; decide) rfl hbp (val_of rfl rfl) (HI.out.ph.step 4 _ (by decide) (by decide)) (by simp only [puts, setAll, List.set_cons_zero, List.set_cons_succ, List.setIfInBounds_toArray]))
      refine Steps.cons rfl (fun bb aa w' hbs hb0 hbp hI K hK => ?_) ?_
      · obtain ⟨us, hus, ha, hI⟩ := hI
        obtain ⟨u0, u1, u2, u3, u4, u5, u6, rfl⟩ := len7 hus
        have e4 : u4 = .agg (machC (.pointer (some ⟨WE.heap.size + 1, 0, none⟩)) (Value.iface 85 (.agg #[]))) := hI.val 4 _ rfl (gen_after 4 (by kernel_rfl) hbp)
        subst e4
        have HB0 := hI.back 4 0 rfl (by kernel_rfl) (gen_after 4 (by kernel_rfl) hbp)
        have hst := hI.ph.at_ 1 5 rfl hb0 (.inr ⟨0, rfl, HB0⟩)
        have HST := Veil.mk (show Below WE.heap.size WE w' ∧ HpAt w' WE.heap.size (WE.heap.size + 1) WE.heap.size (.slice none 0 0) (.slice none 0 0) (.slice none 0 0) emptyD ∧ w'.heap.size = WE.heap.size + 2 from hst)
        have hal : Below w'.heap.size w' (w'.alloc (.cells (machC (.pointer (some ⟨WE.heap.size + 1, 0, none⟩)) (Value.iface 85 (.agg #[]))) 61)) := (Below.refl _ _).alloc (Nat.le_refl _) _
        have bxn := Box.new w' 61 (machC (.pointer (some ⟨WE.heap.size + 1, 0, none⟩)) (Value.iface 85 (.agg #[])))
        rw [HST.out.2.2] at bxn
        have HNX : Veil (Below WE.heap.size WE (w'.alloc (.cells (machC (.pointer (some ⟨WE.heap.size + 1, 0, none⟩)) (Value.iface 85 (.agg #[]))) 61)) ∧ HpAt (w'.alloc (.cells (machC (.pointer (some ⟨WE.heap.size + 1, 0, none⟩)) (Value.iface 85 (.agg #[]))) 61)) WE.heap.size (WE.heap.size + 1) WE.heap.size (.slice none 0 0) (.slice none 0 0) (.slice none 0 0) emptyD ∧ Box (w'.alloc (.cells (machC (.pointer (some ⟨WE.heap.size + 1, 0, none⟩)) (Value.iface 85 (.agg #[]))) 61)) (WE.heap.size + 2) 61 (machC (.pointer (some ⟨WE.heap.size + 1, 0, none⟩)) (Value.iface 85 (.agg #[])))) := ⟨HST.out.1.trans (hal.mono HST.out.1.size), ⟨HST.out.2.1.hb.below hal, HST.out.2.1.ar.on hal, HST.out.2.1.hB⟩, bxn⟩
        clear hst hal bxn
        have HI := Veil.mk hI
        clear hI
        rw [ha]
        simp only [puts, setAll, List.setIfInBounds_toArray, List.set_cons_zero, List.set_cons_succ]
        go_simp
        exact hK _ _ (chain_step HI.out hus hbs 5 (.pointer (some ⟨w'.heap.size, 0, none⟩)) (by show 5 < 7; decide) rfl hbp (val_of rfl (by rw [HST.out.2.2])) (HI.out.ph.next 1 5 _ rfl hb0 (.inr ⟨0, rfl, HB0⟩) (by decide) HNX.out) (by simp only [puts, setAll, List.set_cons_zero, List.set_cons_succ, List.setIfInBounds_toArray]))
      refine Steps.cons rfl (fun bb aa w' hbs hb0 hbp hI K hK => ?_) ?_
      · obtain ⟨us, hus, ha, hI⟩ := hI
        obtain ⟨u0, u1, u2, u3, u4, u5, u6, rfl⟩ := len7 hus
        have e5 : u5 = .pointer (some ⟨WE.heap.size + 2, 0, none⟩) := hI.val 5 _ rfl (gen_after 5 (by kernel_rfl) hbp)
        subst e5
        have HI := Veil.mk hI
        clear hI
        rw [ha]
        simp only [puts, setAll, List.setIfInBounds_toArray, List.set_cons_zero, List.set_cons_succ]
        go_simp
        exact hK _ _ (chain_step HI.out hus hbs 6 _ (by show 6 < 7; decide) rfl hbp (val_of rfl rfl) (HI.out.ph.step 6 _ (by decide) (by decide)) (by simp only [puts, setAll, List.set_cons_zero, List.set_cons_succ, List.setIfInBounds_toArray]))
      exact Steps.nil
    · intro us w7 hus dd hD2 hJ
      obtain ⟨r0, r1, r2, r3, r4, r5, r6, rfl⟩ := len7 hus
      have q1 := hJ.ph.all (fun c hc => hD2 c (by
        have : c = 0 ∨ c = 5 := by simpa using hc
        show c < 7
        omega))
      obtain ⟨g1, g2, g3⟩ := q1
      have e6 : r6 = .pointer (some ⟨WE.heap.size + 2, 0, none⟩) := hJ.val 6 _ rfl (hD2 6 (by show 6 < 7; decide))
      subst e6
      have HZ := Veil.mk (And.intro g1 (And.intro g2 g3))
      clear hJ hD2 g1 g2 g3
      simp only [puts, setAll, List.set_cons_zero, List.set_cons_succ, List.setIfInBounds_toArray]
      go_wp2
      go_ret
      exact ⟨_, _, _, rfl, HBE.out.size, (by omega), HZ.out.2.1, HZ.out.2.2, blw2 HBE.out HZ.out.1⟩
end Go.Proofs.YtgdkjkfbknbgkaaGreatDoor
