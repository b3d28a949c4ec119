/- grow: truths, texts, symbols, objects. -/
import Derived.Test.YtgdkjkfbknbgkaaGreatDoorKi
namespace Go.Proofs.YtgdkjkfbknbgkaaGreatDoor
open Go Go.RowKit
attribute [local go_sem] Oper.semAt_some

/-- Both results' boxes are filled by operations i8 and i9, with what j8 and j9 left; X says the rest. -/
structure P2 (vb rb i8 j8 i9 j9 : Nat) (X : (Nat → Bool) → (Nat → Value) → World → Prop) (d : Nat → Bool) (us : Nat → Value) (w : World) : Prop where
  s8 : d i8 = true → d j8 = true ∧ Box w vb 30 (flat (us j8))
  z8 : d i8 = false → Box w vb 30 #[.int .i64 0, .int .i64 0, .string ⟨#[]⟩]
  s9 : d i9 = true → d j9 = true ∧ Box w rb 33 (flat (us j9))
  z9 : d i9 = false → Box w rb 33 #[.int .i64 0, .int .i64 0, .string ⟨#[]⟩, .pointer none]
  x : X d us w
section
variable {vb rb i8 j8 i9 j9 : Nat} {X : (Nat → Bool) → (Nat → Value) → World → Prop} {d : Nat → Bool} {us : Nat → Value} {w w' : World}
theorem P2.step (h : P2 vb rb i8 j8 i9 j9 X d us w) (i : Nat) (v : Value) (h8 : i ≠ i8) (h9 : i ≠ i9) (hd : d i = false) (hv : vb < w.heap.size → w'.heap[vb]? = w.heap[vb]?) (hr : rb < w.heap.size → w'.heap[rb]? = w.heap[rb]?) (hX : X (upd d i true) (upd us i v) w') : P2 vb rb i8 j8 i9 j9 X (upd d i true) (upd us i v) w' := by
  refine ⟨fun e => ?_, fun e => ?_, fun e => ?_, fun e => ?_, hX⟩
  · rw [upd_ne _ _ (Ne.symm h8)] at e
    obtain ⟨h1, h2⟩ := h.s8 e
    have hj : j8 ≠ i := fun e2 => by subst e2; rw [h1] at hd; cases hd
    rw [upd_ne _ _ hj, upd_ne _ _ hj]
    exact ⟨h1, (hv h2.lt).trans h2⟩
  · rw [upd_ne _ _ (Ne.symm h8)] at e
    exact (hv (h.z8 e).lt).trans (h.z8 e)
  · rw [upd_ne _ _ (Ne.symm h9)] at e
    obtain ⟨h1, h2⟩ := h.s9 e
    have hj : j9 ≠ i := fun e2 => by subst e2; rw [h1] at hd; cases hd
    rw [upd_ne _ _ hj, upd_ne _ _ hj]
    exact ⟨h1, (hr h2.lt).trans h2⟩
  · rw [upd_ne _ _ (Ne.symm h9)] at e
    exact (hr (h.z9 e).lt).trans (h.z9 e)
theorem P2.pure (h : P2 vb rb i8 j8 i9 j9 X d us w) (i : Nat) (v : Value) (h8 : i ≠ i8) (h9 : i ≠ i9) (hd : d i = false) (hX : X (upd d i true) (upd us i v) w) : P2 vb rb i8 j8 i9 j9 X (upd d i true) (upd us i v) w := h.step i v h8 h9 hd (fun _ => rfl) (fun _ => rfl) hX
theorem P2.below (h : P2 vb rb i8 j8 i9 j9 X d us w) (i : Nat) (v : Value) (h8 : i ≠ i8) (h9 : i ≠ i9) (hd : d i = false) (hb : Below w.heap.size w w') (hX : X (upd d i true) (upd us i v) w') : P2 vb rb i8 j8 i9 j9 X (upd d i true) (upd us i v) w' := h.step i v h8 h9 hd (fun hl => hb.block _ hl) (fun hl => hb.block _ hl) hX
theorem P2.sto8 (h : P2 vb rb i8 j8 i9 j9 X d us w) (v : Vt) (u : Value) (hn : i8 ≠ i9) (hj8 : j8 ≠ i8) (hj9 : j9 ≠ i8) (hvr : vb ≠ rb) (hd : d i8 = false) (hj : d j8 = true) (hu : us j8 = valV v) (hX : X (upd d i8 true) (upd us i8 u) (st3 w vb v)) : P2 vb rb i8 j8 i9 j9 X (upd d i8 true) (upd us i8 u) (st3 w vb v) := by
  have ht := st3_touch w vb v
  refine ⟨fun _ => ?_, fun e => ?_, fun e => ?_, fun e => ?_, hX⟩
  · rw [upd_ne _ _ hj8, upd_ne _ _ hj8, hu]
    exact ⟨hj, st3_box rfl (h.z8 hd) v⟩
  · rw [upd_same] at e; cases e
  · rw [upd_ne _ _ (Ne.symm hn)] at e
    obtain ⟨h1, h2⟩ := h.s9 e
    rw [upd_ne _ _ hj9, upd_ne _ _ hj9]
    exact ⟨h1, h2.touch ht (Ne.symm hvr)⟩
  · rw [upd_ne _ _ (Ne.symm hn)] at e
    exact (h.z9 e).touch ht (Ne.symm hvr)
theorem P2.sto9 (h : P2 vb rb i8 j8 i9 j9 X d us w) (x : RVt) (u : Value) (hn : i8 ≠ i9) (hj8 : j8 ≠ i9) (hj9 : j9 ≠ i9) (hvr : vb ≠ rb) (hd : d i9 = false) (hj : d j9 = true) (hu : us j9 = RV x.1 x.2) (hX : X (upd d i9 true) (upd us i9 u) (st4 w rb x)) : P2 vb rb i8 j8 i9 j9 X (upd d i9 true) (upd us i9 u) (st4 w rb x) := by
  have ht := st4_touch w rb x
  refine ⟨fun e => ?_, fun e => ?_, fun _ => ?_, fun e => ?_, hX⟩
  · rw [upd_ne _ _ hn] at e
    obtain ⟨h1, h2⟩ := h.s8 e
    rw [upd_ne _ _ hj8, upd_ne _ _ hj8]
    exact ⟨h1, h2.touch ht hvr⟩
  · rw [upd_ne _ _ hn] at e
    exact (h.z8 e).touch ht hvr
  · rw [upd_ne _ _ hj9, upd_ne _ _ hj9, hu]
    exact ⟨hj, st4_box rfl (h.z9 hd) x⟩
  · rw [upd_same] at e; cases e
theorem P2.start {w : World} (hv : Box w vb 30 #[.int .i64 0, .int .i64 0, .string ⟨#[]⟩]) (hr : Box w rb 33 #[.int .i64 0, .int .i64 0, .string ⟨#[]⟩, .pointer none]) (hX : X (fun _ => false) us w) : P2 vb rb i8 j8 i9 j9 X (fun _ => false) us w :=
  ⟨fun e => (by cases e), fun _ => hv, fun e => (by cases e), fun _ => hr, hX⟩
end
abbrev X2 (WD : World) (vb rb : Nat) : (Nat → Bool) → (Nat → Value) → World → Prop := fun _ _ w => Touch (fun k => k = vb ∨ k = rb) WD w
section
variable {w : World} {h A m : Nat} {f : Nat → Int} {os : List OS}
set_option maxHeartbeats 2000000 in
set_option maxRecDepth 100000 in
theorem grow_bool (H : Y.MM w h A m f os) (a : Option Addr) (n c : Nat) (ps : List PI) (B : Nat) (HP : PlA w B a n ps) (hBA : B ≤ A) (hn5 : n ≤ 500) (at_ dp : Nat) {x : PI} (hx : ps[at_]? = some x) (hx1 : (x.k.tmod 12 + 12).tmod 12 = 2) (hx2 : (x.k.tmod 12 + 12) % 12 = 2) (hx3 : 0 < x.k.tmod 12 + 12) (hx4 : x.k.tmod 12 < 12) : Calls Tryz.prog 10 #[(.pointer (some ⟨m, 0, none⟩)), .agg #[.slice a n c], .int .i64 (at_ : Int), .int .i64 (dp : Int)] w (GPost w A h m f os n at_) := by
  obtain ⟨pb, hpb⟩ : ∃ pb, w.heap.size = pb := ⟨_, rfl⟩
  obtain ⟨vb, hvb⟩ : ∃ vb, pb + 1 = vb := ⟨_, rfl⟩
  obtain ⟨rb, hrb⟩ : ∃ rb, vb + 1 = rb := ⟨_, rfl⟩
  obtain ⟨W0, hW0⟩ : ∃ W0, ((w.alloc (.cells #[.slice a n c] 24)).alloc (.cells #[.int .i64 0, .int .i64 0, .string ⟨#[]⟩] 30)).alloc (.cells #[.int .i64 0, .int .i64 0, .string ⟨#[]⟩, .pointer none] 33) = W0 := ⟨_, rfl⟩
  have bx := frame0 w W0 #[.slice a n c] pb vb rb hpb hvb hrb hW0
  have HW0 := Veil.mk (And.intro hW0 (And.intro hpb (And.intro hvb hrb)))
  have x0 : W0.cell? ⟨pb, 0, none⟩ = some (.slice a n c) := bx.2.1.at_ 0
  have hmem := List.mem_of_getElem? hx
  have hlt0 : at_ < n := by have := (List.getElem?_eq_some_iff.1 hx).1; have := HP.len; omega
  have HP0 := HP.on (bx.1.mono (Nat.le_of_lt (Nat.lt_of_le_of_lt hBA H.alt)))
  obtain ⟨pa, po, rfl, hpl, hpc⟩ := HP0.cells (by omega)
  obtain ⟨c0, c1, c2⟩ := hpc at_ x hx
  obtain ⟨-, -, -, ⟨hn1, hn2⟩, sa, sc, e1, -⟩ := HP.rd x hmem
  rw [e1] at c2
  obtain ⟨xl, hxl⟩ : ∃ y, x.l.length = y := ⟨_, rfl⟩
  obtain ⟨xk, hxk⟩ : ∃ y, x.k = y := ⟨_, rfl⟩
  obtain ⟨xn, hxn⟩ : ∃ y, x.n = y := ⟨_, rfl⟩
  rw [hxl] at c2
  rw [hxk] at c0 hx1 hx2 hx3 hx4
  rw [hxn] at c1 hn1 hn2
  have hge : ¬ (n : Int) ≤ (at_ : Int) := by omega
  have hat : (at_ : Int) < (n : Int) := by omega
  have ha0 : (0 : Int) ≤ (at_ : Int) := by omega
  have han : (at_ : Int) ≤ 500 := by omega
  obtain ⟨xb, hxb⟩ : ∃ xb, W0.heap.size = xb := ⟨_, rfl⟩
  obtain ⟨W1, hW1⟩ : ∃ W1, W0.alloc (.cells #[.int .i64 xk, .int .i64 xn, .slice sa xl sc] 82) = W1 := ⟨_, rfl⟩
  have bz := frame1 bx hxb hW1
  have HW1 := Veil.mk (And.intro hW1 hxb)
  have y0 : W1.cell? ⟨xb, 0, none⟩ = some (.int .i64 xk) := bz.2.2.2.2.2.1.at_ 0
  have y1 : W1.cell? ⟨xb, 1, none⟩ = some (.int .i64 xn) := bz.2.2.2.2.2.1.at_ 1
  have y2 : W1.cell? ⟨xb, 2, none⟩ = some (.slice sa xl sc) := bz.2.2.2.2.2.1.at_ 2
  have p0 : W1.cell? ⟨pb, 0, none⟩ = some (.slice (some ⟨pa, po, none⟩) n c) := bz.2.1.at_ 0
  have HX := Veil.mk (And.intro H bz)
  have HQ := Veil.mk (And.intro HP (And.intro hmem (And.intro e1 (And.intro hxl (And.intro hxk hxn)))))
  have v0 : W1.cell? ⟨vb, 0, none⟩ = some (.int .i64 0) := bz.2.2.1.at_ 0
  have v1 : W1.cell? ⟨vb, 1, none⟩ = some (.int .i64 0) := bz.2.2.1.at_ 1
  have v2 : W1.cell? ⟨vb, 2, none⟩ = some (.string ⟨#[]⟩) := bz.2.2.1.at_ 2
  have r0 : W1.cell? ⟨rb, 0, none⟩ = some (.int .i64 0) := bz.2.2.2.1.at_ 0
  have r1 : W1.cell? ⟨rb, 1, none⟩ = some (.int .i64 0) := bz.2.2.2.1.at_ 1
  have r2 : W1.cell? ⟨rb, 2, none⟩ = some (.string ⟨#[]⟩) := bz.2.2.2.1.at_ 2
  have r3 : W1.cell? ⟨rb, 3, none⟩ = some (.pointer none) := bz.2.2.2.1.at_ 3
  have f0 := bz.2.2.1.free 0
  have f1 := bz.2.2.1.free 1
  have f2 := bz.2.2.1.free 2
  have g0 := bz.2.2.2.1.free 0
  have g1 := bz.2.2.2.1.free 1
  have g2 := bz.2.2.2.1.free 2
  have g3 := bz.2.2.2.1.free 3
  have hvr : (vb = rb) = False := by simp; have := HW0.out; omega
  have hrv : (rb = vb) = False := by simp; have := HW0.out; omega
  clear hge
  have hge : ¬ (n : Int) ≤ (at_ : Int) := by omega
  have hpl9 : True := trivial
  obtain ⟨q, hq1, hq2⟩ := mask 1 (by decide) xn
  have hq1 : bits .and .i64 xn 1 = (q : Int) := hq1
  have hq0 : (0 : Int) ≤ (q : Int) := by omega
  have hq3 : (q : Int) < 2 := by omega
  clear H bx bz hW0 hpb hvb hrb HP hW1 hxb HP0 hpc hx hxk hxn hxl hpl hmem e1
  go_enter Tryz.func10, Tryz.ntmps10
  go_upto_region 1 with (fail)
  rw [HW0.out.1, HW0.out.2.1, HW0.out.2.2.1, HW0.out.2.2.2]
  go_upto_region 4 with (fail)
  rw [HW1.out.1, HW1.out.2]
  clear c0 c1 c2 x0 hge hpl9
  go_upto_region 8 with (fail)
  obtain ⟨WD, hWD⟩ : ∃ WD, W1.drew = WD := ⟨_, rfl⟩
  have HXD : Veil (Below w.heap.size w WD) := ⟨by rw [← hWD]; exact HX.out.2.1.drew⟩
  have HXB : Veil (Box WD xb 82 #[.int .i64 xk, .int .i64 xn, .slice sa xl sc] ∧ ¬ (xb = vb ∨ xb = rb)) := ⟨by rw [← hWD]; exact HX.out.2.2.2.2.2.2.1.drew, by have := HW0.out.2; have := HX.out.2.2.2.2.2.1; omega⟩
  have HWD := Veil.mk hWD
  clear hWD
  have HNE : Veil (vb ≠ rb) := ⟨by have := HW0.out.2; omega⟩
  clear v0 v1 v2 r0 r1 r2 r3 f0 f1 f2 g0 g1 g2 g3 y0 y1 y2 p0 hvr hrv hx1 hx2 hx3 hx4
  refine wp_region_chain (some (· = (.int .i64 2)) :: some (· = (.pointer (some ⟨xb, 1, none⟩))) :: some (· = (.int .i64 xn)) :: some (· = (.int .i64 (q : Int))) :: some (· = (valV (2, (q : Int), ⟨#[]⟩))) :: some (· = (.int .i64 2)) :: some (· = (.pointer (some ⟨xb, 1, none⟩))) :: some (· = (.int .i64 xn)) :: some (· = (.int .i64 (q : Int))) :: some (· = (RV (2, (q : Int), ⟨#[]⟩) none)) :: some (· = (.int .i64 ((at_ : Int) + 1))) :: none :: none :: some (· = (.int .i64 ((at_ : Int) + 1))) :: [] : List (Option (Value → Prop))) (P2 vb rb 11 4 12 9 (X2 WD vb rb)) [some 49, some 50, some 51, some 52, some 53, some 54, some 55, some 56, some 57, some 58, some 59, none, none, some 10] (curV' _ [some 49, some 50, some 51, some 52, some 53, some 54, some 55, some 56, some 57, some 58, some 59, none, none, some 10]) (by kernel_rfl) rfl rfl (puts_cur _ _) (P2.start (show Box W1.drew vb _ _ from HX.out.2.2.2.1.drew) (show Box W1.drew rb _ _ from HX.out.2.2.2.2.1.drew) (show X2 WD vb rb _ _ W1.drew by rw [HWD.out]; exact Touch.refl _ _)) ?_ (by kernel_rfl) ?_
  · refine Steps.cons rfl (fun bb aa w' hbs hb0 hbp hI K hK => ?_) ?_
    · obtain ⟨us, hus, ha, hI⟩ := hI
      obtain ⟨u0, u1, u2, u3, u4, u5, u6, u7, u8, u9, u10, u11, u12, u13, rfl⟩ := lenA14 hus
      have HI := Veil.mk hI
      clear hI
      rw [ha]
      simp only [puts, setAll, List.setIfInBounds_toArray, List.set_cons_zero, List.set_cons_succ]
      go_simp
      exact hK _ _ (chain_step HI.out hus hbs 0 _ (by show 0 < 14; decide) rfl hbp (val_of rfl rfl) (HI.out.ph.pure 0 _ (by decide) (by decide) hb0 (HI.out.ph.x)) (by simp only [puts, setAll, List.set_cons_zero, List.set_cons_succ, List.setIfInBounds_toArray]))
    refine Steps.cons rfl (fun bb aa w' hbs hb0 hbp hI K hK => ?_) ?_
    · obtain ⟨us, hus, ha, hI⟩ := hI
      obtain ⟨u0, u1, u2, u3, u4, u5, u6, u7, u8, u9, u10, u11, u12, u13, rfl⟩ := lenA14 hus
      have HI := Veil.mk hI
      clear hI
      rw [ha]
      simp only [puts, setAll, List.setIfInBounds_toArray, List.set_cons_zero, List.set_cons_succ]
      go_simp
      exact hK _ _ (chain_step HI.out hus hbs 1 _ (by show 1 < 14; decide) rfl hbp (val_of rfl rfl) (HI.out.ph.pure 1 _ (by decide) (by decide) hb0 (HI.out.ph.x)) (by simp only [puts, setAll, List.set_cons_zero, List.set_cons_succ, List.setIfInBounds_toArray]))
    refine Steps.cons rfl (fun bb aa w' hbs hb0 hbp hI K hK => ?_) ?_
    · obtain ⟨us, hus, ha, hI⟩ := hI
      obtain ⟨u0, u1, u2, u3, u4, u5, u6, u7, u8, u9, u10, u11, u12, u13, rfl⟩ := lenA14 hus
      have e1 : u1 = (.pointer (some ⟨xb, 1, none⟩)) := hI.val 1 _ rfl (gen_after 1 (by kernel_rfl) hbp)
      subst e1
      have c0 : w'.cell? ⟨xb, 1, none⟩ = some (.int .i64 xn) := (HXB.out.1.touch hI.ph.x HXB.out.2).at_ 1
      have HI := Veil.mk hI
      clear hI
      rw [ha]
      simp only [puts, setAll, List.setIfInBounds_toArray, List.set_cons_zero, List.set_cons_succ]
      go_simp
      exact hK _ _ (chain_step HI.out hus hbs 2 _ (by show 2 < 14; decide) rfl hbp (val_of rfl rfl) (HI.out.ph.pure 2 _ (by decide) (by decide) hb0 (HI.out.ph.x)) (by simp only [puts, setAll, List.set_cons_zero, List.set_cons_succ, List.setIfInBounds_toArray]))
    refine Steps.cons rfl (fun bb aa w' hbs hb0 hbp hI K hK => ?_) ?_
    · obtain ⟨us, hus, ha, hI⟩ := hI
      obtain ⟨u0, u1, u2, u3, u4, u5, u6, u7, u8, u9, u10, u11, u12, u13, rfl⟩ := lenA14 hus
      have e2 : u2 = (.int .i64 xn) := hI.val 2 _ rfl (gen_after 2 (by kernel_rfl) hbp)
      subst e2
      have HI := Veil.mk hI
      clear hI
      rw [ha]
      simp only [puts, setAll, List.setIfInBounds_toArray, List.set_cons_zero, List.set_cons_succ]
      go_simp
      exact hK _ _ (chain_step HI.out hus hbs 3 _ (by show 3 < 14; decide) rfl hbp (val_of rfl rfl) (HI.out.ph.pure 3 _ (by decide) (by decide) hb0 (HI.out.ph.x)) (by simp only [puts, setAll, List.set_cons_zero, List.set_cons_succ, List.setIfInBounds_toArray]))
    refine Steps.cons rfl (fun bb aa w' hbs hb0 hbp hI K hK => ?_) ?_
    · obtain ⟨us, hus, ha, hI⟩ := hI
      obtain ⟨u0, u1, u2, u3, u4, u5, u6, u7, u8, u9, u10, u11, u12, u13, rfl⟩ := lenA14 hus
      have e0 : u0 = (.int .i64 2) := hI.val 0 _ rfl (gen_after 0 (by kernel_rfl) hbp)
      subst e0
      have e3 : u3 = (.int .i64 (q : Int)) := hI.val 3 _ rfl (gen_after 3 (by kernel_rfl) hbp)
      subst e3
      have HI := Veil.mk hI
      clear hI
      rw [ha]
      simp only [puts, setAll, List.setIfInBounds_toArray, List.set_cons_zero, List.set_cons_succ]
      go_simp
      exact hK _ _ (chain_step HI.out hus hbs 4 _ (by show 4 < 14; decide) rfl hbp (val_of rfl rfl) (HI.out.ph.pure 4 _ (by decide) (by decide) hb0 (HI.out.ph.x)) (by simp only [puts, setAll, List.set_cons_zero, List.set_cons_succ, List.setIfInBounds_toArray]))
    refine Steps.cons rfl (fun bb aa w' hbs hb0 hbp hI K hK => ?_) ?_
    · obtain ⟨us, hus, ha, hI⟩ := hI
      obtain ⟨u0, u1, u2, u3, u4, u5, u6, u7, u8, u9, u10, u11, u12, u13, rfl⟩ := lenA14 hus
      have HI := Veil.mk hI
      clear hI
      rw [ha]
      simp only [puts, setAll, List.setIfInBounds_toArray, List.set_cons_zero, List.set_cons_succ]
      go_simp
      exact hK _ _ (chain_step HI.out hus hbs 5 _ (by show 5 < 14; decide) rfl hbp (val_of rfl rfl) (HI.out.ph.pure 5 _ (by decide) (by decide) hb0 (HI.out.ph.x)) (by simp only [puts, setAll, List.set_cons_zero, List.set_cons_succ, List.setIfInBounds_toArray]))
    refine Steps.cons rfl (fun bb aa w' hbs hb0 hbp hI K hK => ?_) ?_
    · obtain ⟨us, hus, ha, hI⟩ := hI
      obtain ⟨u0, u1, u2, u3, u4, u5, u6, u7, u8, u9, u10, u11, u12, u13, rfl⟩ := lenA14 hus
      have HI := Veil.mk hI
      clear hI
      rw [ha]
      simp only [puts, setAll, List.setIfInBounds_toArray, List.set_cons_zero, List.set_cons_succ]
      go_simp
      exact hK _ _ (chain_step HI.out hus hbs 6 _ (by show 6 < 14; decide) rfl hbp (val_of rfl rfl) (HI.out.ph.pure 6 _ (by decide) (by decide) hb0 (HI.out.ph.x)) (by simp only [puts, setAll, List.set_cons_zero, List.set_cons_succ, List.setIfInBounds_toArray]))
    refine Steps.cons rfl (fun bb aa w' hbs hb0 hbp hI K hK => ?_) ?_
    · obtain ⟨us, hus, ha, hI⟩ := hI
      obtain ⟨u0, u1, u2, u3, u4, u5, u6, u7, u8, u9, u10, u11, u12, u13, rfl⟩ := lenA14 hus
      have e6 : u6 = (.pointer (some ⟨xb, 1, none⟩)) := hI.val 6 _ rfl (gen_after 6 (by kernel_rfl) hbp)
      subst e6
      have c0 : w'.cell? ⟨xb, 1, none⟩ = some (.int .i64 xn) := (HXB.out.1.touch hI.ph.x HXB.out.2).at_ 1
      have HI := Veil.mk hI
      clear hI
      rw [ha]
      simp only [puts, setAll, List.setIfInBounds_toArray, List.set_cons_zero, List.set_cons_succ]
      go_simp
      exact hK _ _ (chain_step HI.out hus hbs 7 _ (by show 7 < 14; decide) rfl hbp (val_of rfl rfl) (HI.out.ph.pure 7 _ (by decide) (by decide) hb0 (HI.out.ph.x)) (by simp only [puts, setAll, List.set_cons_zero, List.set_cons_succ, List.setIfInBounds_toArray]))
    refine Steps.cons rfl (fun bb aa w' hbs hb0 hbp hI K hK => ?_) ?_
    · obtain ⟨us, hus, ha, hI⟩ := hI
      obtain ⟨u0, u1, u2, u3, u4, u5, u6, u7, u8, u9, u10, u11, u12, u13, rfl⟩ := lenA14 hus
      have e7 : u7 = (.int .i64 xn) := hI.val 7 _ rfl (gen_after 7 (by kernel_rfl) hbp)
      subst e7
      have HI := Veil.mk hI
      clear hI
      rw [ha]
      simp only [puts, setAll, List.setIfInBounds_toArray, List.set_cons_zero, List.set_cons_succ]
      go_simp
      exact hK _ _ (chain_step HI.out hus hbs 8 _ (by show 8 < 14; decide) rfl hbp (val_of rfl rfl) (HI.out.ph.pure 8 _ (by decide) (by decide) hb0 (HI.out.ph.x)) (by simp only [puts, setAll, List.set_cons_zero, List.set_cons_succ, List.setIfInBounds_toArray]))
    refine Steps.cons rfl (fun bb aa w' hbs hb0 hbp hI K hK => ?_) ?_
    · obtain ⟨us, hus, ha, hI⟩ := hI
      obtain ⟨u0, u1, u2, u3, u4, u5, u6, u7, u8, u9, u10, u11, u12, u13, rfl⟩ := lenA14 hus
      have e5 : u5 = (.int .i64 2) := hI.val 5 _ rfl (gen_after 5 (by kernel_rfl) hbp)
      subst e5
      have e8 : u8 = (.int .i64 (q : Int)) := hI.val 8 _ rfl (gen_after 8 (by kernel_rfl) hbp)
      subst e8
      have HI := Veil.mk hI
      clear hI
      rw [ha]
      simp only [puts, setAll, List.setIfInBounds_toArray, List.set_cons_zero, List.set_cons_succ]
      go_simp
      exact hK _ _ (chain_step HI.out hus hbs 9 _ (by show 9 < 14; decide) rfl hbp (val_of rfl rfl) (HI.out.ph.pure 9 _ (by decide) (by decide) hb0 (HI.out.ph.x)) (by simp only [puts, setAll, List.set_cons_zero, List.set_cons_succ, List.setIfInBounds_toArray]))
    refine Steps.cons rfl (fun bb aa w' hbs hb0 hbp hI K hK => ?_) ?_
    · obtain ⟨us, hus, ha, hI⟩ := hI
      obtain ⟨u0, u1, u2, u3, u4, u5, u6, u7, u8, u9, u10, u11, u12, u13, rfl⟩ := lenA14 hus
      have HI := Veil.mk hI
      clear hI
      rw [ha]
      simp only [puts, setAll, List.setIfInBounds_toArray, List.set_cons_zero, List.set_cons_succ]
      go_simp
      exact hK _ _ (chain_step HI.out hus hbs 10 _ (by show 10 < 14; decide) rfl hbp (val_of rfl rfl) (HI.out.ph.pure 10 _ (by decide) (by decide) hb0 (HI.out.ph.x)) (by simp only [puts, setAll, List.set_cons_zero, List.set_cons_succ, List.setIfInBounds_toArray]))
    refine Steps.cons rfl (fun bb aa w' hbs hb0 hbp hI K hK => ?_) ?_
    · obtain ⟨us, hus, ha, hI⟩ := hI
      obtain ⟨u0, u1, u2, u3, u4, u5, u6, u7, u8, u9, u10, u11, u12, u13, rfl⟩ := lenA14 hus
      have e4 : u4 = (valV (2, (q : Int), ⟨#[]⟩)) := hI.val 4 _ rfl (gen_after 4 (by kernel_rfl) hbp)
      subst e4
      have hq := hI.ph.z8 hb0
      have hj := gen_after 4 (by kernel_rfl) hbp
      have z0 : w'.cell? ⟨vb, 0, none⟩ = some (.int .i64 0) := hq.at_ 0
      have z1 : w'.cell? ⟨vb, 1, none⟩ = some (.int .i64 0) := hq.at_ 1
      have z2 : w'.cell? ⟨vb, 2, none⟩ = some (.string ⟨#[]⟩) := hq.at_ 2
      have f0 := hq.free 0
      have f1 := hq.free 1
      have f2 := hq.free 2
      clear hq
      have HI := Veil.mk hI
      clear hI
      rw [ha]
      simp only [puts, setAll, List.setIfInBounds_toArray, List.set_cons_zero, List.set_cons_succ]
      go_simp
      exact hK _ _ (chain_step HI.out hus hbs 11 undef (by show 11 < 14; decide) rfl hbp (none_of rfl) (HI.out.ph.sto8 (2, (q : Int), ⟨#[]⟩) _ (by decide) (by decide) (by decide) HNE.out hb0 hj rfl (HI.out.ph.x.trans ((st3_touch _ _ _).mono (fun k hk => .inl hk)))) (by simp only [puts, setAll, List.set_cons_zero, List.set_cons_succ, List.setIfInBounds_toArray]))
    refine Steps.cons rfl (fun bb aa w' hbs hb0 hbp hI K hK => ?_) ?_
    · obtain ⟨us, hus, ha, hI⟩ := hI
      obtain ⟨u0, u1, u2, u3, u4, u5, u6, u7, u8, u9, u10, u11, u12, u13, rfl⟩ := lenA14 hus
      have e9 : u9 = (RV (2, (q : Int), ⟨#[]⟩) none) := hI.val 9 _ rfl (gen_after 9 (by kernel_rfl) hbp)
      subst e9
      have hq := hI.ph.z9 hb0
      have hj := gen_after 9 (by kernel_rfl) hbp
      have z0 : w'.cell? ⟨rb, 0, none⟩ = some (.int .i64 0) := hq.at_ 0
      have z1 : w'.cell? ⟨rb, 1, none⟩ = some (.int .i64 0) := hq.at_ 1
      have z2 : w'.cell? ⟨rb, 2, none⟩ = some (.string ⟨#[]⟩) := hq.at_ 2
      have z3 : w'.cell? ⟨rb, 3, none⟩ = some (.pointer none) := hq.at_ 3
      have f0 := hq.free 0
      have f1 := hq.free 1
      have f2 := hq.free 2
      have f3 := hq.free 3
      clear hq
      have HI := Veil.mk hI
      clear hI
      rw [ha]
      simp only [puts, setAll, List.setIfInBounds_toArray, List.set_cons_zero, List.set_cons_succ]
      go_simp
      exact hK _ _ (chain_step HI.out hus hbs 12 undef (by show 12 < 14; decide) rfl hbp (none_of rfl) (HI.out.ph.sto9 ((2, (q : Int), ⟨#[]⟩), none) _ (by decide) (by decide) (by decide) HNE.out hb0 hj rfl (HI.out.ph.x.trans ((st4_touch _ _ _).mono (fun k hk => .inr hk)))) (by simp only [puts, setAll, List.set_cons_zero, List.set_cons_succ, List.setIfInBounds_toArray]))
    refine Steps.cons rfl (fun bb aa w' hbs hb0 hbp hI K hK => ?_) ?_
    · obtain ⟨us, hus, ha, hI⟩ := hI
      obtain ⟨u0, u1, u2, u3, u4, u5, u6, u7, u8, u9, u10, u11, u12, u13, rfl⟩ := lenA14 hus
      have e10 : u10 = (.int .i64 ((at_ : Int) + 1)) := hI.val 10 _ rfl (gen_after 10 (by kernel_rfl) hbp)
      subst e10
      have HI := Veil.mk hI
      clear hI
      rw [ha]
      simp only [puts, setAll, List.setIfInBounds_toArray, List.set_cons_zero, List.set_cons_succ]
      go_simp
      exact hK _ _ (chain_step HI.out hus hbs 13 _ (by show 13 < 14; decide) rfl hbp (val_of rfl rfl) (HI.out.ph.pure 13 _ (by decide) (by decide) hb0 (HI.out.ph.x)) (by simp only [puts, setAll, List.set_cons_zero, List.set_cons_succ, List.setIfInBounds_toArray]))
    exact Steps.nil
  · intro us wE hus dd hD2 hJ
    obtain ⟨p0, p1, p2, p3, p4, p5, p6, p7, p8, p9, p10, p11, p12, p13, rfl⟩ := lenA14 hus
    have hph := hJ.ph
    have e0 : p0 = (.int .i64 2) := hJ.val 0 _ rfl (hD2 0 (by show 0 < 14; decide))
    subst e0
    have e1 : p1 = (.pointer (some ⟨xb, 1, none⟩)) := hJ.val 1 _ rfl (hD2 1 (by show 1 < 14; decide))
    subst e1
    have e2 : p2 = (.int .i64 xn) := hJ.val 2 _ rfl (hD2 2 (by show 2 < 14; decide))
    subst e2
    have e3 : p3 = (.int .i64 (q : Int)) := hJ.val 3 _ rfl (hD2 3 (by show 3 < 14; decide))
    subst e3
    have e4 : p4 = (valV (2, (q : Int), ⟨#[]⟩)) := hJ.val 4 _ rfl (hD2 4 (by show 4 < 14; decide))
    subst e4
    have e5 : p5 = (.int .i64 2) := hJ.val 5 _ rfl (hD2 5 (by show 5 < 14; decide))
    subst e5
    have e6 : p6 = (.pointer (some ⟨xb, 1, none⟩)) := hJ.val 6 _ rfl (hD2 6 (by show 6 < 14; decide))
    subst e6
    have e7 : p7 = (.int .i64 xn) := hJ.val 7 _ rfl (hD2 7 (by show 7 < 14; decide))
    subst e7
    have e8 : p8 = (.int .i64 (q : Int)) := hJ.val 8 _ rfl (hD2 8 (by show 8 < 14; decide))
    subst e8
    have e9 : p9 = (RV (2, (q : Int), ⟨#[]⟩) none) := hJ.val 9 _ rfl (hD2 9 (by show 9 < 14; decide))
    subst e9
    have e10 : p10 = (.int .i64 ((at_ : Int) + 1)) := hJ.val 10 _ rfl (hD2 10 (by show 10 < 14; decide))
    subst e10
    have e13 : p13 = (.int .i64 ((at_ : Int) + 1)) := hJ.val 13 _ rfl (hD2 13 (by show 13 < 14; decide))
    subst e13
    clear hJ
    have q1 : Box wE vb _ (vC (2, (q : Int), ⟨#[]⟩)) := (hph.s8 (hD2 11 (by show 11 < 14; decide))).2
    have q2 : Box wE rb _ (rC ((2, (q : Int), ⟨#[]⟩), none)) := (hph.s9 (hD2 12 (by show 12 < 14; decide))).2
    have q3 := hph.x
    clear hph hD2
    have y0 := q1.at_ 0
    have y1 := q1.at_ 1
    have y2 := q1.at_ 2
    have z0 := q2.at_ 0
    have z1 := q2.at_ 1
    have z2 := q2.at_ 2
    have z3 := q2.at_ 3
    have HQ3 := Veil.mk q3
    clear q1 q2 q3
    simp only [puts, setAll, List.setIfInBounds_toArray, List.set_cons_zero, List.set_cons_succ]
    go_wp2
    exact bodyPost_ret (v := .tuple #[valV (2, (q : Int), ⟨#[]⟩), RV (2, (q : Int), ⟨#[]⟩) none, .int .i64 ((at_ + 1 : Nat) : Int)]) (by simp [results, Tryz.results10, go_sem, y0, y1, y2, z0, z1, z2, z3]) rfl (GPost.leaf HX.out.1 n at_ (at_ + 1) (by omega) (by omega) (2, (q : Int), ⟨#[]⟩) (.inr (.inl ⟨rfl, by show (q : Int) = 0 ∨ (q : Int) = 1; omega, rfl⟩)) (by show (2 : Int) ≠ 8; decide) (by show (2 : Int) ≠ 9; decide) _ (Touch.fresh HXD.out HQ3.out (fun k hk => by have := HW0.out.2; rcases hk with rfl | rfl <;> omega)))
set_option maxHeartbeats 2000000 in
set_option maxRecDepth 100000 in
theorem grow_str (H : Y.MM w h A m f os) (a : Option Addr) (n c : Nat) (ps : List PI) (B : Nat) (HP : PlA w B a n ps) (hBA : B ≤ A) (hn5 : n ≤ 500) (at_ dp : Nat) {x : PI} (hx : ps[at_]? = some x) (hx1 : (x.k.tmod 12 + 12).tmod 12 = 7) (hx2 : (x.k.tmod 12 + 12) % 12 = 7) (hx3 : 0 < x.k.tmod 12 + 12) (hx4 : x.k.tmod 12 < 12) (hp5 : ∀ x ∈ ps, x.l.length ≤ 500) : Calls Tryz.prog 10 #[(.pointer (some ⟨m, 0, none⟩)), .agg #[.slice a n c], .int .i64 (at_ : Int), .int .i64 (dp : Int)] w (GPost w A h m f os n at_) := by
  obtain ⟨pb, hpb⟩ : ∃ pb, w.heap.size = pb := ⟨_, rfl⟩
  obtain ⟨vb, hvb⟩ : ∃ vb, pb + 1 = vb := ⟨_, rfl⟩
  obtain ⟨rb, hrb⟩ : ∃ rb, vb + 1 = rb := ⟨_, rfl⟩
  obtain ⟨W0, hW0⟩ : ∃ W0, ((w.alloc (.cells #[.slice a n c] 24)).alloc (.cells #[.int .i64 0, .int .i64 0, .string ⟨#[]⟩] 30)).alloc (.cells #[.int .i64 0, .int .i64 0, .string ⟨#[]⟩, .pointer none] 33) = W0 := ⟨_, rfl⟩
  have bx := frame0 w W0 #[.slice a n c] pb vb rb hpb hvb hrb hW0
  have HW0 := Veil.mk (And.intro hW0 (And.intro hpb (And.intro hvb hrb)))
  have x0 : W0.cell? ⟨pb, 0, none⟩ = some (.slice a n c) := bx.2.1.at_ 0
  have hmem := List.mem_of_getElem? hx
  have hlt0 : at_ < n := by have := (List.getElem?_eq_some_iff.1 hx).1; have := HP.len; omega
  have HP0 := HP.on (bx.1.mono (Nat.le_of_lt (Nat.lt_of_le_of_lt hBA H.alt)))
  obtain ⟨pa, po, rfl, hpl, hpc⟩ := HP0.cells (by omega)
  obtain ⟨c0, c1, c2⟩ := hpc at_ x hx
  obtain ⟨-, -, -, ⟨hn1, hn2⟩, sa, sc, e1, -⟩ := HP.rd x hmem
  rw [e1] at c2
  obtain ⟨xl, hxl⟩ : ∃ y, x.l.length = y := ⟨_, rfl⟩
  obtain ⟨xk, hxk⟩ : ∃ y, x.k = y := ⟨_, rfl⟩
  obtain ⟨xn, hxn⟩ : ∃ y, x.n = y := ⟨_, rfl⟩
  rw [hxl] at c2
  rw [hxk] at c0 hx1 hx2 hx3 hx4
  rw [hxn] at c1 hn1 hn2
  have hge : ¬ (n : Int) ≤ (at_ : Int) := by omega
  have hat : (at_ : Int) < (n : Int) := by omega
  have ha0 : (0 : Int) ≤ (at_ : Int) := by omega
  have han : (at_ : Int) ≤ 500 := by omega
  obtain ⟨xb, hxb⟩ : ∃ xb, W0.heap.size = xb := ⟨_, rfl⟩
  obtain ⟨W1, hW1⟩ : ∃ W1, W0.alloc (.cells #[.int .i64 xk, .int .i64 xn, .slice sa xl sc] 82) = W1 := ⟨_, rfl⟩
  have bz := frame1 bx hxb hW1
  have HW1 := Veil.mk (And.intro hW1 hxb)
  have y0 : W1.cell? ⟨xb, 0, none⟩ = some (.int .i64 xk) := bz.2.2.2.2.2.1.at_ 0
  have y1 : W1.cell? ⟨xb, 1, none⟩ = some (.int .i64 xn) := bz.2.2.2.2.2.1.at_ 1
  have y2 : W1.cell? ⟨xb, 2, none⟩ = some (.slice sa xl sc) := bz.2.2.2.2.2.1.at_ 2
  have p0 : W1.cell? ⟨pb, 0, none⟩ = some (.slice (some ⟨pa, po, none⟩) n c) := bz.2.1.at_ 0
  have HX := Veil.mk (And.intro H bz)
  have HQ := Veil.mk (And.intro HP (And.intro hmem (And.intro e1 (And.intro hxl (And.intro hxk hxn)))))
  have v0 : W1.cell? ⟨vb, 0, none⟩ = some (.int .i64 0) := bz.2.2.1.at_ 0
  have v1 : W1.cell? ⟨vb, 1, none⟩ = some (.int .i64 0) := bz.2.2.1.at_ 1
  have v2 : W1.cell? ⟨vb, 2, none⟩ = some (.string ⟨#[]⟩) := bz.2.2.1.at_ 2
  have r0 : W1.cell? ⟨rb, 0, none⟩ = some (.int .i64 0) := bz.2.2.2.1.at_ 0
  have r1 : W1.cell? ⟨rb, 1, none⟩ = some (.int .i64 0) := bz.2.2.2.1.at_ 1
  have r2 : W1.cell? ⟨rb, 2, none⟩ = some (.string ⟨#[]⟩) := bz.2.2.2.1.at_ 2
  have r3 : W1.cell? ⟨rb, 3, none⟩ = some (.pointer none) := bz.2.2.2.1.at_ 3
  have f0 := bz.2.2.1.free 0
  have f1 := bz.2.2.1.free 1
  have f2 := bz.2.2.1.free 2
  have g0 := bz.2.2.2.1.free 0
  have g1 := bz.2.2.2.1.free 1
  have g2 := bz.2.2.2.1.free 2
  have g3 := bz.2.2.2.1.free 3
  have hvr : (vb = rb) = False := by simp; have := HW0.out; omega
  have hrv : (rb = vb) = False := by simp; have := HW0.out; omega
  clear hge
  have hge : ¬ (n : Int) ≤ (at_ : Int) := by omega
  have hpl9 : True := trivial
  obtain ⟨S, hS⟩ : ∃ S, (⟨(x.l.flatMap W.u2).toArray⟩ : ByteArray) = S := ⟨_, rfl⟩
  have hxr := HP.rd x hmem
  have hp5 := hp5 x hmem
  have HSTR : Veil (∀ w', Below w.heap.size w w' → Calls Tryz.prog 15 #[.slice sa xl sc] w' fun e w9 => e = .returned (.string S) ∧ Below w'.heap.size w' w9) := ⟨fun w' hb => by
    have hBw : B ≤ w.heap.size := Nat.le_of_lt (Nat.lt_of_le_of_lt hBA H.alt)
    obtain ⟨sa2, c9, e9, hN⟩ := (HP.on (hb.mono hBw)).nums (Nat.le_trans hBw hb.size) x hmem
    rw [e1] at e9
    injection e9 with q1 q2 q3
    subst q1
    rw [hxl] at hN hp5
    rw [← hS]
    exact W.lawStr_any sa xl sc x.l (by omega) hxr.1 w' hN⟩
  have HWV : Veil (WV 7 0 S) := ⟨.inr (.inr (.inr (.inl ⟨rfl, rfl, x.l, hxr.1, by omega, hS.symm⟩)))⟩
  clear hxr hp5 hS
  clear H bx bz hW0 hpb hvb hrb HP hW1 hxb HP0 hpc hx hxk hxn hxl hpl hmem e1
  go_enter Tryz.func10, Tryz.ntmps10
  go_upto_region 1 with (fail)
  rw [HW0.out.1, HW0.out.2.1, HW0.out.2.2.1, HW0.out.2.2.2]
  go_upto_region 4 with (fail)
  rw [HW1.out.1, HW1.out.2]
  clear c0 c1 c2 x0 hge hpl9
  go_upto_region 16 with (fail)
  obtain ⟨WD, hWD⟩ : ∃ WD, W1.drew = WD := ⟨_, rfl⟩
  have HXD : Veil (Below w.heap.size w WD) := ⟨by rw [← hWD]; exact HX.out.2.1.drew⟩
  have HXB : Veil (Box WD xb 82 #[.int .i64 xk, .int .i64 xn, .slice sa xl sc] ∧ ¬ (xb = vb ∨ xb = rb)) := ⟨by rw [← hWD]; exact HX.out.2.2.2.2.2.2.1.drew, by have := HW0.out.2; have := HX.out.2.2.2.2.2.1; omega⟩
  have HWD := Veil.mk hWD
  clear hWD
  have HNE : Veil (vb ≠ rb) := ⟨by have := HW0.out.2; omega⟩
  clear v0 v1 v2 r0 r1 r2 r3 f0 f1 f2 g0 g1 g2 g3 y0 y1 y2 p0 hvr hrv hx1 hx2 hx3 hx4
  refine wp_region_chain (some (· = (.int .i64 7)) :: some (· = (.pointer (some ⟨xb, 2, none⟩))) :: some (· = (.slice sa xl sc)) :: some (· = (.string S)) :: some (· = (valV (7, 0, S))) :: some (· = (.int .i64 7)) :: some (· = (.pointer (some ⟨xb, 2, none⟩))) :: some (· = (.slice sa xl sc)) :: some (· = (.string S)) :: some (· = (RV (7, 0, S) none)) :: some (· = (.int .i64 ((at_ : Int) + 1))) :: none :: none :: some (· = (.int .i64 ((at_ : Int) + 1))) :: [] : List (Option (Value → Prop))) (P2 vb rb 11 4 12 9 (X2 WD vb rb)) [some 88, some 89, some 90, some 91, some 92, some 93, some 94, some 95, some 96, some 97, some 98, none, none, some 10] (curV' _ [some 88, some 89, some 90, some 91, some 92, some 93, some 94, some 95, some 96, some 97, some 98, none, none, some 10]) (by kernel_rfl) rfl rfl (puts_cur _ _) (P2.start (show Box W1.drew vb _ _ from HX.out.2.2.2.1.drew) (show Box W1.drew rb _ _ from HX.out.2.2.2.2.1.drew) (show X2 WD vb rb _ _ W1.drew by rw [HWD.out]; exact Touch.refl _ _)) ?_ (by kernel_rfl) ?_
  · refine Steps.cons rfl (fun bb aa w' hbs hb0 hbp hI K hK => ?_) ?_
    · obtain ⟨us, hus, ha, hI⟩ := hI
      obtain ⟨u0, u1, u2, u3, u4, u5, u6, u7, u8, u9, u10, u11, u12, u13, rfl⟩ := lenA14 hus
      have HI := Veil.mk hI
      clear hI
      rw [ha]
      simp only [puts, setAll, List.setIfInBounds_toArray, List.set_cons_zero, List.set_cons_succ]
      go_simp
      exact hK _ _ (chain_step HI.out hus hbs 0 _ (by show 0 < 14; decide) rfl hbp (val_of rfl rfl) (HI.out.ph.pure 0 _ (by decide) (by decide) hb0 (HI.out.ph.x)) (by simp only [puts, setAll, List.set_cons_zero, List.set_cons_succ, List.setIfInBounds_toArray]))
    refine Steps.cons rfl (fun bb aa w' hbs hb0 hbp hI K hK => ?_) ?_
    · obtain ⟨us, hus, ha, hI⟩ := hI
      obtain ⟨u0, u1, u2, u3, u4, u5, u6, u7, u8, u9, u10, u11, u12, u13, rfl⟩ := lenA14 hus
      have HI := Veil.mk hI
      clear hI
      rw [ha]
      simp only [puts, setAll, List.setIfInBounds_toArray, List.set_cons_zero, List.set_cons_succ]
      go_simp
      exact hK _ _ (chain_step HI.out hus hbs 1 _ (by show 1 < 14; decide) rfl hbp (val_of rfl rfl) (HI.out.ph.pure 1 _ (by decide) (by decide) hb0 (HI.out.ph.x)) (by simp only [puts, setAll, List.set_cons_zero, List.set_cons_succ, List.setIfInBounds_toArray]))
    refine Steps.cons rfl (fun bb aa w' hbs hb0 hbp hI K hK => ?_) ?_
    · obtain ⟨us, hus, ha, hI⟩ := hI
      obtain ⟨u0, u1, u2, u3, u4, u5, u6, u7, u8, u9, u10, u11, u12, u13, rfl⟩ := lenA14 hus
      have e1 : u1 = (.pointer (some ⟨xb, 2, none⟩)) := hI.val 1 _ rfl (gen_after 1 (by kernel_rfl) hbp)
      subst e1
      have c0 : w'.cell? ⟨xb, 2, none⟩ = some (.slice sa xl sc) := (HXB.out.1.touch hI.ph.x HXB.out.2).at_ 2
      have HI := Veil.mk hI
      clear hI
      rw [ha]
      simp only [puts, setAll, List.setIfInBounds_toArray, List.set_cons_zero, List.set_cons_succ]
      go_simp
      exact hK _ _ (chain_step HI.out hus hbs 2 _ (by show 2 < 14; decide) rfl hbp (val_of rfl rfl) (HI.out.ph.pure 2 _ (by decide) (by decide) hb0 (HI.out.ph.x)) (by simp only [puts, setAll, List.set_cons_zero, List.set_cons_succ, List.setIfInBounds_toArray]))
    refine Steps.cons rfl (fun bb aa w' hbs hb0 hbp hI K hK => ?_) ?_
    · obtain ⟨us, hus, ha, hI⟩ := hI
      obtain ⟨u0, u1, u2, u3, u4, u5, u6, u7, u8, u9, u10, u11, u12, u13, rfl⟩ := lenA14 hus
      have e2 : u2 = (.slice sa xl sc) := hI.val 2 _ rfl (gen_after 2 (by kernel_rfl) hbp)
      subst e2
      have HX9 := Veil.mk (HSTR.out w' (Touch.fresh HXD.out hI.ph.x (fun k hk => by have := HW0.out.2; rcases hk with rfl | rfl <;> omega)))
      have HI := Veil.mk hI
      clear hI
      rw [ha]
      simp only [puts, setAll, List.setIfInBounds_toArray, List.set_cons_zero, List.set_cons_succ]
      go_simp
      go_at_call 15
      refine HX9.out.mono ?_
      rintro e9 w9 ⟨rfl, hb9⟩
      go_simp
      exact hK _ _ (chain_step HI.out hus hbs 3 _ (by show 3 < 14; decide) rfl hbp (val_of rfl rfl) (HI.out.ph.below 3 _ (by decide) (by decide) hb0 hb9 (HI.out.ph.x.trans (Touch.of_below hb9))) (by simp only [puts, setAll, List.set_cons_zero, List.set_cons_succ, List.setIfInBounds_toArray]))
    refine Steps.cons rfl (fun bb aa w' hbs hb0 hbp hI K hK => ?_) ?_
    · obtain ⟨us, hus, ha, hI⟩ := hI
      obtain ⟨u0, u1, u2, u3, u4, u5, u6, u7, u8, u9, u10, u11, u12, u13, rfl⟩ := lenA14 hus
      have e0 : u0 = (.int .i64 7) := hI.val 0 _ rfl (gen_after 0 (by kernel_rfl) hbp)
      subst e0
      have e3 : u3 = (.string S) := hI.val 3 _ rfl (gen_after 3 (by kernel_rfl) hbp)
      subst e3
      have HI := Veil.mk hI
      clear hI
      rw [ha]
      simp only [puts, setAll, List.setIfInBounds_toArray, List.set_cons_zero, List.set_cons_succ]
      go_simp
      exact hK _ _ (chain_step HI.out hus hbs 4 _ (by show 4 < 14; decide) rfl hbp (val_of rfl rfl) (HI.out.ph.pure 4 _ (by decide) (by decide) hb0 (HI.out.ph.x)) (by simp only [puts, setAll, List.set_cons_zero, List.set_cons_succ, List.setIfInBounds_toArray]))
    refine Steps.cons rfl (fun bb aa w' hbs hb0 hbp hI K hK => ?_) ?_
    · obtain ⟨us, hus, ha, hI⟩ := hI
      obtain ⟨u0, u1, u2, u3, u4, u5, u6, u7, u8, u9, u10, u11, u12, u13, rfl⟩ := lenA14 hus
      have HI := Veil.mk hI
      clear hI
      rw [ha]
      simp only [puts, setAll, List.setIfInBounds_toArray, List.set_cons_zero, List.set_cons_succ]
      go_simp
      exact hK _ _ (chain_step HI.out hus hbs 5 _ (by show 5 < 14; decide) rfl hbp (val_of rfl rfl) (HI.out.ph.pure 5 _ (by decide) (by decide) hb0 (HI.out.ph.x)) (by simp only [puts, setAll, List.set_cons_zero, List.set_cons_succ, List.setIfInBounds_toArray]))
    refine Steps.cons rfl (fun bb aa w' hbs hb0 hbp hI K hK => ?_) ?_
    · obtain ⟨us, hus, ha, hI⟩ := hI
      obtain ⟨u0, u1, u2, u3, u4, u5, u6, u7, u8, u9, u10, u11, u12, u13, rfl⟩ := lenA14 hus
      have HI := Veil.mk hI
      clear hI
      rw [ha]
      simp only [puts, setAll, List.setIfInBounds_toArray, List.set_cons_zero, List.set_cons_succ]
      go_simp
      exact hK _ _ (chain_step HI.out hus hbs 6 _ (by show 6 < 14; decide) rfl hbp (val_of rfl rfl) (HI.out.ph.pure 6 _ (by decide) (by decide) hb0 (HI.out.ph.x)) (by simp only [puts, setAll, List.set_cons_zero, List.set_cons_succ, List.setIfInBounds_toArray]))
    refine Steps.cons rfl (fun bb aa w' hbs hb0 hbp hI K hK => ?_) ?_
    · obtain ⟨us, hus, ha, hI⟩ := hI
      obtain ⟨u0, u1, u2, u3, u4, u5, u6, u7, u8, u9, u10, u11, u12, u13, rfl⟩ := lenA14 hus
      have e6 : u6 = (.pointer (some ⟨xb, 2, none⟩)) := hI.val 6 _ rfl (gen_after 6 (by kernel_rfl) hbp)
      subst e6
      have c0 : w'.cell? ⟨xb, 2, none⟩ = some (.slice sa xl sc) := (HXB.out.1.touch hI.ph.x HXB.out.2).at_ 2
      have HI := Veil.mk hI
      clear hI
      rw [ha]
      simp only [puts, setAll, List.setIfInBounds_toArray, List.set_cons_zero, List.set_cons_succ]
      go_simp
      exact hK _ _ (chain_step HI.out hus hbs 7 _ (by show 7 < 14; decide) rfl hbp (val_of rfl rfl) (HI.out.ph.pure 7 _ (by decide) (by decide) hb0 (HI.out.ph.x)) (by simp only [puts, setAll, List.set_cons_zero, List.set_cons_succ, List.setIfInBounds_toArray]))
    refine Steps.cons rfl (fun bb aa w' hbs hb0 hbp hI K hK => ?_) ?_
    · obtain ⟨us, hus, ha, hI⟩ := hI
      obtain ⟨u0, u1, u2, u3, u4, u5, u6, u7, u8, u9, u10, u11, u12, u13, rfl⟩ := lenA14 hus
      have e7 : u7 = (.slice sa xl sc) := hI.val 7 _ rfl (gen_after 7 (by kernel_rfl) hbp)
      subst e7
      have HX9 := Veil.mk (HSTR.out w' (Touch.fresh HXD.out hI.ph.x (fun k hk => by have := HW0.out.2; rcases hk with rfl | rfl <;> omega)))
      have HI := Veil.mk hI
      clear hI
      rw [ha]
      simp only [puts, setAll, List.setIfInBounds_toArray, List.set_cons_zero, List.set_cons_succ]
      go_simp
      go_at_call 15
      refine HX9.out.mono ?_
      rintro e9 w9 ⟨rfl, hb9⟩
      go_simp
      exact hK _ _ (chain_step HI.out hus hbs 8 _ (by show 8 < 14; decide) rfl hbp (val_of rfl rfl) (HI.out.ph.below 8 _ (by decide) (by decide) hb0 hb9 (HI.out.ph.x.trans (Touch.of_below hb9))) (by simp only [puts, setAll, List.set_cons_zero, List.set_cons_succ, List.setIfInBounds_toArray]))
    refine Steps.cons rfl (fun bb aa w' hbs hb0 hbp hI K hK => ?_) ?_
    · obtain ⟨us, hus, ha, hI⟩ := hI
      obtain ⟨u0, u1, u2, u3, u4, u5, u6, u7, u8, u9, u10, u11, u12, u13, rfl⟩ := lenA14 hus
      have e5 : u5 = (.int .i64 7) := hI.val 5 _ rfl (gen_after 5 (by kernel_rfl) hbp)
      subst e5
      have e8 : u8 = (.string S) := hI.val 8 _ rfl (gen_after 8 (by kernel_rfl) hbp)
      subst e8
      have HI := Veil.mk hI
      clear hI
      rw [ha]
      simp only [puts, setAll, List.setIfInBounds_toArray, List.set_cons_zero, List.set_cons_succ]
      go_simp
      exact hK _ _ (chain_step HI.out hus hbs 9 _ (by show 9 < 14; decide) rfl hbp (val_of rfl rfl) (HI.out.ph.pure 9 _ (by decide) (by decide) hb0 (HI.out.ph.x)) (by simp only [puts, setAll, List.set_cons_zero, List.set_cons_succ, List.setIfInBounds_toArray]))
    refine Steps.cons rfl (fun bb aa w' hbs hb0 hbp hI K hK => ?_) ?_
    · obtain ⟨us, hus, ha, hI⟩ := hI
      obtain ⟨u0, u1, u2, u3, u4, u5, u6, u7, u8, u9, u10, u11, u12, u13, rfl⟩ := lenA14 hus
      have HI := Veil.mk hI
      clear hI
      rw [ha]
      simp only [puts, setAll, List.setIfInBounds_toArray, List.set_cons_zero, List.set_cons_succ]
      go_simp
      exact hK _ _ (chain_step HI.out hus hbs 10 _ (by show 10 < 14; decide) rfl hbp (val_of rfl rfl) (HI.out.ph.pure 10 _ (by decide) (by decide) hb0 (HI.out.ph.x)) (by simp only [puts, setAll, List.set_cons_zero, List.set_cons_succ, List.setIfInBounds_toArray]))
    refine Steps.cons rfl (fun bb aa w' hbs hb0 hbp hI K hK => ?_) ?_
    · obtain ⟨us, hus, ha, hI⟩ := hI
      obtain ⟨u0, u1, u2, u3, u4, u5, u6, u7, u8, u9, u10, u11, u12, u13, rfl⟩ := lenA14 hus
      have e4 : u4 = (valV (7, 0, S)) := hI.val 4 _ rfl (gen_after 4 (by kernel_rfl) hbp)
      subst e4
      have hq := hI.ph.z8 hb0
      have hj := gen_after 4 (by kernel_rfl) hbp
      have z0 : w'.cell? ⟨vb, 0, none⟩ = some (.int .i64 0) := hq.at_ 0
      have z1 : w'.cell? ⟨vb, 1, none⟩ = some (.int .i64 0) := hq.at_ 1
      have z2 : w'.cell? ⟨vb, 2, none⟩ = some (.string ⟨#[]⟩) := hq.at_ 2
      have f0 := hq.free 0
      have f1 := hq.free 1
      have f2 := hq.free 2
      clear hq
      have HI := Veil.mk hI
      clear hI
      rw [ha]
      simp only [puts, setAll, List.setIfInBounds_toArray, List.set_cons_zero, List.set_cons_succ]
      go_simp
      exact hK _ _ (chain_step HI.out hus hbs 11 undef (by show 11 < 14; decide) rfl hbp (none_of rfl) (HI.out.ph.sto8 (7, 0, S) _ (by decide) (by decide) (by decide) HNE.out hb0 hj rfl (HI.out.ph.x.trans ((st3_touch _ _ _).mono (fun k hk => .inl hk)))) (by simp only [puts, setAll, List.set_cons_zero, List.set_cons_succ, List.setIfInBounds_toArray]))
    refine Steps.cons rfl (fun bb aa w' hbs hb0 hbp hI K hK => ?_) ?_
    · obtain ⟨us, hus, ha, hI⟩ := hI
      obtain ⟨u0, u1, u2, u3, u4, u5, u6, u7, u8, u9, u10, u11, u12, u13, rfl⟩ := lenA14 hus
      have e9 : u9 = (RV (7, 0, S) none) := hI.val 9 _ rfl (gen_after 9 (by kernel_rfl) hbp)
      subst e9
      have hq := hI.ph.z9 hb0
      have hj := gen_after 9 (by kernel_rfl) hbp
      have z0 : w'.cell? ⟨rb, 0, none⟩ = some (.int .i64 0) := hq.at_ 0
      have z1 : w'.cell? ⟨rb, 1, none⟩ = some (.int .i64 0) := hq.at_ 1
      have z2 : w'.cell? ⟨rb, 2, none⟩ = some (.string ⟨#[]⟩) := hq.at_ 2
      have z3 : w'.cell? ⟨rb, 3, none⟩ = some (.pointer none) := hq.at_ 3
      have f0 := hq.free 0
      have f1 := hq.free 1
      have f2 := hq.free 2
      have f3 := hq.free 3
      clear hq
      have HI := Veil.mk hI
      clear hI
      rw [ha]
      simp only [puts, setAll, List.setIfInBounds_toArray, List.set_cons_zero, List.set_cons_succ]
      go_simp
      exact hK _ _ (chain_step HI.out hus hbs 12 undef (by show 12 < 14; decide) rfl hbp (none_of rfl) (HI.out.ph.sto9 ((7, 0, S), none) _ (by decide) (by decide) (by decide) HNE.out hb0 hj rfl (HI.out.ph.x.trans ((st4_touch _ _ _).mono (fun k hk => .inr hk)))) (by simp only [puts, setAll, List.set_cons_zero, List.set_cons_succ, List.setIfInBounds_toArray]))
    refine Steps.cons rfl (fun bb aa w' hbs hb0 hbp hI K hK => ?_) ?_
    · obtain ⟨us, hus, ha, hI⟩ := hI
      obtain ⟨u0, u1, u2, u3, u4, u5, u6, u7, u8, u9, u10, u11, u12, u13, rfl⟩ := lenA14 hus
      have e10 : u10 = (.int .i64 ((at_ : Int) + 1)) := hI.val 10 _ rfl (gen_after 10 (by kernel_rfl) hbp)
      subst e10
      have HI := Veil.mk hI
      clear hI
      rw [ha]
      simp only [puts, setAll, List.setIfInBounds_toArray, List.set_cons_zero, List.set_cons_succ]
      go_simp
      exact hK _ _ (chain_step HI.out hus hbs 13 _ (by show 13 < 14; decide) rfl hbp (val_of rfl rfl) (HI.out.ph.pure 13 _ (by decide) (by decide) hb0 (HI.out.ph.x)) (by simp only [puts, setAll, List.set_cons_zero, List.set_cons_succ, List.setIfInBounds_toArray]))
    exact Steps.nil
  · intro us wE hus dd hD2 hJ
    obtain ⟨p0, p1, p2, p3, p4, p5, p6, p7, p8, p9, p10, p11, p12, p13, rfl⟩ := lenA14 hus
    have hph := hJ.ph
    have e0 : p0 = (.int .i64 7) := hJ.val 0 _ rfl (hD2 0 (by show 0 < 14; decide))
    subst e0
    have e1 : p1 = (.pointer (some ⟨xb, 2, none⟩)) := hJ.val 1 _ rfl (hD2 1 (by show 1 < 14; decide))
    subst e1
    have e2 : p2 = (.slice sa xl sc) := hJ.val 2 _ rfl (hD2 2 (by show 2 < 14; decide))
    subst e2
    have e3 : p3 = (.string S) := hJ.val 3 _ rfl (hD2 3 (by show 3 < 14; decide))
    subst e3
    have e4 : p4 = (valV (7, 0, S)) := hJ.val 4 _ rfl (hD2 4 (by show 4 < 14; decide))
    subst e4
    have e5 : p5 = (.int .i64 7) := hJ.val 5 _ rfl (hD2 5 (by show 5 < 14; decide))
    subst e5
    have e6 : p6 = (.pointer (some ⟨xb, 2, none⟩)) := hJ.val 6 _ rfl (hD2 6 (by show 6 < 14; decide))
    subst e6
    have e7 : p7 = (.slice sa xl sc) := hJ.val 7 _ rfl (hD2 7 (by show 7 < 14; decide))
    subst e7
    have e8 : p8 = (.string S) := hJ.val 8 _ rfl (hD2 8 (by show 8 < 14; decide))
    subst e8
    have e9 : p9 = (RV (7, 0, S) none) := hJ.val 9 _ rfl (hD2 9 (by show 9 < 14; decide))
    subst e9
    have e10 : p10 = (.int .i64 ((at_ : Int) + 1)) := hJ.val 10 _ rfl (hD2 10 (by show 10 < 14; decide))
    subst e10
    have e13 : p13 = (.int .i64 ((at_ : Int) + 1)) := hJ.val 13 _ rfl (hD2 13 (by show 13 < 14; decide))
    subst e13
    clear hJ
    have q1 : Box wE vb _ (vC (7, 0, S)) := (hph.s8 (hD2 11 (by show 11 < 14; decide))).2
    have q2 : Box wE rb _ (rC ((7, 0, S), none)) := (hph.s9 (hD2 12 (by show 12 < 14; decide))).2
    have q3 := hph.x
    clear hph hD2
    have y0 := q1.at_ 0
    have y1 := q1.at_ 1
    have y2 := q1.at_ 2
    have z0 := q2.at_ 0
    have z1 := q2.at_ 1
    have z2 := q2.at_ 2
    have z3 := q2.at_ 3
    have HQ3 := Veil.mk q3
    clear q1 q2 q3
    simp only [puts, setAll, List.setIfInBounds_toArray, List.set_cons_zero, List.set_cons_succ]
    go_wp2
    exact bodyPost_ret (v := .tuple #[valV (7, 0, S), RV (7, 0, S) none, .int .i64 ((at_ + 1 : Nat) : Int)]) (by simp [results, Tryz.results10, go_sem, y0, y1, y2, z0, z1, z2, z3]) rfl (GPost.leaf HX.out.1 n at_ (at_ + 1) (by omega) (by omega) (7, 0, S) HWV.out (by show (7 : Int) ≠ 8; decide) (by show (7 : Int) ≠ 9; decide) _ (Touch.fresh HXD.out HQ3.out (fun k hk => by have := HW0.out.2; rcases hk with rfl | rfl <;> omega)))
end
end Go.Proofs.YtgdkjkfbknbgkaaGreatDoor
namespace Go.Proofs.YtgdkjkfbknbgkaaGreatDoor
open Go Go.RowKit
attribute [local go_sem] Oper.semAt_some

/-- An object of the document's: its class, its elements, its name. -/
abbrev rObj (c : ByteArray) (ev : Value) (nk nn : Int) (ns : ByteArray) : Array Value := #[.string c, .pointer none, .slice none 0 0, ev, .int .i64 nk, .int .i64 nn, .string ns, .pointer none, .pointer none, .pointer none, .int .i64 0, .int .i64 0, .string ⟨#[]⟩, .pointer none, .pointer none, .string ⟨#[]⟩, .bool false, .bool false, .bool false, .slice none 0 0, .int .i64 0, .int .i64 0, .int .i64 0, .string ⟨#[]⟩, .pointer none, .int .i64 0, .string ⟨#[]⟩, .int .i64 0, .bool false]
theorem below_st3 {w W : World} {B vb : Nat} (h : Below B w W) (hB : B ≤ vb) (v : Vt) : Below B w (st3 W vb v) := ((h.setCell (p := ⟨vb, 0, none⟩) hB _).setCell (p := ⟨vb, 1, none⟩) hB _).setCell (p := ⟨vb, 2, none⟩) hB _
theorem below_st4 {w W : World} {B rb : Nat} (h : Below B w W) (hB : B ≤ rb) (x : RVt) : Below B w (st4 W rb x) := (((h.setCell (p := ⟨rb, 0, none⟩) hB _).setCell (p := ⟨rb, 1, none⟩) hB _).setCell (p := ⟨rb, 2, none⟩) hB _).setCell (p := ⟨rb, 3, none⟩) hB _
theorem kp_st3 {ts : List TypeId} {w W : World} {vb : Nat} (h : Kp ts w W) (hB : w.heap.size ≤ vb) (v : Vt) : Kp ts w (st3 W vb v) := ((h.new hB 0 _).new hB 1 _).new hB 2 _
theorem kp_st4 {ts : List TypeId} {w W : World} {rb : Nat} (h : Kp ts w W) (hB : w.heap.size ≤ rb) (x : RVt) : Kp ts w (st4 W rb x) := (((h.new hB 0 _).new hB 1 _).new hB 2 _).new hB 3 _
theorem lab_set {w : World} {g : Nat} {t : TypeId} (h : Lab w g t) (p : Nat) (i : Nat) (u : Value) : Lab (w.setCell ⟨p, i, none⟩ u) g t := by
  by_cases e : p = g
  · subst e
    obtain ⟨cs, fr, hb⟩ := h
    refine ⟨cs.setIfInBounds i u, fr, ?_⟩
    show (w.heap.modify p _)[p]? = _
    simp [Array.getElem?_modify, hb]
  · obtain ⟨cs, fr, hb⟩ := h
    exact ⟨cs, fr, (Below.heap_setCell w ⟨p, i, none⟩ u g (fun e2 => e e2.symm)).trans hb⟩
theorem kp_lab3 {w : World} {vb : Nat} (h : Lab w vb 30) (v : Vt) : Kp [30] w (st3 w vb v) := ((Kp.put h rfl 0 _).trans (Kp.put (lab_set h vb 0 _) rfl 1 _)).trans (Kp.put (lab_set (lab_set h vb 0 _) vb 1 _) rfl 2 _)
theorem kp_lab4 {w : World} {rb : Nat} (h : Lab w rb 33) (x : RVt) : Kp [33] w (st4 w rb x) := (((Kp.put h rfl 0 _).trans (Kp.put (lab_set h rb 0 _) rfl 1 _)).trans (Kp.put (lab_set (lab_set h rb 0 _) rb 1 _) rfl 2 _)).trans (Kp.put (lab_set (lab_set (lab_set h rb 0 _) rb 1 _) rb 2 _) rfl 3 _)
theorem mm_st3 {W : World} {h A m : Nat} {f : Nat → Int} {os : List OS} (H : Y.MM W h A m f os) {vb : Nat} (hl : Lab W vb 30) (v : Vt) : Y.MM (st3 W vb v) h A m f os := H.kp (kp_lab3 hl v) (by decide)
theorem mm_st4 {W : World} {h A m : Nat} {f : Nat → Int} {os : List OS} (H : Y.MM W h A m f os) {rb : Nat} (hl : Lab W rb 33) (x : RVt) : Y.MM (st4 W rb x) h A m f os := H.kp (kp_lab4 hl x) (by decide)
theorem P2.lab8 {vb rb i8 j8 i9 j9 : Nat} {X : (Nat → Bool) → (Nat → Value) → World → Prop} {d : Nat → Bool} {us : Nat → Value} {w : World} (h : P2 vb rb i8 j8 i9 j9 X d us w) : Lab w vb 30 := by
  cases e : d i8 with
  | true => exact (h.s8 e).2.lab
  | false => exact (h.z8 e).lab
theorem P2.lab9 {vb rb i8 j8 i9 j9 : Nat} {X : (Nat → Bool) → (Nat → Value) → World → Prop} {d : Nat → Bool} {us : Nat → Value} {w : World} (h : P2 vb rb i8 j8 i9 j9 X d us w) : Lab w rb 33 := by
  cases e : d i9 with
  | true => exact (h.s9 e).2.lab
  | false => exact (h.z9 e).lab
theorem P2.kp {vb rb i8 j8 i9 j9 : Nat} {X : (Nat → Bool) → (Nat → Value) → World → Prop} {d : Nat → Bool} {us : Nat → Value} {w w' : World} (h : P2 vb rb i8 j8 i9 j9 X d us w) (i : Nat) (v : Value) (h8 : i ≠ i8) (h9 : i ≠ i9) (hd : d i = false) (hk : Kp arT w w') (hX : X (upd d i true) (upd us i v) w') : P2 vb rb i8 j8 i9 j9 X (upd d i true) (upd us i v) w' :=
  h.step i v h8 h9 hd (fun _ => hk vb _ h.lab8 rfl) (fun _ => hk rb _ h.lab9 rfl) hX
/-- The rest of such a region: a machine that i5 turns, an object of the document's that i11 makes, a value of it that i12 makes, a box that is read. -/
structure XR (w0 : World) (h A m : Nat) (f : Nat → Int) (os : List OS) (no : Nat → List OS) (i5 i11 i12 : Nat) (rc : Array Value) (xk : Vt) (sb : Nat) (sT : TypeId) (sc : Array Value) (d : Nat → Bool) (us : Nat → Value) (w : World) : Prop where
  bel : Below A w0 w
  kp : Kp arT w0 w
  sx : Box w sb sT sc
  m0 : d i5 = false → Y.MM w h A m f os
  m1 : d i5 = true → ∃ b, Y.MM w h A m f (os ++ no b)
  b1 : d i11 = true → ∃ g, us i11 = .pointer (some ⟨g, 0, none⟩) ∧ w0.heap.size ≤ g ∧ Box w g 79 rc
  b2 : d i12 = true → d i11 = true ∧ ∃ g, us i11 = .pointer (some ⟨g, 0, none⟩) ∧ us i12 = RV xk (some ⟨g, 0, none⟩)
section
variable {w0 : World} {h A m : Nat} {f : Nat → Int} {os : List OS} {no : Nat → List OS} {i5 i11 i12 : Nat} {rc : Array Value} {xk : Vt} {sb : Nat} {sT : TypeId} {sc : Array Value} {d : Nat → Bool} {us : Nat → Value} {w w' : World}
theorem XR.start (hw : Y.MM w h A m f os) (hb : Below A w0 w) (hk : Kp arT w0 w) (hs : Box w sb sT sc) : XR w0 h A m f os no i5 i11 i12 rc xk sb sT sc (fun _ => false) us w :=
  ⟨hb, hk, hs, fun _ => hw, fun e => (by cases e), fun e => (by cases e), fun e => (by cases e)⟩
/-- Anything but the machine's turn and the object's making, where the world keeps what is not the arena's. -/
theorem XR.step (H : XR w0 h A m f os no i5 i11 i12 rc xk sb sT sc d us w) (i : Nat) (v : Value) (h5 : i ≠ i5) (h11 : i ≠ i11) (h12 : i ≠ i12) (hb : Below A w w') (hk0 : Kp arT w0 w') (hs : Box w' sb sT sc) (hm : ∀ o, Y.MM w h A m f o → Y.MM w' h A m f o) (hg : ∀ g, w0.heap.size ≤ g → Box w g 79 rc → Box w' g 79 rc) : XR w0 h A m f os no i5 i11 i12 rc xk sb sT sc (upd d i true) (upd us i v) w' := by
  refine ⟨H.bel.trans hb, hk0, hs, fun e => ?_, fun e => ?_, fun e => ?_, fun e => ?_⟩
  · rw [upd_ne _ _ (Ne.symm h5)] at e
    exact hm _ (H.m0 e)
  · rw [upd_ne _ _ (Ne.symm h5)] at e
    obtain ⟨b, hq⟩ := H.m1 e
    exact ⟨b, hm _ hq⟩
  · rw [upd_ne _ _ (Ne.symm h11)] at e ⊢
    obtain ⟨g, g1, g2, g3⟩ := H.b1 e
    exact ⟨g, g1, g2, hg g g2 g3⟩
  · rw [upd_ne _ _ (Ne.symm h12)] at e
    rw [upd_ne _ _ (Ne.symm h11), upd_ne _ _ (Ne.symm h11), upd_ne _ _ (Ne.symm h12)]
    exact H.b2 e
theorem XR.below (H : XR w0 h A m f os no i5 i11 i12 rc xk sb sT sc d us w) (i : Nat) (v : Value) (h5 : i ≠ i5) (h11 : i ≠ i11) (h12 : i ≠ i12) (hA : A ≤ w.heap.size) (hb : Below w.heap.size w w') : XR w0 h A m f os no i5 i11 i12 rc xk sb sT sc (upd d i true) (upd us i v) w' :=
  H.step i v h5 h11 h12 (hb.mono hA) (H.kp.trans (Kp.of_below hb)) (H.sx.below hb) (fun _ hm => hm.on hb) (fun _ _ hg => hg.below hb)
theorem XR.pure (H : XR w0 h A m f os no i5 i11 i12 rc xk sb sT sc d us w) (i : Nat) (v : Value) (h5 : i ≠ i5) (h11 : i ≠ i11) (h12 : i ≠ i12) : XR w0 h A m f os no i5 i11 i12 rc xk sb sT sc (upd d i true) (upd us i v) w :=
  H.step i v h5 h11 h12 (Below.refl _ _) H.kp H.sx (fun _ h => h) (fun _ _ h => h)
theorem XR.sto3 (H : XR w0 h A m f os no i5 i11 i12 rc xk sb sT sc d us w) (i : Nat) (u : Value) (h5 : i ≠ i5) (h11 : i ≠ i11) (h12 : i ≠ i12) {vb : Nat} (hA : A ≤ vb) (hv : w0.heap.size ≤ vb) (hsb : sb ≠ vb) (hl : Lab w vb 30) (v : Vt) : XR w0 h A m f os no i5 i11 i12 rc xk sb sT sc (upd d i true) (upd us i u) (st3 w vb v) := by
  have ht := st3_touch w vb v
  refine ⟨below_st3 H.bel hA v, kp_st3 H.kp hv v, H.sx.touch ht hsb, fun e => ?_, fun e => ?_, fun e => ?_, fun e => ?_⟩
  · rw [upd_ne _ _ (Ne.symm h5)] at e
    exact mm_st3 (H.m0 e) hl v
  · rw [upd_ne _ _ (Ne.symm h5)] at e
    obtain ⟨b, hq⟩ := H.m1 e
    exact ⟨b, mm_st3 hq hl v⟩
  · rw [upd_ne _ _ (Ne.symm h11)] at e ⊢
    obtain ⟨g, g1, g2, g3⟩ := H.b1 e
    exact ⟨g, g1, g2, g3.touch ht (fun e9 => g3.lab.ne hl (by decide) e9)⟩
  · rw [upd_ne _ _ (Ne.symm h12)] at e
    rw [upd_ne _ _ (Ne.symm h11), upd_ne _ _ (Ne.symm h11), upd_ne _ _ (Ne.symm h12)]
    exact H.b2 e
theorem XR.sto4 (H : XR w0 h A m f os no i5 i11 i12 rc xk sb sT sc d us w) (i : Nat) (u : Value) (h5 : i ≠ i5) (h11 : i ≠ i11) (h12 : i ≠ i12) {rb : Nat} (hA : A ≤ rb) (hv : w0.heap.size ≤ rb) (hsb : sb ≠ rb) (hl : Lab w rb 33) (x : RVt) : XR w0 h A m f os no i5 i11 i12 rc xk sb sT sc (upd d i true) (upd us i u) (st4 w rb x) := by
  have ht := st4_touch w rb x
  refine ⟨below_st4 H.bel hA x, kp_st4 H.kp hv x, H.sx.touch ht hsb, fun e => ?_, fun e => ?_, fun e => ?_, fun e => ?_⟩
  · rw [upd_ne _ _ (Ne.symm h5)] at e
    exact mm_st4 (H.m0 e) hl x
  · rw [upd_ne _ _ (Ne.symm h5)] at e
    obtain ⟨b, hq⟩ := H.m1 e
    exact ⟨b, mm_st4 hq hl x⟩
  · rw [upd_ne _ _ (Ne.symm h11)] at e ⊢
    obtain ⟨g, g1, g2, g3⟩ := H.b1 e
    exact ⟨g, g1, g2, g3.touch ht (fun e9 => g3.lab.ne hl (by decide) e9)⟩
  · rw [upd_ne _ _ (Ne.symm h12)] at e
    rw [upd_ne _ _ (Ne.symm h11), upd_ne _ _ (Ne.symm h11), upd_ne _ _ (Ne.symm h12)]
    exact H.b2 e
theorem XR.turn (H : XR w0 h A m f os no i5 i11 i12 rc xk sb sT sc d us w) (v : Value) (h11 : i5 ≠ i11) (h12 : i5 ≠ i12) (hsT : arT.contains sT = false) {b : Nat} (hm : Y.MM w' h A m f (os ++ no b)) (hb : Below A w w') (hk : Kp arT w w') : XR w0 h A m f os no i5 i11 i12 rc xk sb sT sc (upd d i5 true) (upd us i5 v) w' := by
  refine ⟨H.bel.trans hb, H.kp.trans hk, hk.box H.sx hsT, fun e => ?_, fun _ => ⟨b, hm⟩, fun e => ?_, fun e => ?_⟩
  · rw [upd_same] at e; cases e
  · rw [upd_ne _ _ (Ne.symm h11)] at e ⊢
    obtain ⟨g, g1, g2, g3⟩ := H.b1 e
    exact ⟨g, g1, g2, hk.box g3 rfl⟩
  · rw [upd_ne _ _ (Ne.symm h12)] at e
    rw [upd_ne _ _ (Ne.symm h11), upd_ne _ _ (Ne.symm h11), upd_ne _ _ (Ne.symm h12)]
    exact H.b2 e
theorem XR.box (H : XR w0 h A m f os no i5 i11 i12 rc xk sb sT sc d us w) (h5 : i11 ≠ i5) (h12 : i11 ≠ i12) (hA : A ≤ w.heap.size) (hd : d i11 = false) : XR w0 h A m f os no i5 i11 i12 rc xk sb sT sc (upd d i11 true) (upd us i11 (.pointer (some ⟨w.heap.size, 0, none⟩))) (w.alloc (.cells rc 79)) := by
  have hb : Below w.heap.size w (w.alloc (.cells rc 79)) := (Below.refl _ _).alloc (Nat.le_refl _) _
  refine ⟨H.bel.trans (hb.mono hA), H.kp.trans (Kp.of_below hb), H.sx.below hb, fun e => ?_, fun e => ?_, fun _ => ⟨w.heap.size, upd_same _ _ _, H.bel.size, Box.new _ _ _⟩, fun e => ?_⟩
  · rw [upd_ne _ _ (Ne.symm h5)] at e
    exact (H.m0 e).on hb
  · rw [upd_ne _ _ (Ne.symm h5)] at e
    obtain ⟨b, hq⟩ := H.m1 e
    exact ⟨b, hq.on hb⟩
  · rw [upd_ne _ _ (Ne.symm h12)] at e
    rw [(H.b2 e).1] at hd
    cases hd
theorem XR.ref (H : XR w0 h A m f os no i5 i11 i12 rc xk sb sT sc d us w) (g : Nat) (h5 : i12 ≠ i5) (h11 : i12 ≠ i11) (hd : d i11 = true) (hu : us i11 = .pointer (some ⟨g, 0, none⟩)) : XR w0 h A m f os no i5 i11 i12 rc xk sb sT sc (upd d i12 true) (upd us i12 (RV xk (some ⟨g, 0, none⟩))) w := by
  refine ⟨H.bel, H.kp, H.sx, fun e => ?_, fun e => ?_, fun e => ?_, fun _ => ?_⟩
  · rw [upd_ne _ _ (Ne.symm h5)] at e
    exact H.m0 e
  · rw [upd_ne _ _ (Ne.symm h5)] at e
    exact H.m1 e
  · rw [upd_ne _ _ (Ne.symm h11)] at e ⊢
    exact H.b1 e
  · rw [upd_ne _ _ (Ne.symm h11), upd_ne _ _ (Ne.symm h11), upd_same]
    exact ⟨hd, g, hu, rfl⟩
theorem XR.alt (H : XR w0 h A m f os no i5 i11 i12 rc xk sb sT sc d us w) : A < w.heap.size := by
  cases e : d i5 with
  | false => exact (H.m0 e).alt
  | true => obtain ⟨b, hq⟩ := H.m1 e; exact hq.alt
end
theorem XR.cell0 {w0 : World} {h A m : Nat} {f : Nat → Int} {os : List OS} {no : Nat → List OS} {i5 i11 i12 : Nat} {rc : Array Value} {xk : Vt} {sb : Nat} {sT : TypeId} {sc : Array Value} {d : Nat → Bool} {us : Nat → Value} {w : World} (H : XR w0 h A m f os no i5 i11 i12 rc xk sb sT sc d us w) : w.cell? ⟨m, 0, none⟩ = some (.pointer (some ⟨h, 0, none⟩)) := by
  cases e : d i5 with
  | false => exact (H.m0 e).cell0
  | true => obtain ⟨b, hq⟩ := H.m1 e; exact hq.cell0
section
variable {w : World} {h A m : Nat} {f : Nat → Int} {os : List OS}
set_option maxHeartbeats 2000000 in
set_option maxRecDepth 100000 in
theorem grow_sym (H : Y.MM w h A m f os) (a : Option Addr) (n c : Nat) (ps : List PI) (B : Nat) (HP : PlA w B a n ps) (hBA : B ≤ A) (hn5 : n ≤ 500) (at_ dp : Nat) {x : PI} (hx : ps[at_]? = some x) (hx1 : (x.k.tmod 12 + 12).tmod 12 = 8) (hx2 : (x.k.tmod 12 + 12) % 12 = 8) (hx3 : 0 < x.k.tmod 12 + 12) (hx4 : x.k.tmod 12 < 12) (hp5 : ∀ x ∈ ps, x.l.length ≤ 500) (hlen : os.length < 1000000) : Calls Tryz.prog 10 #[(.pointer (some ⟨m, 0, none⟩)), .agg #[.slice a n c], .int .i64 (at_ : Int), .int .i64 (dp : Int)] w (GPost w A h m f os n at_) := by
  obtain ⟨pb, hpb⟩ : ∃ pb, w.heap.size = pb := ⟨_, rfl⟩
  obtain ⟨vb, hvb⟩ : ∃ vb, pb + 1 = vb := ⟨_, rfl⟩
  obtain ⟨rb, hrb⟩ : ∃ rb, vb + 1 = rb := ⟨_, rfl⟩
  obtain ⟨W0, hW0⟩ : ∃ W0, ((w.alloc (.cells #[.slice a n c] 24)).alloc (.cells #[.int .i64 0, .int .i64 0, .string ⟨#[]⟩] 30)).alloc (.cells #[.int .i64 0, .int .i64 0, .string ⟨#[]⟩, .pointer none] 33) = W0 := ⟨_, rfl⟩
  have bx := frame0 w W0 #[.slice a n c] pb vb rb hpb hvb hrb hW0
  have HW0 := Veil.mk (And.intro hW0 (And.intro hpb (And.intro hvb hrb)))
  have x0 : W0.cell? ⟨pb, 0, none⟩ = some (.slice a n c) := bx.2.1.at_ 0
  have hmem := List.mem_of_getElem? hx
  have hlt0 : at_ < n := by have := (List.getElem?_eq_some_iff.1 hx).1; have := HP.len; omega
  have HP0 := HP.on (bx.1.mono (Nat.le_of_lt (Nat.lt_of_le_of_lt hBA H.alt)))
  obtain ⟨pa, po, rfl, hpl, hpc⟩ := HP0.cells (by omega)
  obtain ⟨c0, c1, c2⟩ := hpc at_ x hx
  obtain ⟨-, -, -, ⟨hn1, hn2⟩, sa, sc, e1, -⟩ := HP.rd x hmem
  rw [e1] at c2
  obtain ⟨xl, hxl⟩ : ∃ y, x.l.length = y := ⟨_, rfl⟩
  obtain ⟨xk, hxk⟩ : ∃ y, x.k = y := ⟨_, rfl⟩
  obtain ⟨xn, hxn⟩ : ∃ y, x.n = y := ⟨_, rfl⟩
  rw [hxl] at c2
  rw [hxk] at c0 hx1 hx2 hx3 hx4
  rw [hxn] at c1 hn1 hn2
  have hge : ¬ (n : Int) ≤ (at_ : Int) := by omega
  have hat : (at_ : Int) < (n : Int) := by omega
  have ha0 : (0 : Int) ≤ (at_ : Int) := by omega
  have han : (at_ : Int) ≤ 500 := by omega
  obtain ⟨xb, hxb⟩ : ∃ xb, W0.heap.size = xb := ⟨_, rfl⟩
  obtain ⟨W1, hW1⟩ : ∃ W1, W0.alloc (.cells #[.int .i64 xk, .int .i64 xn, .slice sa xl sc] 82) = W1 := ⟨_, rfl⟩
  have bz := frame1 bx hxb hW1
  have HW1 := Veil.mk (And.intro hW1 hxb)
  have y0 : W1.cell? ⟨xb, 0, none⟩ = some (.int .i64 xk) := bz.2.2.2.2.2.1.at_ 0
  have y1 : W1.cell? ⟨xb, 1, none⟩ = some (.int .i64 xn) := bz.2.2.2.2.2.1.at_ 1
  have y2 : W1.cell? ⟨xb, 2, none⟩ = some (.slice sa xl sc) := bz.2.2.2.2.2.1.at_ 2
  have p0 : W1.cell? ⟨pb, 0, none⟩ = some (.slice (some ⟨pa, po, none⟩) n c) := bz.2.1.at_ 0
  have HX := Veil.mk (And.intro H bz)
  have HQ := Veil.mk (And.intro HP (And.intro hmem (And.intro e1 (And.intro hxl (And.intro hxk hxn)))))
  have v0 : W1.cell? ⟨vb, 0, none⟩ = some (.int .i64 0) := bz.2.2.1.at_ 0
  have v1 : W1.cell? ⟨vb, 1, none⟩ = some (.int .i64 0) := bz.2.2.1.at_ 1
  have v2 : W1.cell? ⟨vb, 2, none⟩ = some (.string ⟨#[]⟩) := bz.2.2.1.at_ 2
  have r0 : W1.cell? ⟨rb, 0, none⟩ = some (.int .i64 0) := bz.2.2.2.1.at_ 0
  have r1 : W1.cell? ⟨rb, 1, none⟩ = some (.int .i64 0) := bz.2.2.2.1.at_ 1
  have r2 : W1.cell? ⟨rb, 2, none⟩ = some (.string ⟨#[]⟩) := bz.2.2.2.1.at_ 2
  have r3 : W1.cell? ⟨rb, 3, none⟩ = some (.pointer none) := bz.2.2.2.1.at_ 3
  have f0 := bz.2.2.1.free 0
  have f1 := bz.2.2.1.free 1
  have f2 := bz.2.2.1.free 2
  have g0 := bz.2.2.2.1.free 0
  have g1 := bz.2.2.2.1.free 1
  have g2 := bz.2.2.2.1.free 2
  have g3 := bz.2.2.2.1.free 3
  have hvr : (vb = rb) = False := by simp; have := HW0.out; omega
  have hrv : (rb = vb) = False := by simp; have := HW0.out; omega
  clear hge
  have hge : ¬ (n : Int) ≤ (at_ : Int) := by omega
  have hpl9 : True := trivial
  obtain ⟨S, hS⟩ : ∃ S, (⟨(x.l.flatMap W.u2).toArray⟩ : ByteArray) = S := ⟨_, rfl⟩
  have hxr := HP.rd x hmem
  have hp5 := hp5 x hmem
  have HSTR : Veil (∀ w', Below w.heap.size w w' → Calls Tryz.prog 15 #[.slice sa xl sc] w' fun e w9 => e = .returned (.string S) ∧ Below w'.heap.size w' w9) := ⟨fun w' hb => by
    have hBw : B ≤ w.heap.size := Nat.le_of_lt (Nat.lt_of_le_of_lt hBA H.alt)
    obtain ⟨sa2, c9, e9, hN⟩ := (HP.on (hb.mono hBw)).nums (Nat.le_trans hBw hb.size) x hmem
    rw [e1] at e9
    injection e9 with q1 q2 q3
    subst q1
    rw [hxl] at hN hp5
    rw [← hS]
    exact W.lawStr_any sa xl sc x.l (by omega) hxr.1 w' hN⟩
  have HSZ : Veil (∀ (F : Nat → Prop) (wE : World) (gg b : Nat), F gg → Box wE gg 79 (rObj ⟨#[115, 121, 109, 98, 111, 108]⟩ (.slice none 0 0) 7 0 S) → ∀ k, ∃ s, s.size ≤ bnd k ∧ Sh F wE (os ++ [(b, vC (7, 0, S))]) k (8, ((os.length : Int) + 1), ⟨#[]⟩) ((8, 0, ⟨#[]⟩), some ⟨gg, 0, none⟩) s) := ⟨fun F wE gg b hF hB k => by
    have hsl : x.l.length ≤ 500 := hp5
    refine ShB.sh (s := symS (W.strU x.l)) (.inr (.inl ⟨os.length, b, x.l, gg, (rObj ⟨#[115, 121, 109, 98, 111, 108]⟩ (.slice none 0 0) 7 0 S), rfl, ?_, hxr.1, by omega, rfl, hF, hB, rfl, ?_, rfl⟩)) ?_ k
    · rw [List.getElem?_append_right (Nat.le_refl _), Nat.sub_self]
      show some (b, vC (7, 0, S)) = _
      rw [← hS]
      rfl
    · rw [← hS]
      rfl
    · have h1 := goB_size (W.strU x.l)
      have h2 := strU_size x.l
      have h3 : (symS (W.strU x.l)).size = 7 + (goB (W.strU x.l)).size + 1 := by
        unfold symS
        rw [ByteArray.size_append, ByteArray.size_append]
        rfl
      omega⟩
  clear hxr hp5 hS
  clear H bx bz hW0 hpb hvb hrb HP hW1 hxb HP0 hpc hx hxk hxn hxl hpl hmem e1
  go_enter Tryz.func10, Tryz.ntmps10
  go_upto_region 1 with (fail)
  rw [HW0.out.1, HW0.out.2.1, HW0.out.2.2.1, HW0.out.2.2.2]
  go_upto_region 4 with (fail)
  rw [HW1.out.1, HW1.out.2]
  clear c0 c1 c2 x0 hge hpl9
  go_upto_region 18 with (fail)
  have HS1 := Veil.mk (HSTR.out W1 HX.out.2.1)
  go_upto_region 19 with (go_at_call 15; ((with_reducible refine HS1.out.mono ?_); rintro e w5 ⟨rfl, hb5⟩; have HB5 := Veil.mk hb5; clear hb5))
  obtain ⟨sb, hsb⟩ : ∃ sb, w5.heap.size = sb := ⟨_, rfl⟩
  obtain ⟨W5, hW5⟩ : ∃ W5, w5.alloc (.cells (vC (7, 0, S)) 30) = W5 := ⟨_, rfl⟩
  have hbb : Below W1.heap.size W1 W5 := by rw [← hW5]; exact HB5.out.alloc HB5.out.size _
  have hbs : Box W5 sb 30 (vC (7, 0, S)) := by rw [← hW5, ← hsb]; exact Box.new _ _ _
  have hbw : Below w.heap.size w W5 := HX.out.2.1.trans (hbb.mono HX.out.2.1.size)
  have HV5 : Veil (Box W5 vb 30 #[.int .i64 0, .int .i64 0, .string ⟨#[]⟩] ∧ Box W5 rb 33 #[.int .i64 0, .int .i64 0, .string ⟨#[]⟩, .pointer none] ∧ Y.MM W5.drew h A m f os ∧ Below A w W5.drew ∧ Kp arT w W5.drew ∧ Box W5 sb 30 (vC (7, 0, S))) := ⟨HX.out.2.2.2.1.below hbb, HX.out.2.2.2.2.1.below hbb, HX.out.1.on hbw.drew, hbw.drew.mono (Nat.le_of_lt HX.out.1.alt), Kp.of_below hbw.drew, hbs⟩
  have HLO : Veil ((A ≤ vb ∧ w.heap.size ≤ vb ∧ sb ≠ vb) ∧ (A ≤ rb ∧ w.heap.size ≤ rb ∧ sb ≠ rb)) := ⟨by
    have := HW0.out.2
    have := HX.out.1.alt
    have := HX.out.2.2.2.2.2.1
    have := HX.out.2.2.2.2.2.2.2
    have := HB5.out.size
    omega⟩
  have HLN : Veil (os.length < 1000000) := ⟨hlen⟩
  rw [hW5, hsb]
  clear hW5 hsb hbb hbs hbw
  have HNE : Veil (vb ≠ rb) := ⟨by have := HW0.out.2; omega⟩
  clear v0 v1 v2 r0 r1 r2 r3 f0 f1 f2 g0 g1 g2 g3 y0 y1 y2 p0 hvr hrv hx1 hx2 hx3 hx4
  refine wp_region_chain (some (· = (.pointer (some ⟨m, 0, none⟩))) :: some (· = (.pointer (some ⟨m, 0, none⟩))) :: some (· = (.pointer (some ⟨m, 0, none⟩))) :: some (· = (.pointer (some ⟨h, 0, none⟩))) :: some (· = (valV (7, 0, S))) :: some (· = (valV (8, ((os.length : Int) + 1), ⟨#[]⟩))) :: some (· = (.int .i64 8)) :: some (· = (.pointer (some ⟨sb, 2, none⟩))) :: some (· = (.string S)) :: some (· = (RV (7, 0, S) none)) :: some (· = (.agg (rObj ⟨#[115, 121, 109, 98, 111, 108]⟩ (.slice none 0 0) 7 0 S))) :: some (fun u => ∃ g, u = .pointer (some ⟨g, 0, none⟩)) :: some (fun u => ∃ g, u = RV (8, 0, ⟨#[]⟩) (some ⟨g, 0, none⟩)) :: some (· = (.int .i64 ((at_ : Int) + 1))) :: none :: none :: some (· = (.int .i64 ((at_ : Int) + 1))) :: [] : List (Option (Value → Prop))) (P2 vb rb 14 5 15 12 (XR w h A m f os (fun b => [(b, vC (7, 0, S))]) 5 11 12 (rObj ⟨#[115, 121, 109, 98, 111, 108]⟩ (.slice none 0 0) 7 0 S) (8, 0, ⟨#[]⟩) sb 30 (vC (7, 0, S)))) [some 105, some 106, some 107, some 108, some 109, some 110, some 111, some 112, some 113, some 114, some 115, some 116, some 117, some 118, none, none, some 10] (curV' _ [some 105, some 106, some 107, some 108, some 109, some 110, some 111, some 112, some 113, some 114, some 115, some 116, some 117, some 118, none, none, some 10]) (by kernel_rfl) rfl rfl (puts_cur _ _) (P2.start (show Box W5.drew vb _ _ from HV5.out.1.drew) (show Box W5.drew rb _ _ from HV5.out.2.1.drew) (XR.start HV5.out.2.2.1 HV5.out.2.2.2.1 HV5.out.2.2.2.2.1 HV5.out.2.2.2.2.2.drew)) ?_ (by kernel_rfl) ?_
  · refine Steps.cons rfl (fun bb aa w' hbs hb0 hbp hI K hK => ?_) ?_
    · obtain ⟨us, hus, ha, hI⟩ := hI
      obtain ⟨u0, u1, u2, u3, u4, u5, u6, u7, u8, u9, u10, u11, u12, u13, u14, u15, u16, rfl⟩ := lenA17 hus
      have HI := Veil.mk hI
      clear hI
      rw [ha]
      simp only [puts, setAll, List.setIfInBounds_toArray, List.set_cons_zero, List.set_cons_succ]
      go_simp
      exact hK _ _ (chain_step HI.out hus hbs 0 _ (by show 0 < 17; decide) rfl hbp (val_of rfl rfl) (HI.out.ph.pure 0 _ (by decide) (by decide) hb0 (HI.out.ph.x.pure 0 _ (by decide) (by decide) (by decide))) (by simp only [puts, setAll, List.set_cons_zero, List.set_cons_succ, List.setIfInBounds_toArray]))
    refine Steps.cons rfl (fun bb aa w' hbs hb0 hbp hI K hK => ?_) ?_
    · obtain ⟨us, hus, ha, hI⟩ := hI
      obtain ⟨u0, u1, u2, u3, u4, u5, u6, u7, u8, u9, u10, u11, u12, u13, u14, u15, u16, rfl⟩ := lenA17 hus
      have e0 : u0 = (.pointer (some ⟨m, 0, none⟩)) := hI.val 0 _ rfl (gen_after 0 (by kernel_rfl) hbp)
      subst e0
      have HI := Veil.mk hI
      clear hI
      rw [ha]
      simp only [puts, setAll, List.setIfInBounds_toArray, List.set_cons_zero, List.set_cons_succ]
      go_simp
      exact hK _ _ (chain_step HI.out hus hbs 1 _ (by show 1 < 17; decide) rfl hbp (val_of rfl rfl) (HI.out.ph.pure 1 _ (by decide) (by decide) hb0 (HI.out.ph.x.pure 1 _ (by decide) (by decide) (by decide))) (by simp only [puts, setAll, List.set_cons_zero, List.set_cons_succ, List.setIfInBounds_toArray]))
    refine Steps.cons rfl (fun bb aa w' hbs hb0 hbp hI K hK => ?_) ?_
    · obtain ⟨us, hus, ha, hI⟩ := hI
      obtain ⟨u0, u1, u2, u3, u4, u5, u6, u7, u8, u9, u10, u11, u12, u13, u14, u15, u16, rfl⟩ := lenA17 hus
      have e1 : u1 = (.pointer (some ⟨m, 0, none⟩)) := hI.val 1 _ rfl (gen_after 1 (by kernel_rfl) hbp)
      subst e1
      have HI := Veil.mk hI
      clear hI
      rw [ha]
      simp only [puts, setAll, List.setIfInBounds_toArray, List.set_cons_zero, List.set_cons_succ]
      go_simp
      exact hK _ _ (chain_step HI.out hus hbs 2 _ (by show 2 < 17; decide) rfl hbp (val_of rfl rfl) (HI.out.ph.pure 2 _ (by decide) (by decide) hb0 (HI.out.ph.x.pure 2 _ (by decide) (by decide) (by decide))) (by simp only [puts, setAll, List.set_cons_zero, List.set_cons_succ, List.setIfInBounds_toArray]))
    refine Steps.cons rfl (fun bb aa w' hbs hb0 hbp hI K hK => ?_) ?_
    · obtain ⟨us, hus, ha, hI⟩ := hI
      obtain ⟨u0, u1, u2, u3, u4, u5, u6, u7, u8, u9, u10, u11, u12, u13, u14, u15, u16, rfl⟩ := lenA17 hus
      have e2 : u2 = (.pointer (some ⟨m, 0, none⟩)) := hI.val 2 _ rfl (gen_after 2 (by kernel_rfl) hbp)
      subst e2
      have c0 := hI.ph.x.cell0
      have HI := Veil.mk hI
      clear hI
      rw [ha]
      simp only [puts, setAll, List.setIfInBounds_toArray, List.set_cons_zero, List.set_cons_succ]
      go_simp
      exact hK _ _ (chain_step HI.out hus hbs 3 _ (by show 3 < 17; decide) rfl hbp (val_of rfl rfl) (HI.out.ph.pure 3 _ (by decide) (by decide) hb0 (HI.out.ph.x.pure 3 _ (by decide) (by decide) (by decide))) (by simp only [puts, setAll, List.set_cons_zero, List.set_cons_succ, List.setIfInBounds_toArray]))
    refine Steps.cons rfl (fun bb aa w' hbs hb0 hbp hI K hK => ?_) ?_
    · obtain ⟨us, hus, ha, hI⟩ := hI
      obtain ⟨u0, u1, u2, u3, u4, u5, u6, u7, u8, u9, u10, u11, u12, u13, u14, u15, u16, rfl⟩ := lenA17 hus
      have c0 := hI.ph.x.sx.at_ 0
      have c1 := hI.ph.x.sx.at_ 1
      have c2 := hI.ph.x.sx.at_ 2
      have HI := Veil.mk hI
      clear hI
      rw [ha]
      simp only [puts, setAll, List.setIfInBounds_toArray, List.set_cons_zero, List.set_cons_succ]
      go_simp
      exact hK _ _ (chain_step HI.out hus hbs 4 _ (by show 4 < 17; decide) rfl hbp (val_of rfl rfl) (HI.out.ph.pure 4 _ (by decide) (by decide) hb0 (HI.out.ph.x.pure 4 _ (by decide) (by decide) (by decide))) (by simp only [puts, setAll, List.set_cons_zero, List.set_cons_succ, List.setIfInBounds_toArray]))
    refine Steps.cons rfl (fun bb aa w' hbs hb0 hbp hI K hK => ?_) ?_
    · obtain ⟨us, hus, ha, hI⟩ := hI
      obtain ⟨u0, u1, u2, u3, u4, u5, u6, u7, u8, u9, u10, u11, u12, u13, u14, u15, u16, rfl⟩ := lenA17 hus
      have e3 : u3 = (.pointer (some ⟨h, 0, none⟩)) := hI.val 3 _ rfl (gen_after 3 (by kernel_rfl) hbp)
      subst e3
      have e4 : u4 = (valV (7, 0, S)) := hI.val 4 _ rfl (gen_after 4 (by kernel_rfl) hbp)
      subst e4
      have HX9 := Veil.mk ((hI.ph.x.m0 hb0).symbol (7, 0, S) HLN.out)
      have HI := Veil.mk hI
      clear hI
      rw [ha]
      simp only [puts, setAll, List.setIfInBounds_toArray, List.set_cons_zero, List.set_cons_succ]
      go_simp
      go_at_call 27
      refine HX9.out.mono ?_
      rintro e9 w9 ⟨rfl, b9, hm9, hb9, hk9, hq9⟩
      go_simp
      exact hK _ _ (chain_step HI.out hus hbs 5 _ (by show 5 < 17; decide) rfl hbp (val_of rfl rfl) (HI.out.ph.kp 5 _ (by decide) (by decide) hb0 hk9 (HI.out.ph.x.turn _ (by decide) (by decide) rfl hm9 hb9 hk9)) (by simp only [puts, setAll, List.set_cons_zero, List.set_cons_succ, List.setIfInBounds_toArray]))
    refine Steps.cons rfl (fun bb aa w' hbs hb0 hbp hI K hK => ?_) ?_
    · obtain ⟨us, hus, ha, hI⟩ := hI
      obtain ⟨u0, u1, u2, u3, u4, u5, u6, u7, u8, u9, u10, u11, u12, u13, u14, u15, u16, rfl⟩ := lenA17 hus
      have HI := Veil.mk hI
      clear hI
      rw [ha]
      simp only [puts, setAll, List.setIfInBounds_toArray, List.set_cons_zero, List.set_cons_succ]
      go_simp
      exact hK _ _ (chain_step HI.out hus hbs 6 _ (by show 6 < 17; decide) rfl hbp (val_of rfl rfl) (HI.out.ph.pure 6 _ (by decide) (by decide) hb0 (HI.out.ph.x.pure 6 _ (by decide) (by decide) (by decide))) (by simp only [puts, setAll, List.set_cons_zero, List.set_cons_succ, List.setIfInBounds_toArray]))
    refine Steps.cons rfl (fun bb aa w' hbs hb0 hbp hI K hK => ?_) ?_
    · obtain ⟨us, hus, ha, hI⟩ := hI
      obtain ⟨u0, u1, u2, u3, u4, u5, u6, u7, u8, u9, u10, u11, u12, u13, u14, u15, u16, rfl⟩ := lenA17 hus
      have HI := Veil.mk hI
      clear hI
      rw [ha]
      simp only [puts, setAll, List.setIfInBounds_toArray, List.set_cons_zero, List.set_cons_succ]
      go_simp
      exact hK _ _ (chain_step HI.out hus hbs 7 _ (by show 7 < 17; decide) rfl hbp (val_of rfl rfl) (HI.out.ph.pure 7 _ (by decide) (by decide) hb0 (HI.out.ph.x.pure 7 _ (by decide) (by decide) (by decide))) (by simp only [puts, setAll, List.set_cons_zero, List.set_cons_succ, List.setIfInBounds_toArray]))
    refine Steps.cons rfl (fun bb aa w' hbs hb0 hbp hI K hK => ?_) ?_
    · obtain ⟨us, hus, ha, hI⟩ := hI
      obtain ⟨u0, u1, u2, u3, u4, u5, u6, u7, u8, u9, u10, u11, u12, u13, u14, u15, u16, rfl⟩ := lenA17 hus
      have e7 : u7 = (.pointer (some ⟨sb, 2, none⟩)) := hI.val 7 _ rfl (gen_after 7 (by kernel_rfl) hbp)
      subst e7
      have c0 := hI.ph.x.sx.at_ 2
      have HI := Veil.mk hI
      clear hI
      rw [ha]
      simp only [puts, setAll, List.setIfInBounds_toArray, List.set_cons_zero, List.set_cons_succ]
      go_simp
      exact hK _ _ (chain_step HI.out hus hbs 8 _ (by show 8 < 17; decide) rfl hbp (val_of rfl rfl) (HI.out.ph.pure 8 _ (by decide) (by decide) hb0 (HI.out.ph.x.pure 8 _ (by decide) (by decide) (by decide))) (by simp only [puts, setAll, List.set_cons_zero, List.set_cons_succ, List.setIfInBounds_toArray]))
    refine Steps.cons rfl (fun bb aa w' hbs hb0 hbp hI K hK => ?_) ?_
    · obtain ⟨us, hus, ha, hI⟩ := hI
      obtain ⟨u0, u1, u2, u3, u4, u5, u6, u7, u8, u9, u10, u11, u12, u13, u14, u15, u16, rfl⟩ := lenA17 hus
      have e8 : u8 = (.string S) := hI.val 8 _ rfl (gen_after 8 (by kernel_rfl) hbp)
      subst e8
      have HI := Veil.mk hI
      clear hI
      rw [ha]
      simp only [puts, setAll, List.setIfInBounds_toArray, List.set_cons_zero, List.set_cons_succ]
      go_simp
      exact hK _ _ (chain_step HI.out hus hbs 9 _ (by show 9 < 17; decide) rfl hbp (val_of rfl rfl) (HI.out.ph.pure 9 _ (by decide) (by decide) hb0 (HI.out.ph.x.pure 9 _ (by decide) (by decide) (by decide))) (by simp only [puts, setAll, List.set_cons_zero, List.set_cons_succ, List.setIfInBounds_toArray]))
    refine Steps.cons rfl (fun bb aa w' hbs hb0 hbp hI K hK => ?_) ?_
    · obtain ⟨us, hus, ha, hI⟩ := hI
      obtain ⟨u0, u1, u2, u3, u4, u5, u6, u7, u8, u9, u10, u11, u12, u13, u14, u15, u16, rfl⟩ := lenA17 hus
      have e9 : u9 = (RV (7, 0, S) none) := hI.val 9 _ rfl (gen_after 9 (by kernel_rfl) hbp)
      subst e9
      have HI := Veil.mk hI
      clear hI
      rw [ha]
      simp only [puts, setAll, List.setIfInBounds_toArray, List.set_cons_zero, List.set_cons_succ]
      go_simp
      exact hK _ _ (chain_step HI.out hus hbs 10 _ (by show 10 < 17; decide) rfl hbp (val_of rfl rfl) (HI.out.ph.pure 10 _ (by decide) (by decide) hb0 (HI.out.ph.x.pure 10 _ (by decide) (by decide) (by decide))) (by simp only [puts, setAll, List.set_cons_zero, List.set_cons_succ, List.setIfInBounds_toArray]))
    refine Steps.cons rfl (fun bb aa w' hbs hb0 hbp hI K hK => ?_) ?_
    · obtain ⟨us, hus, ha, hI⟩ := hI
      obtain ⟨u0, u1, u2, u3, u4, u5, u6, u7, u8, u9, u10, u11, u12, u13, u14, u15, u16, rfl⟩ := lenA17 hus
      have e10 : u10 = (.agg (rObj ⟨#[115, 121, 109, 98, 111, 108]⟩ (.slice none 0 0) 7 0 S)) := hI.val 10 _ rfl (gen_after 10 (by kernel_rfl) hbp)
      subst e10
      have HI := Veil.mk hI
      clear hI
      rw [ha]
      simp only [puts, setAll, List.setIfInBounds_toArray, List.set_cons_zero, List.set_cons_succ]
      go_simp
      exact hK _ _ (chain_step HI.out hus hbs 11 _ (by show 11 < 17; decide) rfl hbp (val_of rfl ⟨_, rfl⟩) (HI.out.ph.below 11 _ (by decide) (by decide) hb0 ((Below.refl _ _).alloc (Nat.le_refl _) _) (HI.out.ph.x.box (by decide) (by decide) (Nat.le_of_lt HI.out.ph.x.alt) hb0)) (by simp only [puts, setAll, List.set_cons_zero, List.set_cons_succ, List.setIfInBounds_toArray]))
    refine Steps.cons rfl (fun bb aa w' hbs hb0 hbp hI K hK => ?_) ?_
    · obtain ⟨us, hus, ha, hI⟩ := hI
      obtain ⟨u0, u1, u2, u3, u4, u5, u6, u7, u8, u9, u10, u11, u12, u13, u14, u15, u16, rfl⟩ := lenA17 hus
      have e6 : u6 = (.int .i64 8) := hI.val 6 _ rfl (gen_after 6 (by kernel_rfl) hbp)
      subst e6
      have e11 := hI.val 11 _ rfl (gen_after 11 (by kernel_rfl) hbp)
      obtain ⟨g11, e11⟩ : ∃ g, u11 = _ := e11
      subst e11
      have hj := gen_after 11 (by kernel_rfl) hbp
      have HI := Veil.mk hI
      clear hI
      rw [ha]
      simp only [puts, setAll, List.setIfInBounds_toArray, List.set_cons_zero, List.set_cons_succ]
      go_simp
      exact hK _ _ (chain_step HI.out hus hbs 12 (RV (8, 0, ⟨#[]⟩) (some ⟨g11, 0, none⟩)) (by show 12 < 17; decide) rfl hbp (val_of rfl ⟨_, rfl⟩) (HI.out.ph.pure 12 _ (by decide) (by decide) hb0 (HI.out.ph.x.ref g11 (by decide) (by decide) hj rfl)) (by simp only [puts, setAll, List.set_cons_zero, List.set_cons_succ, List.setIfInBounds_toArray]))
    refine Steps.cons rfl (fun bb aa w' hbs hb0 hbp hI K hK => ?_) ?_
    · obtain ⟨us, hus, ha, hI⟩ := hI
      obtain ⟨u0, u1, u2, u3, u4, u5, u6, u7, u8, u9, u10, u11, u12, u13, u14, u15, u16, rfl⟩ := lenA17 hus
      have HI := Veil.mk hI
      clear hI
      rw [ha]
      simp only [puts, setAll, List.setIfInBounds_toArray, List.set_cons_zero, List.set_cons_succ]
      go_simp
      exact hK _ _ (chain_step HI.out hus hbs 13 _ (by show 13 < 17; decide) rfl hbp (val_of rfl rfl) (HI.out.ph.pure 13 _ (by decide) (by decide) hb0 (HI.out.ph.x.pure 13 _ (by decide) (by decide) (by decide))) (by simp only [puts, setAll, List.set_cons_zero, List.set_cons_succ, List.setIfInBounds_toArray]))
    refine Steps.cons rfl (fun bb aa w' hbs hb0 hbp hI K hK => ?_) ?_
    · obtain ⟨us, hus, ha, hI⟩ := hI
      obtain ⟨u0, u1, u2, u3, u4, u5, u6, u7, u8, u9, u10, u11, u12, u13, u14, u15, u16, rfl⟩ := lenA17 hus
      have e5 : u5 = (valV (8, ((os.length : Int) + 1), ⟨#[]⟩)) := hI.val 5 _ rfl (gen_after 5 (by kernel_rfl) hbp)
      subst e5
      have hq := hI.ph.z8 hb0
      have hj := gen_after 5 (by kernel_rfl) hbp
      have z0 : w'.cell? ⟨vb, 0, none⟩ = some (.int .i64 0) := hq.at_ 0
      have z1 : w'.cell? ⟨vb, 1, none⟩ = some (.int .i64 0) := hq.at_ 1
      have z2 : w'.cell? ⟨vb, 2, none⟩ = some (.string ⟨#[]⟩) := hq.at_ 2
      have f0 := hq.free 0
      have f1 := hq.free 1
      have f2 := hq.free 2
      clear hq
      have HI := Veil.mk hI
      clear hI
      rw [ha]
      simp only [puts, setAll, List.setIfInBounds_toArray, List.set_cons_zero, List.set_cons_succ]
      go_simp
      exact hK _ _ (chain_step HI.out hus hbs 14 undef (by show 14 < 17; decide) rfl hbp (none_of rfl) (HI.out.ph.sto8 (8, ((os.length : Int) + 1), ⟨#[]⟩) _ (by decide) (by decide) (by decide) HNE.out hb0 hj rfl (HI.out.ph.x.sto3 14 _ (by decide) (by decide) (by decide) HLO.out.1.1 HLO.out.1.2.1 HLO.out.1.2.2 HI.out.ph.lab8 (8, ((os.length : Int) + 1), ⟨#[]⟩))) (by simp only [puts, setAll, List.set_cons_zero, List.set_cons_succ, List.setIfInBounds_toArray]))
    refine Steps.cons rfl (fun bb aa w' hbs hb0 hbp hI K hK => ?_) ?_
    · obtain ⟨us, hus, ha, hI⟩ := hI
      obtain ⟨u0, u1, u2, u3, u4, u5, u6, u7, u8, u9, u10, u11, u12, u13, u14, u15, u16, rfl⟩ := lenA17 hus
      have e12 := hI.val 12 _ rfl (gen_after 12 (by kernel_rfl) hbp)
      obtain ⟨g12, e12⟩ : ∃ g, u12 = _ := e12
      subst e12
      have hq := hI.ph.z9 hb0
      have hj := gen_after 12 (by kernel_rfl) hbp
      have z0 : w'.cell? ⟨rb, 0, none⟩ = some (.int .i64 0) := hq.at_ 0
      have z1 : w'.cell? ⟨rb, 1, none⟩ = some (.int .i64 0) := hq.at_ 1
      have z2 : w'.cell? ⟨rb, 2, none⟩ = some (.string ⟨#[]⟩) := hq.at_ 2
      have z3 : w'.cell? ⟨rb, 3, none⟩ = some (.pointer none) := hq.at_ 3
      have f0 := hq.free 0
      have f1 := hq.free 1
      have f2 := hq.free 2
      have f3 := hq.free 3
      clear hq
      have HI := Veil.mk hI
      clear hI
      rw [ha]
      simp only [puts, setAll, List.setIfInBounds_toArray, List.set_cons_zero, List.set_cons_succ]
      go_simp
      exact hK _ _ (chain_step HI.out hus hbs 15 undef (by show 15 < 17; decide) rfl hbp (none_of rfl) (HI.out.ph.sto9 ((8, 0, ⟨#[]⟩), some ⟨g12, 0, none⟩) _ (by decide) (by decide) (by decide) HNE.out hb0 hj rfl (HI.out.ph.x.sto4 15 _ (by decide) (by decide) (by decide) HLO.out.2.1 HLO.out.2.2.1 HLO.out.2.2.2 HI.out.ph.lab9 ((8, 0, ⟨#[]⟩), some ⟨g12, 0, none⟩))) (by simp only [puts, setAll, List.set_cons_zero, List.set_cons_succ, List.setIfInBounds_toArray]))
    refine Steps.cons rfl (fun bb aa w' hbs hb0 hbp hI K hK => ?_) ?_
    · obtain ⟨us, hus, ha, hI⟩ := hI
      obtain ⟨u0, u1, u2, u3, u4, u5, u6, u7, u8, u9, u10, u11, u12, u13, u14, u15, u16, rfl⟩ := lenA17 hus
      have e13 : u13 = (.int .i64 ((at_ : Int) + 1)) := hI.val 13 _ rfl (gen_after 13 (by kernel_rfl) hbp)
      subst e13
      have HI := Veil.mk hI
      clear hI
      rw [ha]
      simp only [puts, setAll, List.setIfInBounds_toArray, List.set_cons_zero, List.set_cons_succ]
      go_simp
      exact hK _ _ (chain_step HI.out hus hbs 16 _ (by show 16 < 17; decide) rfl hbp (val_of rfl rfl) (HI.out.ph.pure 16 _ (by decide) (by decide) hb0 (HI.out.ph.x.pure 16 _ (by decide) (by decide) (by decide))) (by simp only [puts, setAll, List.set_cons_zero, List.set_cons_succ, List.setIfInBounds_toArray]))
    exact Steps.nil
  · intro us wE hus dd hD2 hJ
    obtain ⟨p0, p1, p2, p3, p4, p5, p6, p7, p8, p9, p10, p11, p12, p13, p14, p15, p16, rfl⟩ := lenA17 hus
    have hph := hJ.ph
    have e0 : p0 = (.pointer (some ⟨m, 0, none⟩)) := hJ.val 0 _ rfl (hD2 0 (by show 0 < 17; decide))
    subst e0
    have e1 : p1 = (.pointer (some ⟨m, 0, none⟩)) := hJ.val 1 _ rfl (hD2 1 (by show 1 < 17; decide))
    subst e1
    have e2 : p2 = (.pointer (some ⟨m, 0, none⟩)) := hJ.val 2 _ rfl (hD2 2 (by show 2 < 17; decide))
    subst e2
    have e3 : p3 = (.pointer (some ⟨h, 0, none⟩)) := hJ.val 3 _ rfl (hD2 3 (by show 3 < 17; decide))
    subst e3
    have e4 : p4 = (valV (7, 0, S)) := hJ.val 4 _ rfl (hD2 4 (by show 4 < 17; decide))
    subst e4
    have e5 : p5 = (valV (8, ((os.length : Int) + 1), ⟨#[]⟩)) := hJ.val 5 _ rfl (hD2 5 (by show 5 < 17; decide))
    subst e5
    have e6 : p6 = (.int .i64 8) := hJ.val 6 _ rfl (hD2 6 (by show 6 < 17; decide))
    subst e6
    have e7 : p7 = (.pointer (some ⟨sb, 2, none⟩)) := hJ.val 7 _ rfl (hD2 7 (by show 7 < 17; decide))
    subst e7
    have e8 : p8 = (.string S) := hJ.val 8 _ rfl (hD2 8 (by show 8 < 17; decide))
    subst e8
    have e9 : p9 = (RV (7, 0, S) none) := hJ.val 9 _ rfl (hD2 9 (by show 9 < 17; decide))
    subst e9
    have e10 : p10 = (.agg (rObj ⟨#[115, 121, 109, 98, 111, 108]⟩ (.slice none 0 0) 7 0 S)) := hJ.val 10 _ rfl (hD2 10 (by show 10 < 17; decide))
    subst e10
    have e13 : p13 = (.int .i64 ((at_ : Int) + 1)) := hJ.val 13 _ rfl (hD2 13 (by show 13 < 17; decide))
    subst e13
    have e16 : p16 = (.int .i64 ((at_ : Int) + 1)) := hJ.val 16 _ rfl (hD2 16 (by show 16 < 17; decide))
    subst e16
    clear hJ
    obtain ⟨-, gg, h11, h12⟩ := hph.x.b2 (hD2 12 (by show 12 < 17; decide))
    replace h11 : p11 = .pointer (some ⟨gg, 0, none⟩) := h11
    replace h12 : p12 = RV (8, 0, ⟨#[]⟩) (some ⟨gg, 0, none⟩) := h12
    subst h11 h12
    have q1 : Box wE vb _ (vC (8, ((os.length : Int) + 1), ⟨#[]⟩)) := (hph.s8 (hD2 14 (by show 14 < 17; decide))).2
    have q2 : Box wE rb _ (rC ((8, 0, ⟨#[]⟩), some ⟨gg, 0, none⟩)) := (hph.s9 (hD2 15 (by show 15 < 17; decide))).2
    obtain ⟨g2, k1, k2, k3⟩ := hph.x.b1 (hD2 11 (by show 11 < 17; decide))
    replace k1 : Value.pointer (some ⟨gg, 0, none⟩) = .pointer (some ⟨g2, 0, none⟩) := k1
    obtain rfl : gg = g2 := by injection k1 with k1; injection k1 with k1; injection k1
    obtain ⟨b, hm⟩ := hph.x.m1 (hD2 5 (by show 5 < 17; decide))
    have HF := Veil.mk (And.intro hm (And.intro hph.x.bel (And.intro hph.x.kp (And.intro k2 k3))))
    clear hph hD2 k1 k2 k3 hm
    have y0 := q1.at_ 0
    have y1 := q1.at_ 1
    have y2 := q1.at_ 2
    have z0 := q2.at_ 0
    have z1 := q2.at_ 1
    have z2 := q2.at_ 2
    have z3 := q2.at_ 3
    clear q1 q2
    simp only [puts, setAll, List.setIfInBounds_toArray, List.set_cons_zero, List.set_cons_succ]
    go_wp2
    exact bodyPost_ret (v := .tuple #[valV (8, ((os.length : Int) + 1), ⟨#[]⟩), RV (8, 0, ⟨#[]⟩) (some ⟨gg, 0, none⟩), .int .i64 ((at_ + 1 : Nat) : Int)]) (by simp [results, Tryz.results10, go_sem, y0, y1, y2, z0, z1, z2, z3]) rfl ⟨(8, ((os.length : Int) + 1), ⟨#[]⟩), ((8, 0, ⟨#[]⟩), some ⟨gg, 0, none⟩), at_ + 1, os ++ [(b, vC (7, 0, S))], rfl, HF.out.1, ⟨_, rfl⟩, HF.out.2.1, HF.out.2.2.1, by omega, by omega, by rw [List.length_append, List.length_singleton]; omega, fun k _ => HSZ.out _ wE gg b HF.out.2.2.2.1 HF.out.2.2.2.2 k⟩
end
end Go.Proofs.YtgdkjkfbknbgkaaGreatDoor
namespace Go.Proofs.YtgdkjkfbknbgkaaGreatDoor
open Go Go.RowKit
attribute [local go_sem] Oper.semAt_some

def OmSt (h A m : Nat) (f : Nat → Int) (os : List OS) (cn : Int) (WD : World) : Nat → (Nat → Value) → World → Prop
  | 0 => fun _ w => w = WD
  | _ => fun _ w => Y.MM w h A m f (os ++ [(WD.heap.size, obj0 cn 0)]) ∧ Below A WD w ∧ Kp arT WD w
section
variable {w : World} {h A m : Nat} {f : Nat → Int} {os : List OS}
set_option maxHeartbeats 2000000 in
set_option maxRecDepth 100000 in
theorem grow_obj (H : Y.MM w h A m f os) (a : Option Addr) (n c : Nat) (ps : List PI) (B : Nat) (HP : PlA w B a n ps) (hBA : B ≤ A) (hn5 : n ≤ 500) (at_ dp : Nat) {x : PI} (hx : ps[at_]? = some x) (hx1 : (x.k.tmod 12 + 12).tmod 12 = 9) (hx2 : (x.k.tmod 12 + 12) % 12 = 9) (hx3 : 0 < x.k.tmod 12 + 12) (hx4 : x.k.tmod 12 < 12) (hlen : os.length < 1000000) : Calls Tryz.prog 10 #[(.pointer (some ⟨m, 0, none⟩)), .agg #[.slice a n c], .int .i64 (at_ : Int), .int .i64 (dp : Int)] w (GPost w A h m f os n at_) := by
  obtain ⟨pb, hpb⟩ : ∃ pb, w.heap.size = pb := ⟨_, rfl⟩
  obtain ⟨vb, hvb⟩ : ∃ vb, pb + 1 = vb := ⟨_, rfl⟩
  obtain ⟨rb, hrb⟩ : ∃ rb, vb + 1 = rb := ⟨_, rfl⟩
  obtain ⟨W0, hW0⟩ : ∃ W0, ((w.alloc (.cells #[.slice a n c] 24)).alloc (.cells #[.int .i64 0, .int .i64 0, .string ⟨#[]⟩] 30)).alloc (.cells #[.int .i64 0, .int .i64 0, .string ⟨#[]⟩, .pointer none] 33) = W0 := ⟨_, rfl⟩
  have bx := frame0 w W0 #[.slice a n c] pb vb rb hpb hvb hrb hW0
  have HW0 := Veil.mk (And.intro hW0 (And.intro hpb (And.intro hvb hrb)))
  have x0 : W0.cell? ⟨pb, 0, none⟩ = some (.slice a n c) := bx.2.1.at_ 0
  have hmem := List.mem_of_getElem? hx
  have hlt0 : at_ < n := by have := (List.getElem?_eq_some_iff.1 hx).1; have := HP.len; omega
  have HP0 := HP.on (bx.1.mono (Nat.le_of_lt (Nat.lt_of_le_of_lt hBA H.alt)))
  obtain ⟨pa, po, rfl, hpl, hpc⟩ := HP0.cells (by omega)
  obtain ⟨c0, c1, c2⟩ := hpc at_ x hx
  obtain ⟨-, -, -, ⟨hn1, hn2⟩, sa, sc, e1, -⟩ := HP.rd x hmem
  rw [e1] at c2
  obtain ⟨xl, hxl⟩ : ∃ y, x.l.length = y := ⟨_, rfl⟩
  obtain ⟨xk, hxk⟩ : ∃ y, x.k = y := ⟨_, rfl⟩
  obtain ⟨xn, hxn⟩ : ∃ y, x.n = y := ⟨_, rfl⟩
  rw [hxl] at c2
  rw [hxk] at c0 hx1 hx2 hx3 hx4
  rw [hxn] at c1 hn1 hn2
  have hge : ¬ (n : Int) ≤ (at_ : Int) := by omega
  have hat : (at_ : Int) < (n : Int) := by omega
  have ha0 : (0 : Int) ≤ (at_ : Int) := by omega
  have han : (at_ : Int) ≤ 500 := by omega
  obtain ⟨xb, hxb⟩ : ∃ xb, W0.heap.size = xb := ⟨_, rfl⟩
  obtain ⟨W1, hW1⟩ : ∃ W1, W0.alloc (.cells #[.int .i64 xk, .int .i64 xn, .slice sa xl sc] 82) = W1 := ⟨_, rfl⟩
  have bz := frame1 bx hxb hW1
  have HW1 := Veil.mk (And.intro hW1 hxb)
  have y0 : W1.cell? ⟨xb, 0, none⟩ = some (.int .i64 xk) := bz.2.2.2.2.2.1.at_ 0
  have y1 : W1.cell? ⟨xb, 1, none⟩ = some (.int .i64 xn) := bz.2.2.2.2.2.1.at_ 1
  have y2 : W1.cell? ⟨xb, 2, none⟩ = some (.slice sa xl sc) := bz.2.2.2.2.2.1.at_ 2
  have p0 : W1.cell? ⟨pb, 0, none⟩ = some (.slice (some ⟨pa, po, none⟩) n c) := bz.2.1.at_ 0
  have HX := Veil.mk (And.intro H bz)
  have HQ := Veil.mk (And.intro HP (And.intro hmem (And.intro e1 (And.intro hxl (And.intro hxk hxn)))))
  have v0 : W1.cell? ⟨vb, 0, none⟩ = some (.int .i64 0) := bz.2.2.1.at_ 0
  have v1 : W1.cell? ⟨vb, 1, none⟩ = some (.int .i64 0) := bz.2.2.1.at_ 1
  have v2 : W1.cell? ⟨vb, 2, none⟩ = some (.string ⟨#[]⟩) := bz.2.2.1.at_ 2
  have r0 : W1.cell? ⟨rb, 0, none⟩ = some (.int .i64 0) := bz.2.2.2.1.at_ 0
  have r1 : W1.cell? ⟨rb, 1, none⟩ = some (.int .i64 0) := bz.2.2.2.1.at_ 1
  have r2 : W1.cell? ⟨rb, 2, none⟩ = some (.string ⟨#[]⟩) := bz.2.2.2.1.at_ 2
  have r3 : W1.cell? ⟨rb, 3, none⟩ = some (.pointer none) := bz.2.2.2.1.at_ 3
  have f0 := bz.2.2.1.free 0
  have f1 := bz.2.2.1.free 1
  have f2 := bz.2.2.1.free 2
  have g0 := bz.2.2.2.1.free 0
  have g1 := bz.2.2.2.1.free 1
  have g2 := bz.2.2.2.1.free 2
  have g3 := bz.2.2.2.1.free 3
  have hvr : (vb = rb) = False := by simp; have := HW0.out; omega
  have hrv : (rb = vb) = False := by simp; have := HW0.out; omega
  clear hge
  have hge : ¬ (n : Int) ≤ (at_ : Int) := by omega
  have hpl9 : True := trivial
  obtain ⟨ci, hci, hy1, hy2, hy3, hy4⟩ := rem_nat xn 9 (by omega)
  rw [show ((9 : Nat) : Int) = 9 from rfl] at hy1 hy2 hy3 hy4
  obtain ⟨cn, hcn⟩ : ∃ cn, clsN[ci]? = some cn := ⟨_, List.getElem?_eq_getElem (by show ci < 9; exact hci)⟩
  obtain ⟨nm, hnm⟩ : ∃ nm, cls[ci]? = some nm := ⟨_, List.getElem?_eq_getElem (by show ci < 9; exact hci)⟩
  have HCN : Veil ((#[.int .i64 0, .int .i64 3, .int .i64 4, .int .i64 6, .int .i64 7, .int .i64 8, .int .i64 9, .int .i64 10, .int .i64 11] : Array Value)[ci]? = some (.int .i64 cn)) := ⟨by
    have e : (clsN.map (fun k => Value.int .i64 k))[ci]? = some (.int .i64 cn) := by rw [List.getElem?_map, hcn]; rfl
    rw [← Array.getElem?_toList]
    exact e⟩
  have HNM : Veil ((#[.string ⟨#[79, 98, 106, 101, 99, 116]⟩, .string ⟨#[77, 97, 112]⟩, .string ⟨#[83, 101, 116]⟩, .string ⟨#[87, 101, 97, 107, 77, 97, 112]⟩, .string ⟨#[87, 101, 97, 107, 83, 101, 116]⟩, .string ⟨#[87, 101, 97, 107, 82, 101, 102]⟩, .string ⟨#[70, 105, 110, 97, 108, 105, 122, 97, 116, 105, 111, 110, 82, 101, 103, 105, 115, 116, 114, 121]⟩, .string ⟨#[71, 101, 110, 101, 114, 97, 116, 111, 114]⟩, .string ⟨#[80, 114, 111, 109, 105, 115, 101]⟩] : Array Value)[ci]? = some (.string nm)) := ⟨by
    have e : (cls.map (fun k => Value.string k))[ci]? = some (.string nm) := by rw [List.getElem?_map, hnm]; rfl
    rw [← Array.getElem?_toList]
    exact e⟩
  have HSZ : Veil (∀ (F : Nat → Prop) (wE : World) (gg sz : Nat), F gg → Box wE gg 79 (rObj nm (.slice none 0 0) 0 0 ⟨#[]⟩) → ∀ k, ∃ s, s.size ≤ bnd k ∧ Sh F wE (os ++ [(sz, obj0 cn 0)]) k (9, ((os.length : Int) + 1), ⟨#[]⟩) ((9, 0, ⟨#[]⟩), some ⟨gg, 0, none⟩) s) := ⟨fun F wE gg sz hF hB k => by
    refine ShB.sh (s := ⟨#[91]⟩ ++ nm ++ ⟨#[93]⟩) (.inr (.inr ⟨os.length, sz, obj0 cn 0, ci, cn, nm, gg, (rObj nm (.slice none 0 0) 0 0 ⟨#[]⟩), rfl, ?_, (by show (16 : Nat) ≠ 3; decide), hcn, hnm, rfl, rfl, hF, hB, rfl, rfl⟩)) ?_ k
    · rw [List.getElem?_append_right (Nat.le_refl _), Nat.sub_self]
      rfl
    · have h1 := cls_size ci nm hnm
      rw [ByteArray.size_append, ByteArray.size_append]
      show 1 + nm.size + 1 ≤ _
      omega⟩
  have hc0 : (0 : Int) ≤ (ci : Int) := by omega
  have hc9 : (ci : Int) < 9 := by omega
  clear hcn hnm
  clear H bx bz hW0 hpb hvb hrb HP hW1 hxb HP0 hpc hx hxk hxn hxl hpl hmem e1
  go_enter Tryz.func10, Tryz.ntmps10
  go_upto_region 1 with (fail)
  rw [HW0.out.1, HW0.out.2.1, HW0.out.2.2.1, HW0.out.2.2.2]
  go_upto_region 4 with (fail)
  rw [HW1.out.1, HW1.out.2]
  clear c0 c1 c2 x0 hge hpl9
  go_upto_region 33 with (fail)
  obtain ⟨nb, hnb⟩ : ∃ nb, W1.heap.size = nb := ⟨_, rfl⟩
  obtain ⟨cb, hcb⟩ : ∃ cb, nb + 1 = cb := ⟨_, rfl⟩
  obtain ⟨W3, hW3⟩ : ∃ W3, (W1.alloc (.cells #[.string ⟨#[79, 98, 106, 101, 99, 116]⟩, .string ⟨#[77, 97, 112]⟩, .string ⟨#[83, 101, 116]⟩, .string ⟨#[87, 101, 97, 107, 77, 97, 112]⟩, .string ⟨#[87, 101, 97, 107, 83, 101, 116]⟩, .string ⟨#[87, 101, 97, 107, 82, 101, 102]⟩, .string ⟨#[70, 105, 110, 97, 108, 105, 122, 97, 116, 105, 111, 110, 82, 101, 103, 105, 115, 116, 114, 121]⟩, .string ⟨#[71, 101, 110, 101, 114, 97, 116, 111, 114]⟩, .string ⟨#[80, 114, 111, 109, 105, 115, 101]⟩] 9)).alloc (.cells #[.int .i64 0, .int .i64 3, .int .i64 4, .int .i64 6, .int .i64 7, .int .i64 8, .int .i64 9, .int .i64 10, .int .i64 11] 3) = W3 := ⟨_, rfl⟩
  have hbb : Below W1.heap.size W1 W3 := by rw [← hW3]; exact ((Below.refl _ _).alloc (Nat.le_refl _) _).alloc (by simp) _
  have hbn : Box W3 nb 9 #[.string ⟨#[79, 98, 106, 101, 99, 116]⟩, .string ⟨#[77, 97, 112]⟩, .string ⟨#[83, 101, 116]⟩, .string ⟨#[87, 101, 97, 107, 77, 97, 112]⟩, .string ⟨#[87, 101, 97, 107, 83, 101, 116]⟩, .string ⟨#[87, 101, 97, 107, 82, 101, 102]⟩, .string ⟨#[70, 105, 110, 97, 108, 105, 122, 97, 116, 105, 111, 110, 82, 101, 103, 105, 115, 116, 114, 121]⟩, .string ⟨#[71, 101, 110, 101, 114, 97, 116, 111, 114]⟩, .string ⟨#[80, 114, 111, 109, 105, 115, 101]⟩] := by rw [← hW3, ← hnb]; exact (Box.new _ _ _).more _
  have hbc : Box W3 cb 3 #[.int .i64 0, .int .i64 3, .int .i64 4, .int .i64 6, .int .i64 7, .int .i64 8, .int .i64 9, .int .i64 10, .int .i64 11] := by
    rw [← hW3, ← hcb, ← hnb]
    have := Box.new (W1.alloc (.cells #[.string ⟨#[79, 98, 106, 101, 99, 116]⟩, .string ⟨#[77, 97, 112]⟩, .string ⟨#[83, 101, 116]⟩, .string ⟨#[87, 101, 97, 107, 77, 97, 112]⟩, .string ⟨#[87, 101, 97, 107, 83, 101, 116]⟩, .string ⟨#[87, 101, 97, 107, 82, 101, 102]⟩, .string ⟨#[70, 105, 110, 97, 108, 105, 122, 97, 116, 105, 111, 110, 82, 101, 103, 105, 115, 116, 114, 121]⟩, .string ⟨#[71, 101, 110, 101, 114, 97, 116, 111, 114]⟩, .string ⟨#[80, 114, 111, 109, 105, 115, 101]⟩] 9)) 3 #[.int .i64 0, .int .i64 3, .int .i64 4, .int .i64 6, .int .i64 7, .int .i64 8, .int .i64 9, .int .i64 10, .int .i64 11]
    rwa [World.size_alloc] at this
  have hbw : Below w.heap.size w W3 := HX.out.2.1.trans (hbb.mono HX.out.2.1.size)
  obtain ⟨WD, hWD⟩ : ∃ WD, W3.drew = WD := ⟨_, rfl⟩
  have HVD : Veil (Box WD vb 30 #[.int .i64 0, .int .i64 0, .string ⟨#[]⟩] ∧ Box WD rb 33 #[.int .i64 0, .int .i64 0, .string ⟨#[]⟩, .pointer none] ∧ Below A w WD ∧ Kp arT w WD ∧ Box WD nb 9 #[.string ⟨#[79, 98, 106, 101, 99, 116]⟩, .string ⟨#[77, 97, 112]⟩, .string ⟨#[83, 101, 116]⟩, .string ⟨#[87, 101, 97, 107, 77, 97, 112]⟩, .string ⟨#[87, 101, 97, 107, 83, 101, 116]⟩, .string ⟨#[87, 101, 97, 107, 82, 101, 102]⟩, .string ⟨#[70, 105, 110, 97, 108, 105, 122, 97, 116, 105, 111, 110, 82, 101, 103, 105, 115, 116, 114, 121]⟩, .string ⟨#[71, 101, 110, 101, 114, 97, 116, 111, 114]⟩, .string ⟨#[80, 114, 111, 109, 105, 115, 101]⟩]) := ⟨by rw [← hWD]; exact (HX.out.2.2.2.1.below hbb).drew, by rw [← hWD]; exact (HX.out.2.2.2.2.1.below hbb).drew, by rw [← hWD]; exact hbw.drew.mono (Nat.le_of_lt HX.out.1.alt), by rw [← hWD]; exact Kp.of_below hbw.drew, by rw [← hWD]; exact hbn.drew⟩
  have HWM : Veil (Y.MM WD h A m f os) := ⟨by rw [← hWD]; exact HX.out.1.on hbw.drew⟩
  have HCB : Veil (WD.cell? ⟨cb, ci, none⟩ = some (.int .i64 cn)) := ⟨by
    rw [← hWD]
    rw [hbc.drew.at_ ci]
    exact HCN.out⟩
  have HMA : Veil (Calls Tryz.prog 13 #[(.pointer (some ⟨h, 0, none⟩)), .int .i64 cn, .int .i64 0] WD fun e w' => e = .returned (.tuple #[.int .i64 ((os.length : Int) + 1), .pointer (some ⟨WD.heap.size, 0, none⟩)]) ∧ (Y.MM w' h A m f (os ++ [(WD.heap.size, obj0 cn 0)]) ∧ Below A WD w' ∧ Kp arT WD w')) := ⟨by
    refine (HWM.out.make cn 0 hlen).mono ?_
    rintro e w' ⟨h1, h2, h3, h4, -⟩
    exact ⟨h1, h2, h3, h4⟩⟩
  have HWD := Veil.mk hWD
  have HLO : Veil ((A ≤ vb ∧ w.heap.size ≤ vb ∧ nb ≠ vb) ∧ (A ≤ rb ∧ w.heap.size ≤ rb ∧ nb ≠ rb)) := ⟨by
    have := HW0.out.2
    have := HX.out.1.alt
    have := HX.out.2.2.2.2.2.1
    have := HX.out.2.2.2.2.2.2.2
    omega⟩
  have t1 : W3.cell? ⟨xb, 1, none⟩ = some (.int .i64 xn) := (HX.out.2.2.2.2.2.2.1.below hbb).at_ 1
  rw [hW3]
  rw [hnb, hcb]
  clear hW3 hnb hcb hbb hbn hbc hbw hWD
  go_upto_region 34 with (fail)
  have HNE : Veil (vb ≠ rb) := ⟨by have := HW0.out.2; omega⟩
  clear v0 v1 v2 r0 r1 r2 r3 f0 f1 f2 g0 g1 g2 g3 y0 y1 y2 p0 hvr hrv hx1 hx2 hx3 hx4 hy1 hy2 hy3 hy4
  refine wp_region_chain (some (· = (.pointer (some ⟨m, 0, none⟩))) :: some (· = (.pointer (some ⟨m, 0, none⟩))) :: some (· = (.pointer (some ⟨m, 0, none⟩))) :: some (· = (.pointer (some ⟨h, 0, none⟩))) :: some (· = (.slice (some ⟨cb, 0, none⟩) 9 9)) :: some (· = (.int .i64 (ci : Int))) :: some (· = (.pointer (some ⟨cb, ci, none⟩))) :: some (· = (.int .i64 cn)) :: some (· = (.tuple #[.int .i64 ((os.length : Int) + 1), .pointer (some ⟨WD.heap.size, 0, none⟩)])) :: some (· = (.tuple #[.int .i64 ((os.length : Int) + 1), .pointer (some ⟨WD.heap.size, 0, none⟩)])) :: some (· = (.int .i64 ((os.length : Int) + 1))) :: some (· = (.pointer (some ⟨WD.heap.size, 0, none⟩))) :: some (· = (.int .i64 ((os.length : Int) + 1))) :: some (· = (.pointer (some ⟨WD.heap.size, 0, none⟩))) :: [] : List (Option (Value → Prop))) (LPh [8] (OmSt h A m f os cn WD)) [some 179, some 180, some 181, some 182, some 183, some 184, some 185, some 186, some 187, some 178, some 188, some 189, some 24, some 25] (curV' _ [some 179, some 180, some 181, some 182, some 183, some 184, some 185, some 186, some 187, some 178, some 188, some 189, some 24, some 25]) (by kernel_rfl) rfl rfl (puts_cur _ _) (LPh.start (show W3.drew = WD from HWD.out)) ?_ (by kernel_rfl) ?_
  · refine Steps.cons rfl (fun bb aa w' hbs hb0 hbp hI K hK => ?_) ?_
    · obtain ⟨us, hus, ha, hI⟩ := hI
      obtain ⟨u0, u1, u2, u3, u4, u5, u6, u7, u8, u9, u10, u11, u12, u13, rfl⟩ := lenA14 hus
      have HI := Veil.mk hI
      clear hI
      rw [ha]
      simp only [puts, setAll, List.setIfInBounds_toArray, List.set_cons_zero, List.set_cons_succ]
      go_simp
      exact hK _ _ (chain_step HI.out hus hbs 0 _ (by show 0 < 14; decide) rfl hbp (val_of rfl rfl) (HI.out.ph.step 0 _ (by decide) (by decide)) (by simp only [puts, setAll, List.set_cons_zero, List.set_cons_succ, List.setIfInBounds_toArray]))
    refine Steps.cons rfl (fun bb aa w' hbs hb0 hbp hI K hK => ?_) ?_
    · obtain ⟨us, hus, ha, hI⟩ := hI
      obtain ⟨u0, u1, u2, u3, u4, u5, u6, u7, u8, u9, u10, u11, u12, u13, rfl⟩ := lenA14 hus
      have e0 : u0 = (.pointer (some ⟨m, 0, none⟩)) := hI.val 0 _ rfl (gen_after 0 (by kernel_rfl) hbp)
      subst e0
      have HI := Veil.mk hI
      clear hI
      rw [ha]
      simp only [puts, setAll, List.setIfInBounds_toArray, List.set_cons_zero, List.set_cons_succ]
      go_simp
      exact hK _ _ (chain_step HI.out hus hbs 1 _ (by show 1 < 14; decide) rfl hbp (val_of rfl rfl) (HI.out.ph.step 1 _ (by decide) (by decide)) (by simp only [puts, setAll, List.set_cons_zero, List.set_cons_succ, List.setIfInBounds_toArray]))
    refine Steps.cons rfl (fun bb aa w' hbs hb0 hbp hI K hK => ?_) ?_
    · obtain ⟨us, hus, ha, hI⟩ := hI
      obtain ⟨u0, u1, u2, u3, u4, u5, u6, u7, u8, u9, u10, u11, u12, u13, rfl⟩ := lenA14 hus
      have e1 : u1 = (.pointer (some ⟨m, 0, none⟩)) := hI.val 1 _ rfl (gen_after 1 (by kernel_rfl) hbp)
      subst e1
      have HI := Veil.mk hI
      clear hI
      rw [ha]
      simp only [puts, setAll, List.setIfInBounds_toArray, List.set_cons_zero, List.set_cons_succ]
      go_simp
      exact hK _ _ (chain_step HI.out hus hbs 2 _ (by show 2 < 14; decide) rfl hbp (val_of rfl rfl) (HI.out.ph.step 2 _ (by decide) (by decide)) (by simp only [puts, setAll, List.set_cons_zero, List.set_cons_succ, List.setIfInBounds_toArray]))
    refine Steps.cons rfl (fun bb aa w' hbs hb0 hbp hI K hK => ?_) ?_
    · obtain ⟨us, hus, ha, hI⟩ := hI
      obtain ⟨u0, u1, u2, u3, u4, u5, u6, u7, u8, u9, u10, u11, u12, u13, rfl⟩ := lenA14 hus
      have e2 : u2 = (.pointer (some ⟨m, 0, none⟩)) := hI.val 2 _ rfl (gen_after 2 (by kernel_rfl) hbp)
      subst e2
      have gb := (hI.bwd [3] 8 3 (by kernel_rfl) rfl hb0)
      have hst := hI.ph.btw1 0 (.inl rfl) (.inr ⟨8, rfl, gb⟩)
      have hst' : WD = w' := (show w' = WD from hst).symm
      clear hst
      subst hst'
      have c0 := HWM.out.cell0
      clear gb
      have HI := Veil.mk hI
      clear hI
      rw [ha]
      simp only [puts, setAll, List.setIfInBounds_toArray, List.set_cons_zero, List.set_cons_succ]
      go_simp
      exact hK _ _ (chain_step HI.out hus hbs 3 _ (by show 3 < 14; decide) rfl hbp (val_of rfl rfl) (HI.out.ph.step 3 _ (by decide) (by decide)) (by simp only [puts, setAll, List.set_cons_zero, List.set_cons_succ, List.setIfInBounds_toArray]))
    refine Steps.cons rfl (fun bb aa w' hbs hb0 hbp hI K hK => ?_) ?_
    · obtain ⟨us, hus, ha, hI⟩ := hI
      obtain ⟨u0, u1, u2, u3, u4, u5, u6, u7, u8, u9, u10, u11, u12, u13, rfl⟩ := lenA14 hus
      have HI := Veil.mk hI
      clear hI
      rw [ha]
      simp only [puts, setAll, List.setIfInBounds_toArray, List.set_cons_zero, List.set_cons_succ]
      go_simp
      exact hK _ _ (chain_step HI.out hus hbs 4 _ (by show 4 < 14; decide) rfl hbp (val_of rfl rfl) (HI.out.ph.step 4 _ (by decide) (by decide)) (by simp only [puts, setAll, List.set_cons_zero, List.set_cons_succ, List.setIfInBounds_toArray]))
    refine Steps.cons rfl (fun bb aa w' hbs hb0 hbp hI K hK => ?_) ?_
    · obtain ⟨us, hus, ha, hI⟩ := hI
      obtain ⟨u0, u1, u2, u3, u4, u5, u6, u7, u8, u9, u10, u11, u12, u13, rfl⟩ := lenA14 hus
      have HI := Veil.mk hI
      clear hI
      rw [ha]
      simp only [puts, setAll, List.setIfInBounds_toArray, List.set_cons_zero, List.set_cons_succ]
      go_simp
      exact hK _ _ (chain_step HI.out hus hbs 5 _ (by show 5 < 14; decide) rfl hbp (val_of rfl rfl) (HI.out.ph.step 5 _ (by decide) (by decide)) (by simp only [puts, setAll, List.set_cons_zero, List.set_cons_succ, List.setIfInBounds_toArray]))
    refine Steps.cons rfl (fun bb aa w' hbs hb0 hbp hI K hK => ?_) ?_
    · obtain ⟨us, hus, ha, hI⟩ := hI
      obtain ⟨u0, u1, u2, u3, u4, u5, u6, u7, u8, u9, u10, u11, u12, u13, rfl⟩ := lenA14 hus
      have e4 : u4 = (.slice (some ⟨cb, 0, none⟩) 9 9) := hI.val 4 _ rfl (gen_after 4 (by kernel_rfl) hbp)
      subst e4
      have e5 : u5 = (.int .i64 (ci : Int)) := hI.val 5 _ rfl (gen_after 5 (by kernel_rfl) hbp)
      subst e5
      have HI := Veil.mk hI
      clear hI
      rw [ha]
      simp only [puts, setAll, List.setIfInBounds_toArray, List.set_cons_zero, List.set_cons_succ]
      go_simp
      exact hK _ _ (chain_step HI.out hus hbs 6 _ (by show 6 < 14; decide) rfl hbp (val_of rfl rfl) (HI.out.ph.step 6 _ (by decide) (by decide)) (by simp only [puts, setAll, List.set_cons_zero, List.set_cons_succ, List.setIfInBounds_toArray]))
    refine Steps.cons rfl (fun bb aa w' hbs hb0 hbp hI K hK => ?_) ?_
    · obtain ⟨us, hus, ha, hI⟩ := hI
      obtain ⟨u0, u1, u2, u3, u4, u5, u6, u7, u8, u9, u10, u11, u12, u13, rfl⟩ := lenA14 hus
      have e6 : u6 = (.pointer (some ⟨cb, ci, none⟩)) := hI.val 6 _ rfl (gen_after 6 (by kernel_rfl) hbp)
      subst e6
      have gb := (hI.bwd [7] 8 7 (by kernel_rfl) rfl hb0)
      have hst := hI.ph.btw1 0 (.inl rfl) (.inr ⟨8, rfl, gb⟩)
      have hst' : WD = w' := (show w' = WD from hst).symm
      clear hst
      subst hst'
      have c0 : WD.cell? ⟨cb, ci, none⟩ = some (.int .i64 cn) := HCB.out
      clear gb
      have HI := Veil.mk hI
      clear hI
      rw [ha]
      simp only [puts, setAll, List.setIfInBounds_toArray, List.set_cons_zero, List.set_cons_succ]
      go_simp
      exact hK _ _ (chain_step HI.out hus hbs 7 _ (by show 7 < 14; decide) rfl hbp (val_of rfl rfl) (HI.out.ph.step 7 _ (by decide) (by decide)) (by simp only [puts, setAll, List.set_cons_zero, List.set_cons_succ, List.setIfInBounds_toArray]))
    refine Steps.cons rfl (fun bb aa w' hbs hb0 hbp hI K hK => ?_) ?_
    · obtain ⟨us, hus, ha, hI⟩ := hI
      obtain ⟨u0, u1, u2, u3, u4, u5, u6, u7, u8, u9, u10, u11, u12, u13, rfl⟩ := lenA14 hus
      have e3 : u3 = (.pointer (some ⟨h, 0, none⟩)) := hI.val 3 _ rfl (gen_after 3 (by kernel_rfl) hbp)
      subst e3
      have e7 : u7 = (.int .i64 cn) := hI.val 7 _ rfl (gen_after 7 (by kernel_rfl) hbp)
      subst e7
      have gb := hb0
      have hst := hI.ph.btw1 0 (.inl rfl) (.inr ⟨8, rfl, gb⟩)
      have hst' : WD = w' := (show w' = WD from hst).symm
      clear hst
      subst hst'
      clear gb
      have HI := Veil.mk hI
      clear hI
      rw [ha]
      simp only [puts, setAll, List.setIfInBounds_toArray, List.set_cons_zero, List.set_cons_succ]
      go_simp
      go_at_call 13
      refine HMA.out.mono ?_
      rintro e9 w9 ⟨rfl, hm9⟩
      go_simp
      exact hK _ _ (chain_step HI.out hus hbs 8 _ (by show 8 < 14; decide) rfl hbp (val_of rfl rfl) (HI.out.ph.next 0 8 _ rfl hb0 (.inl rfl) (by decide) (hm9)) (by simp only [puts, setAll, List.set_cons_zero, List.set_cons_succ, List.setIfInBounds_toArray]))
    refine Steps.cons rfl (fun bb aa w' hbs hb0 hbp hI K hK => ?_) ?_
    · obtain ⟨us, hus, ha, hI⟩ := hI
      obtain ⟨u0, u1, u2, u3, u4, u5, u6, u7, u8, u9, u10, u11, u12, u13, rfl⟩ := lenA14 hus
      have e8 : u8 = (.tuple #[.int .i64 ((os.length : Int) + 1), .pointer (some ⟨WD.heap.size, 0, none⟩)]) := hI.val 8 _ rfl (gen_after 8 (by kernel_rfl) hbp)
      subst e8
      have HI := Veil.mk hI
      clear hI
      rw [ha]
      simp only [puts, setAll, List.setIfInBounds_toArray, List.set_cons_zero, List.set_cons_succ]
      go_simp
      exact hK _ _ (chain_step HI.out hus hbs 9 _ (by show 9 < 14; decide) rfl hbp (val_of rfl rfl) (HI.out.ph.step 9 _ (by decide) (by decide)) (by simp only [puts, setAll, List.set_cons_zero, List.set_cons_succ, List.setIfInBounds_toArray]))
    refine Steps.cons rfl (fun bb aa w' hbs hb0 hbp hI K hK => ?_) ?_
    · obtain ⟨us, hus, ha, hI⟩ := hI
      obtain ⟨u0, u1, u2, u3, u4, u5, u6, u7, u8, u9, u10, u11, u12, u13, rfl⟩ := lenA14 hus
      have e9 : u9 = (.tuple #[.int .i64 ((os.length : Int) + 1), .pointer (some ⟨WD.heap.size, 0, none⟩)]) := hI.val 9 _ rfl (gen_after 9 (by kernel_rfl) hbp)
      subst e9
      have HI := Veil.mk hI
      clear hI
      rw [ha]
      simp only [puts, setAll, List.setIfInBounds_toArray, List.set_cons_zero, List.set_cons_succ]
      go_simp
      exact hK _ _ (chain_step HI.out hus hbs 10 _ (by show 10 < 14; decide) rfl hbp (val_of rfl rfl) (HI.out.ph.step 10 _ (by decide) (by decide)) (by simp only [puts, setAll, List.set_cons_zero, List.set_cons_succ, List.setIfInBounds_toArray]))
    refine Steps.cons rfl (fun bb aa w' hbs hb0 hbp hI K hK => ?_) ?_
    · obtain ⟨us, hus, ha, hI⟩ := hI
      obtain ⟨u0, u1, u2, u3, u4, u5, u6, u7, u8, u9, u10, u11, u12, u13, rfl⟩ := lenA14 hus
      have e9 : u9 = (.tuple #[.int .i64 ((os.length : Int) + 1), .pointer (some ⟨WD.heap.size, 0, none⟩)]) := hI.val 9 _ rfl (gen_after 9 (by kernel_rfl) hbp)
      subst e9
      have HI := Veil.mk hI
      clear hI
      rw [ha]
      simp only [puts, setAll, List.setIfInBounds_toArray, List.set_cons_zero, List.set_cons_succ]
      go_simp
      exact hK _ _ (chain_step HI.out hus hbs 11 _ (by show 11 < 14; decide) rfl hbp (val_of rfl rfl) (HI.out.ph.step 11 _ (by decide) (by decide)) (by simp only [puts, setAll, List.set_cons_zero, List.set_cons_succ, List.setIfInBounds_toArray]))
    refine Steps.cons rfl (fun bb aa w' hbs hb0 hbp hI K hK => ?_) ?_
    · obtain ⟨us, hus, ha, hI⟩ := hI
      obtain ⟨u0, u1, u2, u3, u4, u5, u6, u7, u8, u9, u10, u11, u12, u13, rfl⟩ := lenA14 hus
      have e10 : u10 = (.int .i64 ((os.length : Int) + 1)) := hI.val 10 _ rfl (gen_after 10 (by kernel_rfl) hbp)
      subst e10
      have HI := Veil.mk hI
      clear hI
      rw [ha]
      simp only [puts, setAll, List.setIfInBounds_toArray, List.set_cons_zero, List.set_cons_succ]
      go_simp
      exact hK _ _ (chain_step HI.out hus hbs 12 _ (by show 12 < 14; decide) rfl hbp (val_of rfl rfl) (HI.out.ph.step 12 _ (by decide) (by decide)) (by simp only [puts, setAll, List.set_cons_zero, List.set_cons_succ, List.setIfInBounds_toArray]))
    refine Steps.cons rfl (fun bb aa w' hbs hb0 hbp hI K hK => ?_) ?_
    · obtain ⟨us, hus, ha, hI⟩ := hI
      obtain ⟨u0, u1, u2, u3, u4, u5, u6, u7, u8, u9, u10, u11, u12, u13, rfl⟩ := lenA14 hus
      have e11 : u11 = (.pointer (some ⟨WD.heap.size, 0, none⟩)) := hI.val 11 _ rfl (gen_after 11 (by kernel_rfl) hbp)
      subst e11
      have HI := Veil.mk hI
      clear hI
      rw [ha]
      simp only [puts, setAll, List.setIfInBounds_toArray, List.set_cons_zero, List.set_cons_succ]
      go_simp
      exact hK _ _ (chain_step HI.out hus hbs 13 _ (by show 13 < 14; decide) rfl hbp (val_of rfl rfl) (HI.out.ph.step 13 _ (by decide) (by decide)) (by simp only [puts, setAll, List.set_cons_zero, List.set_cons_succ, List.setIfInBounds_toArray]))
    exact Steps.nil
  · intro us wE hus dd hD2 hJ
    obtain ⟨p0, p1, p2, p3, p4, p5, p6, p7, p8, p9, p10, p11, p12, p13, rfl⟩ := lenA14 hus
    have q1 := hJ.ph.all (fun c hc => hD2 c (by
      have : c = 8 := by simpa using hc
      show c < 14
      omega))
    have e0 : p0 = (.pointer (some ⟨m, 0, none⟩)) := hJ.val 0 _ rfl (hD2 0 (by show 0 < 14; decide))
    subst e0
    have e1 : p1 = (.pointer (some ⟨m, 0, none⟩)) := hJ.val 1 _ rfl (hD2 1 (by show 1 < 14; decide))
    subst e1
    have e2 : p2 = (.pointer (some ⟨m, 0, none⟩)) := hJ.val 2 _ rfl (hD2 2 (by show 2 < 14; decide))
    subst e2
    have e3 : p3 = (.pointer (some ⟨h, 0, none⟩)) := hJ.val 3 _ rfl (hD2 3 (by show 3 < 14; decide))
    subst e3
    have e4 : p4 = (.slice (some ⟨cb, 0, none⟩) 9 9) := hJ.val 4 _ rfl (hD2 4 (by show 4 < 14; decide))
    subst e4
    have e5 : p5 = (.int .i64 (ci : Int)) := hJ.val 5 _ rfl (hD2 5 (by show 5 < 14; decide))
    subst e5
    have e6 : p6 = (.pointer (some ⟨cb, ci, none⟩)) := hJ.val 6 _ rfl (hD2 6 (by show 6 < 14; decide))
    subst e6
    have e7 : p7 = (.int .i64 cn) := hJ.val 7 _ rfl (hD2 7 (by show 7 < 14; decide))
    subst e7
    have e8 : p8 = (.tuple #[.int .i64 ((os.length : Int) + 1), .pointer (some ⟨WD.heap.size, 0, none⟩)]) := hJ.val 8 _ rfl (hD2 8 (by show 8 < 14; decide))
    subst e8
    have e9 : p9 = (.tuple #[.int .i64 ((os.length : Int) + 1), .pointer (some ⟨WD.heap.size, 0, none⟩)]) := hJ.val 9 _ rfl (hD2 9 (by show 9 < 14; decide))
    subst e9
    have e10 : p10 = (.int .i64 ((os.length : Int) + 1)) := hJ.val 10 _ rfl (hD2 10 (by show 10 < 14; decide))
    subst e10
    have e11 : p11 = (.pointer (some ⟨WD.heap.size, 0, none⟩)) := hJ.val 11 _ rfl (hD2 11 (by show 11 < 14; decide))
    subst e11
    have e12 : p12 = (.int .i64 ((os.length : Int) + 1)) := hJ.val 12 _ rfl (hD2 12 (by show 12 < 14; decide))
    subst e12
    have e13 : p13 = (.pointer (some ⟨WD.heap.size, 0, none⟩)) := hJ.val 13 _ rfl (hD2 13 (by show 13 < 14; decide))
    subst e13
    clear hJ hD2
    have hm5 := q1
    clear q1
    have HM5 := Veil.mk hm5
    clear hm5
    simp only [puts, setAll, List.setIfInBounds_toArray, List.set_cons_zero, List.set_cons_succ]
    go_upto_region 35 with (fail)
    obtain ⟨W5, hW5⟩ : ∃ W5, wE.drew = W5 := ⟨_, rfl⟩
    have HV5 : Veil (Box W5 vb 30 #[.int .i64 0, .int .i64 0, .string ⟨#[]⟩] ∧ Box W5 rb 33 #[.int .i64 0, .int .i64 0, .string ⟨#[]⟩, .pointer none] ∧ Y.MM W5 h A m f (os ++ [(WD.heap.size, obj0 cn 0)]) ∧ Below A w W5 ∧ Kp arT w W5 ∧ Box W5 nb 9 #[.string ⟨#[79, 98, 106, 101, 99, 116]⟩, .string ⟨#[77, 97, 112]⟩, .string ⟨#[83, 101, 116]⟩, .string ⟨#[87, 101, 97, 107, 77, 97, 112]⟩, .string ⟨#[87, 101, 97, 107, 83, 101, 116]⟩, .string ⟨#[87, 101, 97, 107, 82, 101, 102]⟩, .string ⟨#[70, 105, 110, 97, 108, 105, 122, 97, 116, 105, 111, 110, 82, 101, 103, 105, 115, 116, 114, 121]⟩, .string ⟨#[71, 101, 110, 101, 114, 97, 116, 111, 114]⟩, .string ⟨#[80, 114, 111, 109, 105, 115, 101]⟩]) := ⟨by rw [← hW5]; exact (HM5.out.2.2.box HVD.out.1 rfl).drew, by rw [← hW5]; exact (HM5.out.2.2.box HVD.out.2.1 rfl).drew, by rw [← hW5]; exact HM5.out.1.on (Below.refl _ _).drew, by rw [← hW5]; exact (HVD.out.2.2.1.trans HM5.out.2.1).drew, by rw [← hW5]; exact (HVD.out.2.2.2.1.trans HM5.out.2.2).trans (Kp.of_below (Below.refl _ _).drew), by rw [← hW5]; exact (HM5.out.2.2.box HVD.out.2.2.2.2 rfl).drew⟩
    have HSZW : Veil (w.heap.size ≤ WD.heap.size) := ⟨HVD.out.2.2.1.size⟩
    obtain ⟨sz, hsz⟩ : ∃ sz, WD.heap.size = sz := ⟨_, rfl⟩
    rw [hsz] at HV5
    rw [hsz]
    clear HM5 hsz
    refine wp_region_chain (some (· = (.int .i64 ((os.length : Int) + 1))) :: some (· = (valV (9, ((os.length : Int) + 1), ⟨#[]⟩))) :: some (· = (.slice (some ⟨nb, 0, none⟩) 9 9)) :: some (· = (.int .i64 (ci : Int))) :: some (· = (.pointer (some ⟨nb, ci, none⟩))) :: some (· = (.string nm)) :: some (· = (.agg (rObj nm (.slice none 0 0) 0 0 ⟨#[]⟩))) :: some (fun u => ∃ g, u = .pointer (some ⟨g, 0, none⟩)) :: some (fun u => ∃ g, u = RV (9, 0, ⟨#[]⟩) (some ⟨g, 0, none⟩)) :: some (· = (.int .i64 ((at_ : Int) + 1))) :: none :: none :: some (· = (.int .i64 ((at_ : Int) + 1))) :: [] : List (Option (Value → Prop))) (P2 vb rb 10 1 11 8 (XR w h A m f (os ++ [(sz, obj0 cn 0)]) (fun _ => []) 1 7 8 (rObj nm (.slice none 0 0) 0 0 ⟨#[]⟩) (9, 0, ⟨#[]⟩) nb 9 #[.string ⟨#[79, 98, 106, 101, 99, 116]⟩, .string ⟨#[77, 97, 112]⟩, .string ⟨#[83, 101, 116]⟩, .string ⟨#[87, 101, 97, 107, 77, 97, 112]⟩, .string ⟨#[87, 101, 97, 107, 83, 101, 116]⟩, .string ⟨#[87, 101, 97, 107, 82, 101, 102]⟩, .string ⟨#[70, 105, 110, 97, 108, 105, 122, 97, 116, 105, 111, 110, 82, 101, 103, 105, 115, 116, 114, 121]⟩, .string ⟨#[71, 101, 110, 101, 114, 97, 116, 111, 114]⟩, .string ⟨#[80, 114, 111, 109, 105, 115, 101]⟩])) [some 190, some 191, some 192, some 193, some 194, some 195, some 196, some 197, some 198, some 199, none, none, some 10] (curV' _ [some 190, some 191, some 192, some 193, some 194, some 195, some 196, some 197, some 198, some 199, none, none, some 10]) (by kernel_rfl) rfl rfl (puts_cur _ _) (P2.start (show Box wE.drew vb _ _ by rw [hW5]; exact HV5.out.1) (show Box wE.drew rb _ _ by rw [hW5]; exact HV5.out.2.1) (by rw [hW5]; exact XR.start HV5.out.2.2.1 HV5.out.2.2.2.1 HV5.out.2.2.2.2.1 HV5.out.2.2.2.2.2)) ?_ (by kernel_rfl) ?_
    · refine Steps.cons rfl (fun bb aa w' hbs hb0 hbp hI K hK => ?_) ?_
      · obtain ⟨us, hus, ha, hI⟩ := hI
        obtain ⟨u0, u1, u2, u3, u4, u5, u6, u7, u8, u9, u10, u11, u12, rfl⟩ := lenA13 hus
        have HI := Veil.mk hI
        clear hI
        rw [ha]
        simp only [puts, setAll, List.setIfInBounds_toArray, List.set_cons_zero, List.set_cons_succ]
        go_simp
        exact hK _ _ (chain_step HI.out hus hbs 0 _ (by show 0 < 13; decide) rfl hbp (val_of rfl rfl) (HI.out.ph.pure 0 _ (by decide) (by decide) hb0 (HI.out.ph.x.pure 0 _ (by decide) (by decide) (by decide))) (by simp only [puts, setAll, List.set_cons_zero, List.set_cons_succ, List.setIfInBounds_toArray]))
      refine Steps.cons rfl (fun bb aa w' hbs hb0 hbp hI K hK => ?_) ?_
      · obtain ⟨us, hus, ha, hI⟩ := hI
        obtain ⟨u0, u1, u2, u3, u4, u5, u6, u7, u8, u9, u10, u11, u12, rfl⟩ := lenA13 hus
        have e0 : u0 = (.int .i64 ((os.length : Int) + 1)) := hI.val 0 _ rfl (gen_after 0 (by kernel_rfl) hbp)
        subst e0
        have HX9 := Veil.mk (object_mk ((os.length : Int) + 1) w')
        have HI := Veil.mk hI
        clear hI
        rw [ha]
        simp only [puts, setAll, List.setIfInBounds_toArray, List.set_cons_zero, List.set_cons_succ]
        go_simp
        go_at_call 18
        refine HX9.out.mono ?_
        rintro e9 w9 ⟨rfl, hb9⟩
        go_simp
        exact hK _ _ (chain_step HI.out hus hbs 1 _ (by show 1 < 13; decide) rfl hbp (val_of rfl rfl) (HI.out.ph.kp 1 _ (by decide) (by decide) hb0 (Kp.of_below hb9) (HI.out.ph.x.turn (b := 0) _ (by decide) (by decide) rfl (by rw [List.append_nil]; exact (HI.out.ph.x.m0 hb0).on hb9) (hb9.mono (Nat.le_of_lt HI.out.ph.x.alt)) (Kp.of_below hb9))) (by simp only [puts, setAll, List.set_cons_zero, List.set_cons_succ, List.setIfInBounds_toArray]))
      refine Steps.cons rfl (fun bb aa w' hbs hb0 hbp hI K hK => ?_) ?_
      · obtain ⟨us, hus, ha, hI⟩ := hI
        obtain ⟨u0, u1, u2, u3, u4, u5, u6, u7, u8, u9, u10, u11, u12, rfl⟩ := lenA13 hus
        have HI := Veil.mk hI
        clear hI
        rw [ha]
        simp only [puts, setAll, List.setIfInBounds_toArray, List.set_cons_zero, List.set_cons_succ]
        go_simp
        exact hK _ _ (chain_step HI.out hus hbs 2 _ (by show 2 < 13; decide) rfl hbp (val_of rfl rfl) (HI.out.ph.pure 2 _ (by decide) (by decide) hb0 (HI.out.ph.x.pure 2 _ (by decide) (by decide) (by decide))) (by simp only [puts, setAll, List.set_cons_zero, List.set_cons_succ, List.setIfInBounds_toArray]))
      refine Steps.cons rfl (fun bb aa w' hbs hb0 hbp hI K hK => ?_) ?_
      · obtain ⟨us, hus, ha, hI⟩ := hI
        obtain ⟨u0, u1, u2, u3, u4, u5, u6, u7, u8, u9, u10, u11, u12, rfl⟩ := lenA13 hus
        have HI := Veil.mk hI
        clear hI
        rw [ha]
        simp only [puts, setAll, List.setIfInBounds_toArray, List.set_cons_zero, List.set_cons_succ]
        go_simp
        exact hK _ _ (chain_step HI.out hus hbs 3 _ (by show 3 < 13; decide) rfl hbp (val_of rfl rfl) (HI.out.ph.pure 3 _ (by decide) (by decide) hb0 (HI.out.ph.x.pure 3 _ (by decide) (by decide) (by decide))) (by simp only [puts, setAll, List.set_cons_zero, List.set_cons_succ, List.setIfInBounds_toArray]))
      refine Steps.cons rfl (fun bb aa w' hbs hb0 hbp hI K hK => ?_) ?_
      · obtain ⟨us, hus, ha, hI⟩ := hI
        obtain ⟨u0, u1, u2, u3, u4, u5, u6, u7, u8, u9, u10, u11, u12, rfl⟩ := lenA13 hus
        have e2 : u2 = (.slice (some ⟨nb, 0, none⟩) 9 9) := hI.val 2 _ rfl (gen_after 2 (by kernel_rfl) hbp)
        subst e2
        have e3 : u3 = (.int .i64 (ci : Int)) := hI.val 3 _ rfl (gen_after 3 (by kernel_rfl) hbp)
        subst e3
        have HI := Veil.mk hI
        clear hI
        rw [ha]
        simp only [puts, setAll, List.setIfInBounds_toArray, List.set_cons_zero, List.set_cons_succ]
        go_simp
        exact hK _ _ (chain_step HI.out hus hbs 4 _ (by show 4 < 13; decide) rfl hbp (val_of rfl rfl) (HI.out.ph.pure 4 _ (by decide) (by decide) hb0 (HI.out.ph.x.pure 4 _ (by decide) (by decide) (by decide))) (by simp only [puts, setAll, List.set_cons_zero, List.set_cons_succ, List.setIfInBounds_toArray]))
      refine Steps.cons rfl (fun bb aa w' hbs hb0 hbp hI K hK => ?_) ?_
      · obtain ⟨us, hus, ha, hI⟩ := hI
        obtain ⟨u0, u1, u2, u3, u4, u5, u6, u7, u8, u9, u10, u11, u12, rfl⟩ := lenA13 hus
        have e4 : u4 = (.pointer (some ⟨nb, ci, none⟩)) := hI.val 4 _ rfl (gen_after 4 (by kernel_rfl) hbp)
        subst e4
        have c0 : w'.cell? ⟨nb, ci, none⟩ = some (.string nm) := by rw [hI.ph.x.sx.at_ ci]; exact HNM.out
        have HI := Veil.mk hI
        clear hI
        rw [ha]
        simp only [puts, setAll, List.setIfInBounds_toArray, List.set_cons_zero, List.set_cons_succ]
        go_simp
        exact hK _ _ (chain_step HI.out hus hbs 5 _ (by show 5 < 13; decide) rfl hbp (val_of rfl rfl) (HI.out.ph.pure 5 _ (by decide) (by decide) hb0 (HI.out.ph.x.pure 5 _ (by decide) (by decide) (by decide))) (by simp only [puts, setAll, List.set_cons_zero, List.set_cons_succ, List.setIfInBounds_toArray]))
      refine Steps.cons rfl (fun bb aa w' hbs hb0 hbp hI K hK => ?_) ?_
      · obtain ⟨us, hus, ha, hI⟩ := hI
        obtain ⟨u0, u1, u2, u3, u4, u5, u6, u7, u8, u9, u10, u11, u12, rfl⟩ := lenA13 hus
        have e5 : u5 = (.string nm) := hI.val 5 _ rfl (gen_after 5 (by kernel_rfl) hbp)
        subst e5
        have HI := Veil.mk hI
        clear hI
        rw [ha]
        simp only [puts, setAll, List.setIfInBounds_toArray, List.set_cons_zero, List.set_cons_succ]
        go_simp
        exact hK _ _ (chain_step HI.out hus hbs 6 _ (by show 6 < 13; decide) rfl hbp (val_of rfl rfl) (HI.out.ph.pure 6 _ (by decide) (by decide) hb0 (HI.out.ph.x.pure 6 _ (by decide) (by decide) (by decide))) (by simp only [puts, setAll, List.set_cons_zero, List.set_cons_succ, List.setIfInBounds_toArray]))
      refine Steps.cons rfl (fun bb aa w' hbs hb0 hbp hI K hK => ?_) ?_
      · obtain ⟨us, hus, ha, hI⟩ := hI
        obtain ⟨u0, u1, u2, u3, u4, u5, u6, u7, u8, u9, u10, u11, u12, rfl⟩ := lenA13 hus
        have e6 : u6 = (.agg (rObj nm (.slice none 0 0) 0 0 ⟨#[]⟩)) := hI.val 6 _ rfl (gen_after 6 (by kernel_rfl) hbp)
        subst e6
        have HI := Veil.mk hI
        clear hI
        rw [ha]
        simp only [puts, setAll, List.setIfInBounds_toArray, List.set_cons_zero, List.set_cons_succ]
        go_simp
        exact hK _ _ (chain_step HI.out hus hbs 7 _ (by show 7 < 13; decide) rfl hbp (val_of rfl ⟨_, rfl⟩) (HI.out.ph.below 7 _ (by decide) (by decide) hb0 ((Below.refl _ _).alloc (Nat.le_refl _) _) (HI.out.ph.x.box (by decide) (by decide) (Nat.le_of_lt HI.out.ph.x.alt) hb0)) (by simp only [puts, setAll, List.set_cons_zero, List.set_cons_succ, List.setIfInBounds_toArray]))
      refine Steps.cons rfl (fun bb aa w' hbs hb0 hbp hI K hK => ?_) ?_
      · obtain ⟨us, hus, ha, hI⟩ := hI
        obtain ⟨u0, u1, u2, u3, u4, u5, u6, u7, u8, u9, u10, u11, u12, rfl⟩ := lenA13 hus
        have e7 := hI.val 7 _ rfl (gen_after 7 (by kernel_rfl) hbp)
        obtain ⟨g7, e7⟩ : ∃ g, u7 = _ := e7
        subst e7
        have hj := gen_after 7 (by kernel_rfl) hbp
        have HI := Veil.mk hI
        clear hI
        rw [ha]
        simp only [puts, setAll, List.setIfInBounds_toArray, List.set_cons_zero, List.set_cons_succ]
        go_simp
        exact hK _ _ (chain_step HI.out hus hbs 8 (RV (9, 0, ⟨#[]⟩) (some ⟨g7, 0, none⟩)) (by show 8 < 13; decide) rfl hbp (val_of rfl ⟨_, rfl⟩) (HI.out.ph.pure 8 _ (by decide) (by decide) hb0 (HI.out.ph.x.ref g7 (by decide) (by decide) hj rfl)) (by simp only [puts, setAll, List.set_cons_zero, List.set_cons_succ, List.setIfInBounds_toArray]))
      refine Steps.cons rfl (fun bb aa w' hbs hb0 hbp hI K hK => ?_) ?_
      · obtain ⟨us, hus, ha, hI⟩ := hI
        obtain ⟨u0, u1, u2, u3, u4, u5, u6, u7, u8, u9, u10, u11, u12, rfl⟩ := lenA13 hus
        have HI := Veil.mk hI
        clear hI
        rw [ha]
        simp only [puts, setAll, List.setIfInBounds_toArray, List.set_cons_zero, List.set_cons_succ]
        go_simp
        exact hK _ _ (chain_step HI.out hus hbs 9 _ (by show 9 < 13; decide) rfl hbp (val_of rfl rfl) (HI.out.ph.pure 9 _ (by decide) (by decide) hb0 (HI.out.ph.x.pure 9 _ (by decide) (by decide) (by decide))) (by simp only [puts, setAll, List.set_cons_zero, List.set_cons_succ, List.setIfInBounds_toArray]))
      refine Steps.cons rfl (fun bb aa w' hbs hb0 hbp hI K hK => ?_) ?_
      · obtain ⟨us, hus, ha, hI⟩ := hI
        obtain ⟨u0, u1, u2, u3, u4, u5, u6, u7, u8, u9, u10, u11, u12, rfl⟩ := lenA13 hus
        have e1 : u1 = (valV (9, ((os.length : Int) + 1), ⟨#[]⟩)) := hI.val 1 _ rfl (gen_after 1 (by kernel_rfl) hbp)
        subst e1
        have hq := hI.ph.z8 hb0
        have hj := gen_after 1 (by kernel_rfl) hbp
        have z0 : w'.cell? ⟨vb, 0, none⟩ = some (.int .i64 0) := hq.at_ 0
        have z1 : w'.cell? ⟨vb, 1, none⟩ = some (.int .i64 0) := hq.at_ 1
        have z2 : w'.cell? ⟨vb, 2, none⟩ = some (.string ⟨#[]⟩) := hq.at_ 2
        have f0 := hq.free 0
        have f1 := hq.free 1
        have f2 := hq.free 2
        clear hq
        have HI := Veil.mk hI
        clear hI
        rw [ha]
        simp only [puts, setAll, List.setIfInBounds_toArray, List.set_cons_zero, List.set_cons_succ]
        go_simp
        exact hK _ _ (chain_step HI.out hus hbs 10 undef (by show 10 < 13; decide) rfl hbp (none_of rfl) (HI.out.ph.sto8 (9, ((os.length : Int) + 1), ⟨#[]⟩) _ (by decide) (by decide) (by decide) HNE.out hb0 hj rfl (HI.out.ph.x.sto3 10 _ (by decide) (by decide) (by decide) HLO.out.1.1 HLO.out.1.2.1 HLO.out.1.2.2 HI.out.ph.lab8 (9, ((os.length : Int) + 1), ⟨#[]⟩))) (by simp only [puts, setAll, List.set_cons_zero, List.set_cons_succ, List.setIfInBounds_toArray]))
      refine Steps.cons rfl (fun bb aa w' hbs hb0 hbp hI K hK => ?_) ?_
      · obtain ⟨us, hus, ha, hI⟩ := hI
        obtain ⟨u0, u1, u2, u3, u4, u5, u6, u7, u8, u9, u10, u11, u12, rfl⟩ := lenA13 hus
        have e8 := hI.val 8 _ rfl (gen_after 8 (by kernel_rfl) hbp)
        obtain ⟨g8, e8⟩ : ∃ g, u8 = _ := e8
        subst e8
        have hq := hI.ph.z9 hb0
        have hj := gen_after 8 (by kernel_rfl) hbp
        have z0 : w'.cell? ⟨rb, 0, none⟩ = some (.int .i64 0) := hq.at_ 0
        have z1 : w'.cell? ⟨rb, 1, none⟩ = some (.int .i64 0) := hq.at_ 1
        have z2 : w'.cell? ⟨rb, 2, none⟩ = some (.string ⟨#[]⟩) := hq.at_ 2
        have z3 : w'.cell? ⟨rb, 3, none⟩ = some (.pointer none) := hq.at_ 3
        have f0 := hq.free 0
        have f1 := hq.free 1
        have f2 := hq.free 2
        have f3 := hq.free 3
        clear hq
        have HI := Veil.mk hI
        clear hI
        rw [ha]
        simp only [puts, setAll, List.setIfInBounds_toArray, List.set_cons_zero, List.set_cons_succ]
        go_simp
        exact hK _ _ (chain_step HI.out hus hbs 11 undef (by show 11 < 13; decide) rfl hbp (none_of rfl) (HI.out.ph.sto9 ((9, 0, ⟨#[]⟩), some ⟨g8, 0, none⟩) _ (by decide) (by decide) (by decide) HNE.out hb0 hj rfl (HI.out.ph.x.sto4 11 _ (by decide) (by decide) (by decide) HLO.out.2.1 HLO.out.2.2.1 HLO.out.2.2.2 HI.out.ph.lab9 ((9, 0, ⟨#[]⟩), some ⟨g8, 0, none⟩))) (by simp only [puts, setAll, List.set_cons_zero, List.set_cons_succ, List.setIfInBounds_toArray]))
      refine Steps.cons rfl (fun bb aa w' hbs hb0 hbp hI K hK => ?_) ?_
      · obtain ⟨us, hus, ha, hI⟩ := hI
        obtain ⟨u0, u1, u2, u3, u4, u5, u6, u7, u8, u9, u10, u11, u12, rfl⟩ := lenA13 hus
        have e9 : u9 = (.int .i64 ((at_ : Int) + 1)) := hI.val 9 _ rfl (gen_after 9 (by kernel_rfl) hbp)
        subst e9
        have HI := Veil.mk hI
        clear hI
        rw [ha]
        simp only [puts, setAll, List.setIfInBounds_toArray, List.set_cons_zero, List.set_cons_succ]
        go_simp
        exact hK _ _ (chain_step HI.out hus hbs 12 _ (by show 12 < 13; decide) rfl hbp (val_of rfl rfl) (HI.out.ph.pure 12 _ (by decide) (by decide) hb0 (HI.out.ph.x.pure 12 _ (by decide) (by decide) (by decide))) (by simp only [puts, setAll, List.set_cons_zero, List.set_cons_succ, List.setIfInBounds_toArray]))
      exact Steps.nil
    · intro us wF hus dd hD2 hJ
      obtain ⟨p0, p1, p2, p3, p4, p5, p6, p7, p8, p9, p10, p11, p12, rfl⟩ := lenA13 hus
      have hph := hJ.ph
      have e0 : p0 = (.int .i64 ((os.length : Int) + 1)) := hJ.val 0 _ rfl (hD2 0 (by show 0 < 13; decide))
      subst e0
      have e1 : p1 = (valV (9, ((os.length : Int) + 1), ⟨#[]⟩)) := hJ.val 1 _ rfl (hD2 1 (by show 1 < 13; decide))
      subst e1
      have e2 : p2 = (.slice (some ⟨nb, 0, none⟩) 9 9) := hJ.val 2 _ rfl (hD2 2 (by show 2 < 13; decide))
      subst e2
      have e3 : p3 = (.int .i64 (ci : Int)) := hJ.val 3 _ rfl (hD2 3 (by show 3 < 13; decide))
      subst e3
      have e4 : p4 = (.pointer (some ⟨nb, ci, none⟩)) := hJ.val 4 _ rfl (hD2 4 (by show 4 < 13; decide))
      subst e4
      have e5 : p5 = (.string nm) := hJ.val 5 _ rfl (hD2 5 (by show 5 < 13; decide))
      subst e5
      have e6 : p6 = (.agg (rObj nm (.slice none 0 0) 0 0 ⟨#[]⟩)) := hJ.val 6 _ rfl (hD2 6 (by show 6 < 13; decide))
      subst e6
      have e9 : p9 = (.int .i64 ((at_ : Int) + 1)) := hJ.val 9 _ rfl (hD2 9 (by show 9 < 13; decide))
      subst e9
      have e12 : p12 = (.int .i64 ((at_ : Int) + 1)) := hJ.val 12 _ rfl (hD2 12 (by show 12 < 13; decide))
      subst e12
      clear hJ
      obtain ⟨-, gg, h11, h12⟩ := hph.x.b2 (hD2 8 (by show 8 < 13; decide))
      replace h11 : p7 = .pointer (some ⟨gg, 0, none⟩) := h11
      replace h12 : p8 = RV (9, 0, ⟨#[]⟩) (some ⟨gg, 0, none⟩) := h12
      subst h11 h12
      have q1 : Box wF vb _ (vC (9, ((os.length : Int) + 1), ⟨#[]⟩)) := (hph.s8 (hD2 10 (by show 10 < 13; decide))).2
      have q2 : Box wF rb _ (rC ((9, 0, ⟨#[]⟩), some ⟨gg, 0, none⟩)) := (hph.s9 (hD2 11 (by show 11 < 13; decide))).2
      obtain ⟨g2, k1, k2, k3⟩ := hph.x.b1 (hD2 7 (by show 7 < 13; decide))
      replace k1 : Value.pointer (some ⟨gg, 0, none⟩) = .pointer (some ⟨g2, 0, none⟩) := k1
      obtain rfl : gg = g2 := by injection k1 with k1; injection k1 with k1; injection k1
      obtain ⟨b, hm⟩ := hph.x.m1 (hD2 1 (by show 1 < 13; decide))
      rw [List.append_nil] at hm
      have HF := Veil.mk (And.intro hm (And.intro hph.x.bel (And.intro hph.x.kp (And.intro k2 k3))))
      clear hph hD2 k1 k2 k3 hm
      have y0 := q1.at_ 0
      have y1 := q1.at_ 1
      have y2 := q1.at_ 2
      have z0 := q2.at_ 0
      have z1 := q2.at_ 1
      have z2 := q2.at_ 2
      have z3 := q2.at_ 3
      clear q1 q2
      simp only [puts, setAll, List.setIfInBounds_toArray, List.set_cons_zero, List.set_cons_succ]
      go_wp2
      exact bodyPost_ret (v := .tuple #[valV (9, ((os.length : Int) + 1), ⟨#[]⟩), RV (9, 0, ⟨#[]⟩) (some ⟨gg, 0, none⟩), .int .i64 ((at_ + 1 : Nat) : Int)]) (by simp [results, Tryz.results10, go_sem, y0, y1, y2, z0, z1, z2, z3]) rfl ⟨(9, ((os.length : Int) + 1), ⟨#[]⟩), ((9, 0, ⟨#[]⟩), some ⟨gg, 0, none⟩), at_ + 1, (os ++ [(sz, obj0 cn 0)]), rfl, HF.out.1, ⟨_, rfl⟩, HF.out.2.1, HF.out.2.2.1, by omega, by omega, by rw [List.length_append, List.length_singleton]; omega, fun k _ => HSZ.out _ wF gg sz HF.out.2.2.2.1 HF.out.2.2.2.2 k⟩
end
end Go.Proofs.YtgdkjkfbknbgkaaGreatDoor
