/- ShowKinds: the walk. -/
import Derived.Test.YtgdkjkfbknbgkaaGreatDoorYa
namespace Go.Proofs.YtgdkjkfbknbgkaaGreatDoor
open Go Go.RowKit
attribute [local go_sem] Oper.semAt_some

theorem shown_at {F : Nat → Prop} {W w' : World} {h A m : Nat} {f : Nat → Int} {os : List OS} {v : Vt} {x : RVt} {s : ByteArray} (H : Y.MM w' h A m f os) (hT : M.Tb w') (hk : Kp arT W w') (hs : Sh F W os 3 v x s) : Calls Tryz.prog 11 #[(.pointer (some ⟨m, 0, none⟩)), valV v] w' fun e w9 => e = .returned (.string s) ∧ Below w'.heap.size w' w9 :=
  (both_shown H hT (Sh.go (Pres.kp hk rfl rfl rfl) (fun _ _ h => h) (fun _ h => h) 3 v x s hs)).1 w' (Below.refl _ _)
theorem rshown_at {F : Nat → Prop} {W w' : World} {os : List OS} {v : Vt} {x : RVt} {s : ByteArray} (hT : M.Tb w') (hk : Kp arT W w') (hs : Sh F W os 3 v x s) : Calls Tryz.prog 12 #[RV x.1 x.2, .int .i64 0] w' fun e w9 => e = .returned (.string s) ∧ Below w'.heap.size w' w9 :=
  Sh.rshow hT 3 (Nat.le_refl _) v x s (Sh.go (Pres.kp hk rfl rfl rfl) (fun _ _ h => h) (fun _ h => h) 3 v x s hs) w' (Below.refl _ _)
theorem two_new (w W : World) (v : Vt) (x : RVt) (zb yb : Nat) (hz : w.heap.size = zb) (hy : zb + 1 = yb) (hW : (w.alloc (.cells (vC v) 30)).alloc (.cells (rC x) 33) = W) : Below w.heap.size w W ∧ Box W zb 30 (vC v) ∧ Box W yb 33 (rC x) := by
  subst hz hy hW
  refine ⟨((Below.refl _ _).alloc (Nat.le_refl _) _).alloc (by simp) _, (Box.new _ _ _).more _, ?_⟩
  have := Box.new (w.alloc (.cells (vC v) 30)) 33 (rC x)
  rwa [World.size_alloc] at this
set_option maxHeartbeats 16000000 in
set_option maxRecDepth 100000 in
theorem kinds_law (a a2 : Option Addr) (n n2 c c2 : Nat) (ps qs : List PI) (w : World) (hS : PlA w w.heap.size a n ps) (hS2 : PlA w w.heap.size a2 n2 qs) (hT : M.Tb w) : Calls Tryz.prog 6 #[.agg #[.slice a n c], .agg #[.slice a2 n2 c2]] w fun e w' => e = .returned (.bool true) ∧ Below w.heap.size w w' := by
  have HS := Veil.mk (And.intro hS hS2)
  have HT := Veil.mk hT
  have HFT : Veil (∀ w, Calls Tryz.prog 7 #[] w fun e w' => e = .returned (.bool true) ∧ Below w.heap.size w w') := ⟨fit_any⟩
  have HMC := Veil.mk (fun W => machine_any W)
  obtain ⟨pb, hpb⟩ : ∃ pb, w.heap.size = pb := ⟨_, rfl⟩
  obtain ⟨qb, hqb⟩ : ∃ qb, pb + 1 = qb := ⟨_, rfl⟩
  obtain ⟨W0, hW0⟩ : ∃ W0, (w.alloc (.cells #[.slice a n c] 24)).alloc (.cells #[.slice a2 n2 c2] 24) = W0 := ⟨_, rfl⟩
  have b1 := (Box.new w 24 #[.slice a n c]).more (.cells #[.slice a2 n2 c2] 24)
  have b2 := Box.new (w.alloc (.cells #[.slice a n c] 24)) 24 #[.slice a2 n2 c2]
  rw [World.size_alloc] at b2
  have bb : Below w.heap.size w ((w.alloc (.cells #[.slice a n c] 24)).alloc (.cells #[.slice a2 n2 c2] 24)) := ((Below.refl _ _).alloc (Nat.le_refl _) _).alloc (by simp) _
  rw [hW0] at b1 b2 bb
  rw [hpb] at b1 b2
  rw [hqb] at b2
  have HBB := Veil.mk (And.intro bb (And.intro b1 b2))
  have HW0 := Veil.mk (And.intro hW0 (And.intro hpb hqb))
  clear hW0 hpb hqb b1 b2 bb hS hS2 hT
  go_enter Tryz.func6, Tryz.ntmps6
  go_upto_region 1 with (fail)
  rw [HW0.out.1, HW0.out.2.1, HW0.out.2.2]
  go_upto_region 3 with (first | (go_at_call 7; ((with_reducible refine (HFT.out _).mono ?_); rintro e9 w2 ⟨rfl, hb2⟩)))
  have HB2 : Veil (Below w.heap.size w w2 ∧ Box w2 pb 24 #[.slice a n c] ∧ Box w2 qb 24 #[.slice a2 n2 c2]) := ⟨HBB.out.1.trans (hb2.mono HBB.out.1.size), HBB.out.2.1.below hb2, HBB.out.2.2.below hb2⟩
  have HLT := Veil.mk (light_any a n c ps w2 ((HS.out.1.on HB2.out.1).up HB2.out.1.size))
  have p0 : w2.cell? ⟨pb, 0, none⟩ = some (.slice a n c) := HB2.out.2.1.at_ 0
  clear hb2 HFT
  go_wp2_with (first | (go_at_call 8; ((with_reducible refine HLT.out.mono ?_); rintro e9 w3 ⟨v3, rfl, hb3, hv3⟩; refine Hid.out ?_)))
  have HB3 : Veil (Below w.heap.size w w3 ∧ (Box w3 pb 24 #[.slice a n c] ∧ Box w3 qb 24 #[.slice a2 n2 c2]) ∧ (v3 = true → n ≤ 500 ∧ ∀ x ∈ ps, x.l.length ≤ 500)) := ⟨HB2.out.1.trans (hb3.mono HB2.out.1.size), ⟨HB2.out.2.1.below hb3, HB2.out.2.2.below hb3⟩, hv3⟩
  clear hb3 hv3 HLT p0
  cases v3 with
  | false =>
    refine Lib.hid ?_
    go_wp2
    go_ret
    exact ⟨rfl, HB3.out.1⟩
  | true =>
    obtain ⟨hn5, hp5⟩ := HB3.out.2.2 rfl
    have HP5 := Veil.mk (And.intro hn5 hp5)
    clear hp5 hn5
    have HLT2 := Veil.mk (light_any a2 n2 c2 qs w3 ((HS.out.2.on HB3.out.1).up HB3.out.1.size))
    have q0 : w3.cell? ⟨qb, 0, none⟩ = some (.slice a2 n2 c2) := HB3.out.2.1.2.at_ 0
    refine Lib.hid ?_
    go_wp2_with (first | (go_at_call 8; ((with_reducible refine HLT2.out.mono ?_); rintro e9 w33 ⟨v33, rfl, hb3, hv3⟩; refine Hid.out ?_)))
    have HB33 : Veil (Below w.heap.size w w33 ∧ (Box w33 pb 24 #[.slice a n c] ∧ Box w33 qb 24 #[.slice a2 n2 c2]) ∧ (v33 = true → n2 ≤ 500 ∧ ∀ x ∈ qs, x.l.length ≤ 500)) := ⟨HB3.out.1.trans (hb3.mono HB3.out.1.size), ⟨HB3.out.2.1.1.below hb3, HB3.out.2.1.2.below hb3⟩, hv3⟩
    clear hb3 hv3 HLT2 q0
    cases v33 with
    | false =>
      refine Lib.hid ?_
      go_wp2
      go_ret
      exact ⟨rfl, HB33.out.1⟩
    | true =>
      obtain ⟨hn5, hp5⟩ := HB33.out.2.2 rfl
      have HQ5 := Veil.mk (And.intro hn5 hp5)
      clear hp5 hn5
      refine Lib.hid ?_
      go_upto_region 6 with (go_at_call 9; ((with_reducible refine (HMC.out _).mono ?_); rintro e w4 ⟨h, A, m, os0, rfl, hp4⟩; have HP4 := Veil.mk hp4; clear hp4))
      have HB4 : Veil (Below w.heap.size w w4 ∧ (Box w4 pb 24 #[.slice a n c] ∧ Box w4 qb 24 #[.slice a2 n2 c2]) ∧ w.heap.size ≤ A ∧ A < w4.heap.size) := ⟨HB33.out.1.trans (HP4.out.bel.mono HB33.out.1.size), ⟨HB33.out.2.1.1.below HP4.out.bel, HB33.out.2.1.2.below HP4.out.bel⟩, Nat.le_trans HB33.out.1.size HP4.out.lo, HP4.out.y.alt⟩
      have HBA : Veil (w.heap.size ≤ A) := ⟨HB4.out.2.2.1⟩
      have HGR : Veil (Calls Tryz.prog 10 #[(.pointer (some ⟨m, 0, none⟩)), .agg #[.slice a n c], .int .i64 0, .int .i64 0] w4 (GPost w4 A h m (prF 21) os0 n 0)) := ⟨grow_any a n c ps w.heap.size HBA.out HP5.out.1 HP5.out.2 7 0 rfl 0 os0 w4 (Nat.zero_le _) HP4.out.y (HS.out.1.on HB4.out.1) (by have := HP5.out.1; rw [HP4.out.len]; omega)⟩
      have p0 : w4.cell? ⟨pb, 0, none⟩ = some (.slice a n c) := HB4.out.2.1.1.at_ 0
      go_upto_region 7 with (go_at_call 10; ((with_reducible refine HGR.out.mono ?_); rintro e w5 ⟨v, x, at2, os2, rfl, hm5, -, hb5, hk5, -, -, hc5, hs5⟩; have H5 := Veil.mk (And.intro hm5 (And.intro hb5 (And.intro hk5 (And.intro hc5 hs5)))); clear hm5 hb5 hk5 hc5 hs5))
      clear p0
      obtain ⟨zb, hzb⟩ : ∃ zb, w5.heap.size = zb := ⟨_, rfl⟩
      obtain ⟨yb, hyb⟩ : ∃ yb, zb + 1 = yb := ⟨_, rfl⟩
      obtain ⟨W7, hW7⟩ : ∃ W7, (w5.alloc (.cells (vC v) 30)).alloc (.cells (rC x) 33) = W7 := ⟨_, rfl⟩
      have hx7 := two_new w5 W7 v x zb yb hzb hyb hW7
      have hB5 : Below w.heap.size w w5 := HB4.out.1.trans (H5.out.2.1.mono HBA.out)
      have hB7 : Below w.heap.size w W7 := hB5.trans (hx7.1.mono hB5.size)
      have HB7 : Veil (Below w.heap.size w W7 ∧ Box W7 qb 24 #[.slice a2 n2 c2] ∧ Box W7 zb 30 (vC v) ∧ Box W7 yb 33 (rC x)) := ⟨hB7, (H5.out.2.2.1.box HB4.out.2.1.2 rfl).below hx7.1, hx7.2.1, hx7.2.2⟩
      have HM7 : Veil (Y.MM W7 h A m (prF 21) os2 ∧ ∀ k, k ≤ 3 → ∃ s, s.size ≤ bnd k ∧ Sh (fun _ => True) W7 os2 k v x s) := ⟨H5.out.1.on hx7.1, fun k hk => by
        obtain ⟨s, hs1, hs2⟩ := H5.out.2.2.2.2 k hk
        exact ⟨s, hs1, Sh.go (Pres.on hx7.1) (fun _ _ h => h) (fun _ _ => trivial) k v x s hs2⟩⟩
      have hc5 := H5.out.2.2.2.1
      have hl0 := HP4.out.len
      have HGR2 : Veil (Calls Tryz.prog 10 #[(.pointer (some ⟨m, 0, none⟩)), .agg #[.slice a2 n2 c2], .int .i64 0, .int .i64 0] W7 (GPost W7 A h m (prF 21) os2 n2 0)) := ⟨grow_any a2 n2 c2 qs w.heap.size HBA.out HQ5.out.1 HQ5.out.2 7 0 rfl 0 os2 W7 (Nat.zero_le _) HM7.out.1 (HS.out.2.on HB7.out.1) (by have := HP5.out.1; have := HQ5.out.1; omega)⟩
      have HL2 : Veil (os2.length + n2 ≤ 2000) := ⟨by have := HP5.out.1; have := HQ5.out.1; omega⟩
      have q0 : W7.cell? ⟨qb, 0, none⟩ = some (.slice a2 n2 c2) := HB7.out.2.1.at_ 0
      rw [hW7]
      rw [hzb, hyb]
      clear hW7 hzb hyb hx7 hB5 hB7 hc5 hl0 HGR
      go_upto_region 8 with (go_at_call 10; ((with_reducible refine HGR2.out.mono ?_); rintro e w8 ⟨v2, y, at3, os3, rfl, hm5, hx5, hb5, hk5, -, -, hc5, hs5⟩; have H8 := Veil.mk (And.intro hm5 (And.intro hb5 (And.intro hk5 (And.intro hc5 (And.intro hx5 hs5))))); clear hm5 hb5 hk5 hc5 hx5 hs5))
      clear q0
      obtain ⟨zb2, hzb⟩ : ∃ zb, w8.heap.size = zb := ⟨_, rfl⟩
      obtain ⟨yb2, hyb⟩ : ∃ yb, zb2 + 1 = yb := ⟨_, rfl⟩
      obtain ⟨W9, hW9⟩ : ∃ W9, (w8.alloc (.cells (vC v2) 30)).alloc (.cells (rC y) 33) = W9 := ⟨_, rfl⟩
      have hx9 := two_new w8 W9 v2 y zb2 yb2 hzb hyb hW9
      have hk9 : Kp arT W7 W9 := H8.out.2.2.1.trans (Kp.of_below hx9.1)
      have hB8 : Below w.heap.size w w8 := HB7.out.1.trans (H8.out.2.1.mono HBA.out)
      have HBD : Veil (Below w.heap.size w W9) := ⟨hB8.trans (hx9.1.mono hB8.size)⟩
      have HZ := Veil.mk (hk9.box HB7.out.2.2.1 rfl)
      have HY := Veil.mk (hk9.box HB7.out.2.2.2 rfl)
      have HZ2 := Veil.mk hx9.2.1
      have HY2 := Veil.mk hx9.2.2
      have HM8 := Veil.mk (H8.out.1.on hx9.1)
      have hpre : ∀ (i : Nat) (o : OS), os2[i]? = some o → os3[i]? = some o := fun i o hi => by
        obtain ⟨ex, hex⟩ := H8.out.2.2.2.2.1
        rw [hex, List.getElem?_append_left (List.getElem?_eq_some_iff.1 hi).1]
        exact hi
      obtain ⟨sv, -, hsv⟩ := HM7.out.2 3 (Nat.le_refl _)
      obtain ⟨tv, htv, hsv2⟩ := HM7.out.2 2 (by decide)
      obtain ⟨sw, -, hsw⟩ := H8.out.2.2.2.2.2 3 (Nat.le_refl _)
      obtain ⟨tw, htw, hsw2⟩ := H8.out.2.2.2.2.2 2 (by decide)
      have HS8 : Veil (Sh (fun _ => True) W9 os3 3 v x sv ∧ Sh (fun _ => True) W9 os3 3 v2 y sw ∧ Sh (fun _ => True) W9 os3 2 v x tv ∧ Sh (fun _ => True) W9 os3 2 v2 y tw) := ⟨Sh.go (Pres.kp hk9 rfl rfl rfl) hpre (fun _ h => h) 3 v x sv hsv, Sh.go (Pres.on hx9.1) (fun _ _ h => h) (fun _ _ => trivial) 3 v2 y sw hsw, Sh.go (Pres.kp hk9 rfl rfl rfl) hpre (fun _ h => h) 2 v x tv hsv2, Sh.go (Pres.on hx9.1) (fun _ _ h => h) (fun _ _ => trivial) 2 v2 y tw hsw2⟩
      have HSZ : Veil (tv.size ≤ 1000000 ∧ tw.size ≤ 1000000) := ⟨Nat.le_trans htv (bnd_top 2 (by decide)), Nat.le_trans htw (bnd_top 2 (by decide))⟩
      have HLN : Veil (os3.length < 1000000) := ⟨by have := H8.out.2.2.2.1; have := HL2.out; omega⟩
      have HSH1 := Veil.mk (both_shown HM8.out (HT.out.on HBD.out) HS8.out.1)
      have HSH2 := Veil.mk (both_shown HM8.out (HT.out.on HBD.out) HS8.out.2.1)
      rw [hW9]
      rw [hzb, hyb]
      clear hW9 hzb hyb hx9 hk9 hB8 hpre hsv hsv2 hsw hsw2 htv htw HGR2
      refine wp_region_gen (.val (· = (.pointer (some ⟨m, 0, none⟩))) :: .val (· = (valV v)) :: .val (· = (.string sv)) :: .val (· = (.pointer (some ⟨m, 0, none⟩))) :: .val (· = (valV v2)) :: .val (· = (.string sw)) :: .val (· = (.string sv)) :: .val (· = (.string sw)) :: [] : List Kd) [some 39, some 40, some 41, some 42, some 43, some 44, some 12, some 13] (curV' _ [some 39, some 40, some 41, some 42, some 43, some 44, some 12, some 13]) (by kernel_rfl) rfl rfl (puts_cur _ _) ?_ (by kernel_rfl) ?_
      · refine Steps.cons rfl (fun bb aa w' hbs hb0 hbp hI K hK => ?_) ?_
        · obtain ⟨us, hus, ha, hI⟩ := hI
          obtain ⟨u0, u1, u2, u3, u4, u5, u6, u7, rfl⟩ := lenA8 hus
          have HI := Veil.mk hI
          clear hI
          rw [ha]
          simp only [puts, setAll, List.setIfInBounds_toArray, List.set_cons_zero, List.set_cons_succ]
          go_simp
          exact hK _ _ (gen_val HI.out hus hbs 0 _ _ (by show 0 < 8; decide) (fit_of rfl) rfl hb0 rfl (Below.refl _ _) (by simp only [puts, setAll, List.set_cons_zero, List.set_cons_succ, List.setIfInBounds_toArray]))
        refine Steps.cons rfl (fun bb aa w' hbs hb0 hbp hI K hK => ?_) ?_
        · obtain ⟨us, hus, ha, hI⟩ := hI
          obtain ⟨u0, u1, u2, u3, u4, u5, u6, u7, rfl⟩ := lenA8 hus
          have hch := hI.below
          have c0 : w'.cell? ⟨zb, 0, none⟩ = _ := (HZ.out.below hch).at_ 0
          have c1 : w'.cell? ⟨zb, 1, none⟩ = _ := (HZ.out.below hch).at_ 1
          have c2 : w'.cell? ⟨zb, 2, none⟩ = _ := (HZ.out.below hch).at_ 2
          clear hch
          have HI := Veil.mk hI
          clear hI
          rw [ha]
          simp only [puts, setAll, List.setIfInBounds_toArray, List.set_cons_zero, List.set_cons_succ]
          go_simp
          exact hK _ _ (gen_val HI.out hus hbs 1 _ _ (by show 1 < 8; decide) (fit_of rfl) rfl hb0 rfl (Below.refl _ _) (by simp only [puts, setAll, List.set_cons_zero, List.set_cons_succ, List.setIfInBounds_toArray]))
        refine Steps.cons rfl (fun bb aa w' hbs hb0 hbp hI K hK => ?_) ?_
        · obtain ⟨us, hus, ha, hI⟩ := hI
          obtain ⟨u0, u1, u2, u3, u4, u5, u6, u7, rfl⟩ := lenA8 hus
          have e0 : u0 = (.pointer (some ⟨m, 0, none⟩)) := hI.val 0 _ rfl (gen_after 0 (by kernel_rfl) hbp)
          subst e0
          have e1 : u1 = (valV v) := hI.val 1 _ rfl (gen_after 1 (by kernel_rfl) hbp)
          subst e1
          have hch := hI.below
          have HX9 := Veil.mk (HSH1.out.1 w' hch)
          clear hch
          have HI := Veil.mk hI
          clear hI
          rw [ha]
          simp only [puts, setAll, List.setIfInBounds_toArray, List.set_cons_zero, List.set_cons_succ]
          go_simp
          go_at_call 11
          refine HX9.out.mono ?_
          rintro e9 w9 ⟨rfl, hb9⟩
          go_simp
          exact hK _ _ (gen_val HI.out hus hbs 2 _ _ (by show 2 < 8; decide) (fit_of rfl) rfl hb0 rfl hb9 (by simp only [puts, setAll, List.set_cons_zero, List.set_cons_succ, List.setIfInBounds_toArray]))
        refine Steps.cons rfl (fun bb aa w' hbs hb0 hbp hI K hK => ?_) ?_
        · obtain ⟨us, hus, ha, hI⟩ := hI
          obtain ⟨u0, u1, u2, u3, u4, u5, u6, u7, rfl⟩ := lenA8 hus
          have HI := Veil.mk hI
          clear hI
          rw [ha]
          simp only [puts, setAll, List.setIfInBounds_toArray, List.set_cons_zero, List.set_cons_succ]
          go_simp
          exact hK _ _ (gen_val HI.out hus hbs 3 _ _ (by show 3 < 8; decide) (fit_of rfl) rfl hb0 rfl (Below.refl _ _) (by simp only [puts, setAll, List.set_cons_zero, List.set_cons_succ, List.setIfInBounds_toArray]))
        refine Steps.cons rfl (fun bb aa w' hbs hb0 hbp hI K hK => ?_) ?_
        · obtain ⟨us, hus, ha, hI⟩ := hI
          obtain ⟨u0, u1, u2, u3, u4, u5, u6, u7, rfl⟩ := lenA8 hus
          have hch := hI.below
          have c0 : w'.cell? ⟨zb2, 0, none⟩ = _ := (HZ2.out.below hch).at_ 0
          have c1 : w'.cell? ⟨zb2, 1, none⟩ = _ := (HZ2.out.below hch).at_ 1
          have c2 : w'.cell? ⟨zb2, 2, none⟩ = _ := (HZ2.out.below hch).at_ 2
          clear hch
          have HI := Veil.mk hI
          clear hI
          rw [ha]
          simp only [puts, setAll, List.setIfInBounds_toArray, List.set_cons_zero, List.set_cons_succ]
          go_simp
          exact hK _ _ (gen_val HI.out hus hbs 4 _ _ (by show 4 < 8; decide) (fit_of rfl) rfl hb0 rfl (Below.refl _ _) (by simp only [puts, setAll, List.set_cons_zero, List.set_cons_succ, List.setIfInBounds_toArray]))
        refine Steps.cons rfl (fun bb aa w' hbs hb0 hbp hI K hK => ?_) ?_
        · obtain ⟨us, hus, ha, hI⟩ := hI
          obtain ⟨u0, u1, u2, u3, u4, u5, u6, u7, rfl⟩ := lenA8 hus
          have e3 : u3 = (.pointer (some ⟨m, 0, none⟩)) := hI.val 3 _ rfl (gen_after 3 (by kernel_rfl) hbp)
          subst e3
          have e4 : u4 = (valV v2) := hI.val 4 _ rfl (gen_after 4 (by kernel_rfl) hbp)
          subst e4
          have hch := hI.below
          have HX9 := Veil.mk (HSH2.out.1 w' hch)
          clear hch
          have HI := Veil.mk hI
          clear hI
          rw [ha]
          simp only [puts, setAll, List.setIfInBounds_toArray, List.set_cons_zero, List.set_cons_succ]
          go_simp
          go_at_call 11
          refine HX9.out.mono ?_
          rintro e9 w9 ⟨rfl, hb9⟩
          go_simp
          exact hK _ _ (gen_val HI.out hus hbs 5 _ _ (by show 5 < 8; decide) (fit_of rfl) rfl hb0 rfl hb9 (by simp only [puts, setAll, List.set_cons_zero, List.set_cons_succ, List.setIfInBounds_toArray]))
        refine Steps.cons rfl (fun bb aa w' hbs hb0 hbp hI K hK => ?_) ?_
        · obtain ⟨us, hus, ha, hI⟩ := hI
          obtain ⟨u0, u1, u2, u3, u4, u5, u6, u7, rfl⟩ := lenA8 hus
          have e2 : u2 = (.string sv) := hI.val 2 _ rfl (gen_after 2 (by kernel_rfl) hbp)
          subst e2
          have HI := Veil.mk hI
          clear hI
          rw [ha]
          simp only [puts, setAll, List.setIfInBounds_toArray, List.set_cons_zero, List.set_cons_succ]
          go_simp
          exact hK _ _ (gen_val HI.out hus hbs 6 _ _ (by show 6 < 8; decide) (fit_of rfl) rfl hb0 rfl (Below.refl _ _) (by simp only [puts, setAll, List.set_cons_zero, List.set_cons_succ, List.setIfInBounds_toArray]))
        refine Steps.cons rfl (fun bb aa w' hbs hb0 hbp hI K hK => ?_) ?_
        · obtain ⟨us, hus, ha, hI⟩ := hI
          obtain ⟨u0, u1, u2, u3, u4, u5, u6, u7, rfl⟩ := lenA8 hus
          have e5 : u5 = (.string sw) := hI.val 5 _ rfl (gen_after 5 (by kernel_rfl) hbp)
          subst e5
          have HI := Veil.mk hI
          clear hI
          rw [ha]
          simp only [puts, setAll, List.setIfInBounds_toArray, List.set_cons_zero, List.set_cons_succ]
          go_simp
          exact hK _ _ (gen_val HI.out hus hbs 7 _ _ (by show 7 < 8; decide) (fit_of rfl) rfl hb0 rfl (Below.refl _ _) (by simp only [puts, setAll, List.set_cons_zero, List.set_cons_succ, List.setIfInBounds_toArray]))
        exact Steps.nil
      · intro us wE hus dd hD2 hJ
        obtain ⟨p0, p1, p2, p3, p4, p5, p6, p7, rfl⟩ := lenA8 hus
        have hbE := hJ.below
        have e0 : p0 = (.pointer (some ⟨m, 0, none⟩)) := hJ.val 0 _ rfl (hD2 0 (by show 0 < 8; decide))
        subst e0
        have e1 : p1 = (valV v) := hJ.val 1 _ rfl (hD2 1 (by show 1 < 8; decide))
        subst e1
        have e2 : p2 = (.string sv) := hJ.val 2 _ rfl (hD2 2 (by show 2 < 8; decide))
        subst e2
        have e3 : p3 = (.pointer (some ⟨m, 0, none⟩)) := hJ.val 3 _ rfl (hD2 3 (by show 3 < 8; decide))
        subst e3
        have e4 : p4 = (valV v2) := hJ.val 4 _ rfl (hD2 4 (by show 4 < 8; decide))
        subst e4
        have e5 : p5 = (.string sw) := hJ.val 5 _ rfl (hD2 5 (by show 5 < 8; decide))
        subst e5
        have e6 : p6 = (.string sv) := hJ.val 6 _ rfl (hD2 6 (by show 6 < 8; decide))
        subst e6
        have e7 : p7 = (.string sw) := hJ.val 7 _ rfl (hD2 7 (by show 7 < 8; decide))
        subst e7
        clear hJ hD2
        have HE8 := Veil.mk hbE
        clear hbE
        simp only [puts, setAll, List.setIfInBounds_toArray, List.set_cons_zero, List.set_cons_succ]
        go_upto_region 9 with (fail)
        obtain ⟨WD, hWD⟩ : ∃ WD, wE.drew = WD := ⟨_, rfl⟩
        have hbD : Below W9.heap.size W9 WD := by rw [← hWD]; exact HE8.out.drew
        have HT9 : Veil (∀ w', Below w.heap.size WD w' → M.Tb w') := ⟨fun w' hb => HT.out.on ((HBD.out.trans (hbD.mono HBD.out.size)).trans hb)⟩
        have HM9 : Veil (Y.MM WD h A m (prF 21) os3) := ⟨HM8.out.on hbD⟩
        have HS9 : Veil (Sh (fun _ => True) WD os3 3 v x sv ∧ Sh (fun _ => True) WD os3 3 v2 y sw ∧ Sh (fun _ => True) WD os3 2 v x tv ∧ Sh (fun _ => True) WD os3 2 v2 y tw) := ⟨Sh.go (Pres.on hbD) (fun _ _ h => h) (fun _ h => h) 3 v x sv HS8.out.1, Sh.go (Pres.on hbD) (fun _ _ h => h) (fun _ h => h) 3 v2 y sw HS8.out.2.1, Sh.go (Pres.on hbD) (fun _ _ h => h) (fun _ h => h) 2 v x tv HS8.out.2.2.1, Sh.go (Pres.on hbD) (fun _ _ h => h) (fun _ h => h) 2 v2 y tw HS8.out.2.2.2⟩
        have HZ9 := Veil.mk (HZ.out.below hbD)
        have HY9 := Veil.mk (HY.out.below hbD)
        have HZ29 := Veil.mk (HZ2.out.below hbD)
        have HY29 := Veil.mk (HY2.out.below hbD)
        have HBD := Veil.mk (HBD.out.trans (hbD.mono HBD.out.size))
        have HWD := Veil.mk hWD
        clear hWD hbD HE8 HM8 HS8
        refine wp_region_chain (some (· = (.string sv)) :: some (· = (.pointer (some ⟨m, 0, none⟩))) :: some (· = (valV v)) :: some (· = (.string sv)) :: some (· = (.bool true)) :: some (· = (.bool true)) :: some (· = (.string sw)) :: some (· = (.pointer (some ⟨m, 0, none⟩))) :: some (· = (valV v2)) :: some (· = (.string sw)) :: some (· = (.bool true)) :: some (· = (.bool true)) :: some (· = (.bool true)) :: some (· = (.string sv)) :: some (· = (.string sw)) :: some (· = (.bool (sv.toList == sw.toList))) :: some (· = (RV x.1 x.2)) :: some (· = (.string sv)) :: some (· = (RV y.1 y.2)) :: some (· = (.string sw)) :: some (· = (.bool (sv.toList == sw.toList))) :: some (· = (.bool true)) :: some (· = (.bool true)) :: some (· = (.bool true)) :: some (· = (.pointer (some ⟨m, 0, none⟩))) :: some (· = (.pointer (some ⟨m, 0, none⟩))) :: some (· = (valV v)) :: some (· = (valV v2)) :: none :: some (· = (valV (9, (os3.length : Int) + 1, ⟨#[]⟩))) :: some (· = (.string (arrS [tv, tw]))) :: some (· = (RV x.1 x.2)) :: some (· = (RV y.1 y.2)) :: none :: none :: none :: none :: some (· = (.string (arrS [tv, tw]))) :: some (· = (.bool true)) :: some (· = (.bool true)) :: some (· = (.bool true)) :: [] : List (Option (Value → Prop))) (RK WD w.heap.size h A m (prF 21) os3 v v2 x y) (some 45 :: some 46 :: some 47 :: some 48 :: some 49 :: some 50 :: some 51 :: some 52 :: some 53 :: some 54 :: some 55 :: some 56 :: some 57 :: some 58 :: some 59 :: some 60 :: some 61 :: some 62 :: some 63 :: some 64 :: some 65 :: some 66 :: some 67 :: some 68 :: some 69 :: some 70 :: some 71 :: some 72 :: some 73 :: some 74 :: some 75 :: some 76 :: some 77 :: some 78 :: some 79 :: some 80 :: some 81 :: some 82 :: some 83 :: some 84 :: some 4 :: [] : List (Option Nat)) (curV' _ (some 45 :: some 46 :: some 47 :: some 48 :: some 49 :: some 50 :: some 51 :: some 52 :: some 53 :: some 54 :: some 55 :: some 56 :: some 57 :: some 58 :: some 59 :: some 60 :: some 61 :: some 62 :: some 63 :: some 64 :: some 65 :: some 66 :: some 67 :: some 68 :: some 69 :: some 70 :: some 71 :: some 72 :: some 73 :: some 74 :: some 75 :: some 76 :: some 77 :: some 78 :: some 79 :: some 80 :: some 81 :: some 82 :: some 83 :: some 84 :: some 4 :: [] : List (Option Nat))) (by kernel_rfl) rfl rfl (puts_cur _ _) ((show RK WD _ _ _ _ _ _ _ _ _ _ _ _ wE.drew by rw [HWD.out]; exact RK.start HM9.out)) ?_ (by kernel_rfl) ?_
        · refine Steps.cons rfl (fun bb aa w' hbs hb0 hbp hI K hK => ?_) ?_
          · obtain ⟨us, hus, ha, hI⟩ := hI
            obtain ⟨u0, u1, u2, u3, u4, u5, u6, u7, u8, u9, u10, u11, u12, u13, u14, u15, u16, u17, u18, u19, u20, u21, u22, u23, u24, u25, u26, u27, u28, u29, u30, u31, u32, u33, u34, u35, u36, u37, u38, u39, u40, rfl⟩ := lenA41 hus
            have HI := Veil.mk hI
            clear hI
            rw [ha]
            simp only [puts, setAll, List.setIfInBounds_toArray, List.set_cons_zero, List.set_cons_succ]
            go_simp
            exact hK _ _ (chain_step HI.out hus hbs 0 _ (by show 0 < 41; decide) rfl hbp (val_of rfl rfl) (HI.out.ph.pure 0 _ hb0 (by decide) HBA.out) (by simp only [puts, setAll, List.set_cons_zero, List.set_cons_succ, List.setIfInBounds_toArray]))
          refine Steps.cons rfl (fun bb aa w' hbs hb0 hbp hI K hK => ?_) ?_
          · obtain ⟨us, hus, ha, hI⟩ := hI
            obtain ⟨u0, u1, u2, u3, u4, u5, u6, u7, u8, u9, u10, u11, u12, u13, u14, u15, u16, u17, u18, u19, u20, u21, u22, u23, u24, u25, u26, u27, u28, u29, u30, u31, u32, u33, u34, u35, u36, u37, u38, u39, u40, rfl⟩ := lenA41 hus
            have HI := Veil.mk hI
            clear hI
            rw [ha]
            simp only [puts, setAll, List.setIfInBounds_toArray, List.set_cons_zero, List.set_cons_succ]
            go_simp
            exact hK _ _ (chain_step HI.out hus hbs 1 _ (by show 1 < 41; decide) rfl hbp (val_of rfl rfl) (HI.out.ph.pure 1 _ hb0 (by decide) HBA.out) (by simp only [puts, setAll, List.set_cons_zero, List.set_cons_succ, List.setIfInBounds_toArray]))
          refine Steps.cons rfl (fun bb aa w' hbs hb0 hbp hI K hK => ?_) ?_
          · obtain ⟨us, hus, ha, hI⟩ := hI
            obtain ⟨u0, u1, u2, u3, u4, u5, u6, u7, u8, u9, u10, u11, u12, u13, u14, u15, u16, u17, u18, u19, u20, u21, u22, u23, u24, u25, u26, u27, u28, u29, u30, u31, u32, u33, u34, u35, u36, u37, u38, u39, u40, rfl⟩ := lenA41 hus
            have c0 : w'.cell? ⟨zb, 0, none⟩ = _ := (hI.ph.kp.box HZ9.out rfl).at_ 0
            have c1 : w'.cell? ⟨zb, 1, none⟩ = _ := (hI.ph.kp.box HZ9.out rfl).at_ 1
            have c2 : w'.cell? ⟨zb, 2, none⟩ = _ := (hI.ph.kp.box HZ9.out rfl).at_ 2
            have HI := Veil.mk hI
            clear hI
            rw [ha]
            simp only [puts, setAll, List.setIfInBounds_toArray, List.set_cons_zero, List.set_cons_succ]
            go_simp
            exact hK _ _ (chain_step HI.out hus hbs 2 _ (by show 2 < 41; decide) rfl hbp (val_of rfl rfl) (HI.out.ph.pure 2 _ hb0 (by decide) HBA.out) (by simp only [puts, setAll, List.set_cons_zero, List.set_cons_succ, List.setIfInBounds_toArray]))
          refine Steps.cons rfl (fun bb aa w' hbs hb0 hbp hI K hK => ?_) ?_
          · obtain ⟨us, hus, ha, hI⟩ := hI
            obtain ⟨u0, u1, u2, u3, u4, u5, u6, u7, u8, u9, u10, u11, u12, u13, u14, u15, u16, u17, u18, u19, u20, u21, u22, u23, u24, u25, u26, u27, u28, u29, u30, u31, u32, u33, u34, u35, u36, u37, u38, u39, u40, rfl⟩ := lenA41 hus
            have e1 : u1 = (.pointer (some ⟨m, 0, none⟩)) := hI.val 1 _ rfl (gen_after 1 (by kernel_rfl) hbp)
            subst e1
            have e2 : u2 = (valV v) := hI.val 2 _ rfl (gen_after 2 (by kernel_rfl) hbp)
            subst e2
            have B29 := (hI.bwd [23, 22, 12, 11, 5, 3] 29 3 (by kernel_rfl) rfl hb0)
            have HX9 := Veil.mk (shown_at (hI.ph.m0 B29) (HT9.out w' hI.ph.bel) hI.ph.kp HS9.out.1)
            clear B29
            have HI := Veil.mk hI
            clear hI
            rw [ha]
            simp only [puts, setAll, List.setIfInBounds_toArray, List.set_cons_zero, List.set_cons_succ]
            go_simp
            go_at_call 11
            refine HX9.out.mono ?_
            rintro e9 w9 ⟨rfl, hb9⟩
            go_simp
            exact hK _ _ (chain_step HI.out hus hbs 3 _ (by show 3 < 41; decide) rfl hbp (val_of rfl rfl) (HI.out.ph.below 3 _ hb0 (by decide) HBA.out hb9) (by simp only [puts, setAll, List.set_cons_zero, List.set_cons_succ, List.setIfInBounds_toArray]))
          refine Steps.cons rfl (fun bb aa w' hbs hb0 hbp hI K hK => ?_) ?_
          · obtain ⟨us, hus, ha, hI⟩ := hI
            obtain ⟨u0, u1, u2, u3, u4, u5, u6, u7, u8, u9, u10, u11, u12, u13, u14, u15, u16, u17, u18, u19, u20, u21, u22, u23, u24, u25, u26, u27, u28, u29, u30, u31, u32, u33, u34, u35, u36, u37, u38, u39, u40, rfl⟩ := lenA41 hus
            have e0 : u0 = (.string sv) := hI.val 0 _ rfl (gen_after 0 (by kernel_rfl) hbp)
            subst e0
            have e3 : u3 = (.string sv) := hI.val 3 _ rfl (gen_after 3 (by kernel_rfl) hbp)
            subst e3
            have HI := Veil.mk hI
            clear hI
            rw [ha]
            simp only [puts, setAll, List.setIfInBounds_toArray, List.set_cons_zero, List.set_cons_succ]
            go_simp
            exact hK _ _ (chain_step HI.out hus hbs 4 _ (by show 4 < 41; decide) rfl hbp (val_of rfl rfl) (HI.out.ph.pure 4 _ hb0 (by decide) HBA.out) (by simp only [puts, setAll, List.set_cons_zero, List.set_cons_succ, List.setIfInBounds_toArray]))
          refine Steps.cons rfl (fun bb aa w' hbs hb0 hbp hI K hK => ?_) ?_
          · obtain ⟨us, hus, ha, hI⟩ := hI
            obtain ⟨u0, u1, u2, u3, u4, u5, u6, u7, u8, u9, u10, u11, u12, u13, u14, u15, u16, u17, u18, u19, u20, u21, u22, u23, u24, u25, u26, u27, u28, u29, u30, u31, u32, u33, u34, u35, u36, u37, u38, u39, u40, rfl⟩ := lenA41 hus
            have e4 : u4 = (.bool true) := hI.val 4 _ rfl (gen_after 4 (by kernel_rfl) hbp)
            subst e4
            have HI := Veil.mk hI
            clear hI
            rw [ha]
            simp only [puts, setAll, List.setIfInBounds_toArray, List.set_cons_zero, List.set_cons_succ]
            go_simp
            exact hK _ _ (chain_step HI.out hus hbs 5 _ (by show 5 < 41; decide) rfl hbp (val_of rfl rfl) (HI.out.ph.pure 5 _ hb0 (by decide) HBA.out) (by simp only [puts, setAll, List.set_cons_zero, List.set_cons_succ, List.setIfInBounds_toArray]))
          refine Steps.consG (fun bb aa w' hbs hb0 hbp hI K hK => ?_) ?_
          · obtain ⟨us, hus, ha, hI⟩ := hI
            obtain ⟨u0, u1, u2, u3, u4, u5, u6, u7, u8, u9, u10, u11, u12, u13, u14, u15, u16, u17, u18, u19, u20, u21, u22, u23, u24, u25, u26, u27, u28, u29, u30, u31, u32, u33, u34, u35, u36, u37, u38, u39, u40, rfl⟩ := lenA41 hus
            have e5 : u5 = (.bool true) := hI.val 5 _ rfl (gen_after 5 (by kernel_rfl) hbp)
            subst e5
            rw [if_pos (show Region.wanted _ _ = true by rw [ha]; exact wanted_of (j := 5) (s := 50) (by kernel_rfl) (by kernel_rfl) (by kernel_rfl))]
            have HI := Veil.mk hI
            clear hI
            rw [ha]
            simp only [puts, setAll, List.setIfInBounds_toArray, List.set_cons_zero, List.set_cons_succ]
            go_simp
            exact hK _ _ (chain_step HI.out hus hbs 6 _ (by show 6 < 41; decide) rfl hbp (val_of rfl rfl) (HI.out.ph.pure 6 _ hb0 (by decide) HBA.out) (by simp only [puts, setAll, List.set_cons_zero, List.set_cons_succ, List.setIfInBounds_toArray]))
          refine Steps.consG (fun bb aa w' hbs hb0 hbp hI K hK => ?_) ?_
          · obtain ⟨us, hus, ha, hI⟩ := hI
            obtain ⟨u0, u1, u2, u3, u4, u5, u6, u7, u8, u9, u10, u11, u12, u13, u14, u15, u16, u17, u18, u19, u20, u21, u22, u23, u24, u25, u26, u27, u28, u29, u30, u31, u32, u33, u34, u35, u36, u37, u38, u39, u40, rfl⟩ := lenA41 hus
            have e5 : u5 = (.bool true) := hI.val 5 _ rfl (gen_after 5 (by kernel_rfl) hbp)
            subst e5
            rw [if_pos (show Region.wanted _ _ = true by rw [ha]; exact wanted_of (j := 5) (s := 50) (by kernel_rfl) (by kernel_rfl) (by kernel_rfl))]
            have HI := Veil.mk hI
            clear hI
            rw [ha]
            simp only [puts, setAll, List.setIfInBounds_toArray, List.set_cons_zero, List.set_cons_succ]
            go_simp
            exact hK _ _ (chain_step HI.out hus hbs 7 _ (by show 7 < 41; decide) rfl hbp (val_of rfl rfl) (HI.out.ph.pure 7 _ hb0 (by decide) HBA.out) (by simp only [puts, setAll, List.set_cons_zero, List.set_cons_succ, List.setIfInBounds_toArray]))
          refine Steps.consG (fun bb aa w' hbs hb0 hbp hI K hK => ?_) ?_
          · obtain ⟨us, hus, ha, hI⟩ := hI
            obtain ⟨u0, u1, u2, u3, u4, u5, u6, u7, u8, u9, u10, u11, u12, u13, u14, u15, u16, u17, u18, u19, u20, u21, u22, u23, u24, u25, u26, u27, u28, u29, u30, u31, u32, u33, u34, u35, u36, u37, u38, u39, u40, rfl⟩ := lenA41 hus
            have e5 : u5 = (.bool true) := hI.val 5 _ rfl (gen_after 5 (by kernel_rfl) hbp)
            subst e5
            rw [if_pos (show Region.wanted _ _ = true by rw [ha]; exact wanted_of (j := 5) (s := 50) (by kernel_rfl) (by kernel_rfl) (by kernel_rfl))]
            have c0 : w'.cell? ⟨zb2, 0, none⟩ = _ := (hI.ph.kp.box HZ29.out rfl).at_ 0
            have c1 : w'.cell? ⟨zb2, 1, none⟩ = _ := (hI.ph.kp.box HZ29.out rfl).at_ 1
            have c2 : w'.cell? ⟨zb2, 2, none⟩ = _ := (hI.ph.kp.box HZ29.out rfl).at_ 2
            have HI := Veil.mk hI
            clear hI
            rw [ha]
            simp only [puts, setAll, List.setIfInBounds_toArray, List.set_cons_zero, List.set_cons_succ]
            go_simp
            exact hK _ _ (chain_step HI.out hus hbs 8 _ (by show 8 < 41; decide) rfl hbp (val_of rfl rfl) (HI.out.ph.pure 8 _ hb0 (by decide) HBA.out) (by simp only [puts, setAll, List.set_cons_zero, List.set_cons_succ, List.setIfInBounds_toArray]))
          refine Steps.consG (fun bb aa w' hbs hb0 hbp hI K hK => ?_) ?_
          · obtain ⟨us, hus, ha, hI⟩ := hI
            obtain ⟨u0, u1, u2, u3, u4, u5, u6, u7, u8, u9, u10, u11, u12, u13, u14, u15, u16, u17, u18, u19, u20, u21, u22, u23, u24, u25, u26, u27, u28, u29, u30, u31, u32, u33, u34, u35, u36, u37, u38, u39, u40, rfl⟩ := lenA41 hus
            have e7 : u7 = (.pointer (some ⟨m, 0, none⟩)) := hI.val 7 _ rfl (gen_after 7 (by kernel_rfl) hbp)
            subst e7
            have e8 : u8 = (valV v2) := hI.val 8 _ rfl (gen_after 8 (by kernel_rfl) hbp)
            subst e8
            have e5 : u5 = (.bool true) := hI.val 5 _ rfl (gen_after 5 (by kernel_rfl) hbp)
            subst e5
            rw [if_pos (show Region.wanted _ _ = true by rw [ha]; exact wanted_of (j := 5) (s := 50) (by kernel_rfl) (by kernel_rfl) (by kernel_rfl))]
            have B29 := (hI.bwd [23, 22, 12, 9] 29 9 (by kernel_rfl) rfl hb0)
            have HX9 := Veil.mk (shown_at (hI.ph.m0 B29) (HT9.out w' hI.ph.bel) hI.ph.kp HS9.out.2.1)
            clear B29
            have HI := Veil.mk hI
            clear hI
            rw [ha]
            simp only [puts, setAll, List.setIfInBounds_toArray, List.set_cons_zero, List.set_cons_succ]
            go_simp
            go_at_call 11
            refine HX9.out.mono ?_
            rintro e9 w9 ⟨rfl, hb9⟩
            go_simp
            exact hK _ _ (chain_step HI.out hus hbs 9 _ (by show 9 < 41; decide) rfl hbp (val_of rfl rfl) (HI.out.ph.below 9 _ hb0 (by decide) HBA.out hb9) (by simp only [puts, setAll, List.set_cons_zero, List.set_cons_succ, List.setIfInBounds_toArray]))
          refine Steps.consG (fun bb aa w' hbs hb0 hbp hI K hK => ?_) ?_
          · obtain ⟨us, hus, ha, hI⟩ := hI
            obtain ⟨u0, u1, u2, u3, u4, u5, u6, u7, u8, u9, u10, u11, u12, u13, u14, u15, u16, u17, u18, u19, u20, u21, u22, u23, u24, u25, u26, u27, u28, u29, u30, u31, u32, u33, u34, u35, u36, u37, u38, u39, u40, rfl⟩ := lenA41 hus
            have e6 : u6 = (.string sw) := hI.val 6 _ rfl (gen_after 6 (by kernel_rfl) hbp)
            subst e6
            have e9 : u9 = (.string sw) := hI.val 9 _ rfl (gen_after 9 (by kernel_rfl) hbp)
            subst e9
            have e5 : u5 = (.bool true) := hI.val 5 _ rfl (gen_after 5 (by kernel_rfl) hbp)
            subst e5
            rw [if_pos (show Region.wanted _ _ = true by rw [ha]; exact wanted_of (j := 5) (s := 50) (by kernel_rfl) (by kernel_rfl) (by kernel_rfl))]
            have HI := Veil.mk hI
            clear hI
            rw [ha]
            simp only [puts, setAll, List.setIfInBounds_toArray, List.set_cons_zero, List.set_cons_succ]
            go_simp
            exact hK _ _ (chain_step HI.out hus hbs 10 _ (by show 10 < 41; decide) rfl hbp (val_of rfl rfl) (HI.out.ph.pure 10 _ hb0 (by decide) HBA.out) (by simp only [puts, setAll, List.set_cons_zero, List.set_cons_succ, List.setIfInBounds_toArray]))
          refine Steps.cons rfl (fun bb aa w' hbs hb0 hbp hI K hK => ?_) ?_
          · obtain ⟨us, hus, ha, hI⟩ := hI
            obtain ⟨u0, u1, u2, u3, u4, u5, u6, u7, u8, u9, u10, u11, u12, u13, u14, u15, u16, u17, u18, u19, u20, u21, u22, u23, u24, u25, u26, u27, u28, u29, u30, u31, u32, u33, u34, u35, u36, u37, u38, u39, u40, rfl⟩ := lenA41 hus
            have e5 : u5 = (.bool true) := hI.val 5 _ rfl (gen_after 5 (by kernel_rfl) hbp)
            subst e5
            have e10 : u10 = (.bool true) := hI.val 10 _ rfl (gen_after 10 (by kernel_rfl) hbp)
            subst e10
            have HI := Veil.mk hI
            clear hI
            rw [ha]
            simp only [puts, setAll, List.setIfInBounds_toArray, List.set_cons_zero, List.set_cons_succ]
            go_simp
            exact hK _ _ (chain_step HI.out hus hbs 11 _ (by show 11 < 41; decide) rfl hbp (val_of rfl rfl) (HI.out.ph.pure 11 _ hb0 (by decide) HBA.out) (by simp only [puts, setAll, List.set_cons_zero, List.set_cons_succ, List.setIfInBounds_toArray]))
          refine Steps.cons rfl (fun bb aa w' hbs hb0 hbp hI K hK => ?_) ?_
          · obtain ⟨us, hus, ha, hI⟩ := hI
            obtain ⟨u0, u1, u2, u3, u4, u5, u6, u7, u8, u9, u10, u11, u12, u13, u14, u15, u16, u17, u18, u19, u20, u21, u22, u23, u24, u25, u26, u27, u28, u29, u30, u31, u32, u33, u34, u35, u36, u37, u38, u39, u40, rfl⟩ := lenA41 hus
            have e11 : u11 = (.bool true) := hI.val 11 _ rfl (gen_after 11 (by kernel_rfl) hbp)
            subst e11
            have HI := Veil.mk hI
            clear hI
            rw [ha]
            simp only [puts, setAll, List.setIfInBounds_toArray, List.set_cons_zero, List.set_cons_succ]
            go_simp
            exact hK _ _ (chain_step HI.out hus hbs 12 _ (by show 12 < 41; decide) rfl hbp (val_of rfl rfl) (HI.out.ph.pure 12 _ hb0 (by decide) HBA.out) (by simp only [puts, setAll, List.set_cons_zero, List.set_cons_succ, List.setIfInBounds_toArray]))
          refine Steps.consG (fun bb aa w' hbs hb0 hbp hI K hK => ?_) ?_
          · obtain ⟨us, hus, ha, hI⟩ := hI
            obtain ⟨u0, u1, u2, u3, u4, u5, u6, u7, u8, u9, u10, u11, u12, u13, u14, u15, u16, u17, u18, u19, u20, u21, u22, u23, u24, u25, u26, u27, u28, u29, u30, u31, u32, u33, u34, u35, u36, u37, u38, u39, u40, rfl⟩ := lenA41 hus
            have e12 : u12 = (.bool true) := hI.val 12 _ rfl (gen_after 12 (by kernel_rfl) hbp)
            subst e12
            rw [if_pos (show Region.wanted _ _ = true by rw [ha]; exact wanted_of (j := 12) (s := 57) (by kernel_rfl) (by kernel_rfl) (by kernel_rfl))]
            have HI := Veil.mk hI
            clear hI
            rw [ha]
            simp only [puts, setAll, List.setIfInBounds_toArray, List.set_cons_zero, List.set_cons_succ]
            go_simp
            exact hK _ _ (chain_step HI.out hus hbs 13 _ (by show 13 < 41; decide) rfl hbp (val_of rfl rfl) (HI.out.ph.pure 13 _ hb0 (by decide) HBA.out) (by simp only [puts, setAll, List.set_cons_zero, List.set_cons_succ, List.setIfInBounds_toArray]))
          refine Steps.consG (fun bb aa w' hbs hb0 hbp hI K hK => ?_) ?_
          · obtain ⟨us, hus, ha, hI⟩ := hI
            obtain ⟨u0, u1, u2, u3, u4, u5, u6, u7, u8, u9, u10, u11, u12, u13, u14, u15, u16, u17, u18, u19, u20, u21, u22, u23, u24, u25, u26, u27, u28, u29, u30, u31, u32, u33, u34, u35, u36, u37, u38, u39, u40, rfl⟩ := lenA41 hus
            have e12 : u12 = (.bool true) := hI.val 12 _ rfl (gen_after 12 (by kernel_rfl) hbp)
            subst e12
            rw [if_pos (show Region.wanted _ _ = true by rw [ha]; exact wanted_of (j := 12) (s := 57) (by kernel_rfl) (by kernel_rfl) (by kernel_rfl))]
            have HI := Veil.mk hI
            clear hI
            rw [ha]
            simp only [puts, setAll, List.setIfInBounds_toArray, List.set_cons_zero, List.set_cons_succ]
            go_simp
            exact hK _ _ (chain_step HI.out hus hbs 14 _ (by show 14 < 41; decide) rfl hbp (val_of rfl rfl) (HI.out.ph.pure 14 _ hb0 (by decide) HBA.out) (by simp only [puts, setAll, List.set_cons_zero, List.set_cons_succ, List.setIfInBounds_toArray]))
          refine Steps.consG (fun bb aa w' hbs hb0 hbp hI K hK => ?_) ?_
          · obtain ⟨us, hus, ha, hI⟩ := hI
            obtain ⟨u0, u1, u2, u3, u4, u5, u6, u7, u8, u9, u10, u11, u12, u13, u14, u15, u16, u17, u18, u19, u20, u21, u22, u23, u24, u25, u26, u27, u28, u29, u30, u31, u32, u33, u34, u35, u36, u37, u38, u39, u40, rfl⟩ := lenA41 hus
            have e13 : u13 = (.string sv) := hI.val 13 _ rfl (gen_after 13 (by kernel_rfl) hbp)
            subst e13
            have e14 : u14 = (.string sw) := hI.val 14 _ rfl (gen_after 14 (by kernel_rfl) hbp)
            subst e14
            have e12 : u12 = (.bool true) := hI.val 12 _ rfl (gen_after 12 (by kernel_rfl) hbp)
            subst e12
            rw [if_pos (show Region.wanted _ _ = true by rw [ha]; exact wanted_of (j := 12) (s := 57) (by kernel_rfl) (by kernel_rfl) (by kernel_rfl))]
            have HI := Veil.mk hI
            clear hI
            rw [ha]
            simp only [puts, setAll, List.setIfInBounds_toArray, List.set_cons_zero, List.set_cons_succ]
            go_simp
            exact hK _ _ (chain_step HI.out hus hbs 15 _ (by show 15 < 41; decide) rfl hbp (val_of rfl rfl) (HI.out.ph.pure 15 _ hb0 (by decide) HBA.out) (by simp only [puts, setAll, List.set_cons_zero, List.set_cons_succ, List.setIfInBounds_toArray]))
          refine Steps.consG (fun bb aa w' hbs hb0 hbp hI K hK => ?_) ?_
          · obtain ⟨us, hus, ha, hI⟩ := hI
            obtain ⟨u0, u1, u2, u3, u4, u5, u6, u7, u8, u9, u10, u11, u12, u13, u14, u15, u16, u17, u18, u19, u20, u21, u22, u23, u24, u25, u26, u27, u28, u29, u30, u31, u32, u33, u34, u35, u36, u37, u38, u39, u40, rfl⟩ := lenA41 hus
            have e12 : u12 = (.bool true) := hI.val 12 _ rfl (gen_after 12 (by kernel_rfl) hbp)
            subst e12
            rw [if_pos (show Region.wanted _ _ = true by rw [ha]; exact wanted_of (j := 12) (s := 57) (by kernel_rfl) (by kernel_rfl) (by kernel_rfl))]
            have c0 : w'.cell? ⟨yb, 0, none⟩ = _ := (hI.ph.kp.box HY9.out rfl).at_ 0
            have c1 : w'.cell? ⟨yb, 1, none⟩ = _ := (hI.ph.kp.box HY9.out rfl).at_ 1
            have c2 : w'.cell? ⟨yb, 2, none⟩ = _ := (hI.ph.kp.box HY9.out rfl).at_ 2
            have c3 : w'.cell? ⟨yb, 3, none⟩ = _ := (hI.ph.kp.box HY9.out rfl).at_ 3
            have HI := Veil.mk hI
            clear hI
            rw [ha]
            simp only [puts, setAll, List.setIfInBounds_toArray, List.set_cons_zero, List.set_cons_succ]
            go_simp
            exact hK _ _ (chain_step HI.out hus hbs 16 _ (by show 16 < 41; decide) rfl hbp (val_of rfl rfl) (HI.out.ph.pure 16 _ hb0 (by decide) HBA.out) (by simp only [puts, setAll, List.set_cons_zero, List.set_cons_succ, List.setIfInBounds_toArray]))
          refine Steps.consG (fun bb aa w' hbs hb0 hbp hI K hK => ?_) ?_
          · obtain ⟨us, hus, ha, hI⟩ := hI
            obtain ⟨u0, u1, u2, u3, u4, u5, u6, u7, u8, u9, u10, u11, u12, u13, u14, u15, u16, u17, u18, u19, u20, u21, u22, u23, u24, u25, u26, u27, u28, u29, u30, u31, u32, u33, u34, u35, u36, u37, u38, u39, u40, rfl⟩ := lenA41 hus
            have e16 : u16 = (RV x.1 x.2) := hI.val 16 _ rfl (gen_after 16 (by kernel_rfl) hbp)
            subst e16
            have e12 : u12 = (.bool true) := hI.val 12 _ rfl (gen_after 12 (by kernel_rfl) hbp)
            subst e12
            rw [if_pos (show Region.wanted _ _ = true by rw [ha]; exact wanted_of (j := 12) (s := 57) (by kernel_rfl) (by kernel_rfl) (by kernel_rfl))]
            have HX9 := Veil.mk (rshown_at (HT9.out w' hI.ph.bel) hI.ph.kp HS9.out.1)
            have HI := Veil.mk hI
            clear hI
            rw [ha]
            simp only [puts, setAll, List.setIfInBounds_toArray, List.set_cons_zero, List.set_cons_succ]
            go_simp
            go_at_call 12
            refine HX9.out.mono ?_
            rintro e9 w9 ⟨rfl, hb9⟩
            go_simp
            exact hK _ _ (chain_step HI.out hus hbs 17 _ (by show 17 < 41; decide) rfl hbp (val_of rfl rfl) (HI.out.ph.below 17 _ hb0 (by decide) HBA.out hb9) (by simp only [puts, setAll, List.set_cons_zero, List.set_cons_succ, List.setIfInBounds_toArray]))
          refine Steps.consG (fun bb aa w' hbs hb0 hbp hI K hK => ?_) ?_
          · obtain ⟨us, hus, ha, hI⟩ := hI
            obtain ⟨u0, u1, u2, u3, u4, u5, u6, u7, u8, u9, u10, u11, u12, u13, u14, u15, u16, u17, u18, u19, u20, u21, u22, u23, u24, u25, u26, u27, u28, u29, u30, u31, u32, u33, u34, u35, u36, u37, u38, u39, u40, rfl⟩ := lenA41 hus
            have e12 : u12 = (.bool true) := hI.val 12 _ rfl (gen_after 12 (by kernel_rfl) hbp)
            subst e12
            rw [if_pos (show Region.wanted _ _ = true by rw [ha]; exact wanted_of (j := 12) (s := 57) (by kernel_rfl) (by kernel_rfl) (by kernel_rfl))]
            have c0 : w'.cell? ⟨yb2, 0, none⟩ = _ := (hI.ph.kp.box HY29.out rfl).at_ 0
            have c1 : w'.cell? ⟨yb2, 1, none⟩ = _ := (hI.ph.kp.box HY29.out rfl).at_ 1
            have c2 : w'.cell? ⟨yb2, 2, none⟩ = _ := (hI.ph.kp.box HY29.out rfl).at_ 2
            have c3 : w'.cell? ⟨yb2, 3, none⟩ = _ := (hI.ph.kp.box HY29.out rfl).at_ 3
            have HI := Veil.mk hI
            clear hI
            rw [ha]
            simp only [puts, setAll, List.setIfInBounds_toArray, List.set_cons_zero, List.set_cons_succ]
            go_simp
            exact hK _ _ (chain_step HI.out hus hbs 18 _ (by show 18 < 41; decide) rfl hbp (val_of rfl rfl) (HI.out.ph.pure 18 _ hb0 (by decide) HBA.out) (by simp only [puts, setAll, List.set_cons_zero, List.set_cons_succ, List.setIfInBounds_toArray]))
          refine Steps.consG (fun bb aa w' hbs hb0 hbp hI K hK => ?_) ?_
          · obtain ⟨us, hus, ha, hI⟩ := hI
            obtain ⟨u0, u1, u2, u3, u4, u5, u6, u7, u8, u9, u10, u11, u12, u13, u14, u15, u16, u17, u18, u19, u20, u21, u22, u23, u24, u25, u26, u27, u28, u29, u30, u31, u32, u33, u34, u35, u36, u37, u38, u39, u40, rfl⟩ := lenA41 hus
            have e18 : u18 = (RV y.1 y.2) := hI.val 18 _ rfl (gen_after 18 (by kernel_rfl) hbp)
            subst e18
            have e12 : u12 = (.bool true) := hI.val 12 _ rfl (gen_after 12 (by kernel_rfl) hbp)
            subst e12
            rw [if_pos (show Region.wanted _ _ = true by rw [ha]; exact wanted_of (j := 12) (s := 57) (by kernel_rfl) (by kernel_rfl) (by kernel_rfl))]
            have HX9 := Veil.mk (rshown_at (HT9.out w' hI.ph.bel) hI.ph.kp HS9.out.2.1)
            have HI := Veil.mk hI
            clear hI
            rw [ha]
            simp only [puts, setAll, List.setIfInBounds_toArray, List.set_cons_zero, List.set_cons_succ]
            go_simp
            go_at_call 12
            refine HX9.out.mono ?_
            rintro e9 w9 ⟨rfl, hb9⟩
            go_simp
            exact hK _ _ (chain_step HI.out hus hbs 19 _ (by show 19 < 41; decide) rfl hbp (val_of rfl rfl) (HI.out.ph.below 19 _ hb0 (by decide) HBA.out hb9) (by simp only [puts, setAll, List.set_cons_zero, List.set_cons_succ, List.setIfInBounds_toArray]))
          refine Steps.consG (fun bb aa w' hbs hb0 hbp hI K hK => ?_) ?_
          · obtain ⟨us, hus, ha, hI⟩ := hI
            obtain ⟨u0, u1, u2, u3, u4, u5, u6, u7, u8, u9, u10, u11, u12, u13, u14, u15, u16, u17, u18, u19, u20, u21, u22, u23, u24, u25, u26, u27, u28, u29, u30, u31, u32, u33, u34, u35, u36, u37, u38, u39, u40, rfl⟩ := lenA41 hus
            have e17 : u17 = (.string sv) := hI.val 17 _ rfl (gen_after 17 (by kernel_rfl) hbp)
            subst e17
            have e19 : u19 = (.string sw) := hI.val 19 _ rfl (gen_after 19 (by kernel_rfl) hbp)
            subst e19
            have e12 : u12 = (.bool true) := hI.val 12 _ rfl (gen_after 12 (by kernel_rfl) hbp)
            subst e12
            rw [if_pos (show Region.wanted _ _ = true by rw [ha]; exact wanted_of (j := 12) (s := 57) (by kernel_rfl) (by kernel_rfl) (by kernel_rfl))]
            have HI := Veil.mk hI
            clear hI
            rw [ha]
            simp only [puts, setAll, List.setIfInBounds_toArray, List.set_cons_zero, List.set_cons_succ]
            go_simp
            exact hK _ _ (chain_step HI.out hus hbs 20 _ (by show 20 < 41; decide) rfl hbp (val_of rfl rfl) (HI.out.ph.pure 20 _ hb0 (by decide) HBA.out) (by simp only [puts, setAll, List.set_cons_zero, List.set_cons_succ, List.setIfInBounds_toArray]))
          refine Steps.consG (fun bb aa w' hbs hb0 hbp hI K hK => ?_) ?_
          · obtain ⟨us, hus, ha, hI⟩ := hI
            obtain ⟨u0, u1, u2, u3, u4, u5, u6, u7, u8, u9, u10, u11, u12, u13, u14, u15, u16, u17, u18, u19, u20, u21, u22, u23, u24, u25, u26, u27, u28, u29, u30, u31, u32, u33, u34, u35, u36, u37, u38, u39, u40, rfl⟩ := lenA41 hus
            have e15 : u15 = (.bool (sv.toList == sw.toList)) := hI.val 15 _ rfl (gen_after 15 (by kernel_rfl) hbp)
            subst e15
            have e20 : u20 = (.bool (sv.toList == sw.toList)) := hI.val 20 _ rfl (gen_after 20 (by kernel_rfl) hbp)
            subst e20
            have e12 : u12 = (.bool true) := hI.val 12 _ rfl (gen_after 12 (by kernel_rfl) hbp)
            subst e12
            rw [if_pos (show Region.wanted _ _ = true by rw [ha]; exact wanted_of (j := 12) (s := 57) (by kernel_rfl) (by kernel_rfl) (by kernel_rfl))]
            have HI := Veil.mk hI
            clear hI
            rw [ha]
            simp only [puts, setAll, List.setIfInBounds_toArray, List.set_cons_zero, List.set_cons_succ]
            go_simp
            exact hK _ _ (chain_step HI.out hus hbs 21 _ (by show 21 < 41; decide) rfl hbp (val_of rfl rfl) (HI.out.ph.pure 21 _ hb0 (by decide) HBA.out) (by simp only [puts, setAll, List.set_cons_zero, List.set_cons_succ, List.setIfInBounds_toArray]))
          refine Steps.cons rfl (fun bb aa w' hbs hb0 hbp hI K hK => ?_) ?_
          · obtain ⟨us, hus, ha, hI⟩ := hI
            obtain ⟨u0, u1, u2, u3, u4, u5, u6, u7, u8, u9, u10, u11, u12, u13, u14, u15, u16, u17, u18, u19, u20, u21, u22, u23, u24, u25, u26, u27, u28, u29, u30, u31, u32, u33, u34, u35, u36, u37, u38, u39, u40, rfl⟩ := lenA41 hus
            have e12 : u12 = (.bool true) := hI.val 12 _ rfl (gen_after 12 (by kernel_rfl) hbp)
            subst e12
            have e21 : u21 = (.bool true) := hI.val 21 _ rfl (gen_after 21 (by kernel_rfl) hbp)
            subst e21
            have HI := Veil.mk hI
            clear hI
            rw [ha]
            simp only [puts, setAll, List.setIfInBounds_toArray, List.set_cons_zero, List.set_cons_succ]
            go_simp
            exact hK _ _ (chain_step HI.out hus hbs 22 _ (by show 22 < 41; decide) rfl hbp (val_of rfl rfl) (HI.out.ph.pure 22 _ hb0 (by decide) HBA.out) (by simp only [puts, setAll, List.set_cons_zero, List.set_cons_succ, List.setIfInBounds_toArray]))
          refine Steps.cons rfl (fun bb aa w' hbs hb0 hbp hI K hK => ?_) ?_
          · obtain ⟨us, hus, ha, hI⟩ := hI
            obtain ⟨u0, u1, u2, u3, u4, u5, u6, u7, u8, u9, u10, u11, u12, u13, u14, u15, u16, u17, u18, u19, u20, u21, u22, u23, u24, u25, u26, u27, u28, u29, u30, u31, u32, u33, u34, u35, u36, u37, u38, u39, u40, rfl⟩ := lenA41 hus
            have e22 : u22 = (.bool true) := hI.val 22 _ rfl (gen_after 22 (by kernel_rfl) hbp)
            subst e22
            have HI := Veil.mk hI
            clear hI
            rw [ha]
            simp only [puts, setAll, List.setIfInBounds_toArray, List.set_cons_zero, List.set_cons_succ]
            go_simp
            exact hK _ _ (chain_step HI.out hus hbs 23 _ (by show 23 < 41; decide) rfl hbp (val_of rfl rfl) (HI.out.ph.pure 23 _ hb0 (by decide) HBA.out) (by simp only [puts, setAll, List.set_cons_zero, List.set_cons_succ, List.setIfInBounds_toArray]))
          refine Steps.consG (fun bb aa w' hbs hb0 hbp hI K hK => ?_) ?_
          · obtain ⟨us, hus, ha, hI⟩ := hI
            obtain ⟨u0, u1, u2, u3, u4, u5, u6, u7, u8, u9, u10, u11, u12, u13, u14, u15, u16, u17, u18, u19, u20, u21, u22, u23, u24, u25, u26, u27, u28, u29, u30, u31, u32, u33, u34, u35, u36, u37, u38, u39, u40, rfl⟩ := lenA41 hus
            have e23 : u23 = (.bool true) := hI.val 23 _ rfl (gen_after 23 (by kernel_rfl) hbp)
            subst e23
            rw [if_pos (show Region.wanted _ _ = true by rw [ha]; exact wanted_of (j := 23) (s := 68) (by kernel_rfl) (by kernel_rfl) (by kernel_rfl))]
            have HI := Veil.mk hI
            clear hI
            rw [ha]
            simp only [puts, setAll, List.setIfInBounds_toArray, List.set_cons_zero, List.set_cons_succ]
            go_simp
            exact hK _ _ (chain_step HI.out hus hbs 24 _ (by show 24 < 41; decide) rfl hbp (val_of rfl rfl) (HI.out.ph.pure 24 _ hb0 (by decide) HBA.out) (by simp only [puts, setAll, List.set_cons_zero, List.set_cons_succ, List.setIfInBounds_toArray]))
          refine Steps.consG (fun bb aa w' hbs hb0 hbp hI K hK => ?_) ?_
          · obtain ⟨us, hus, ha, hI⟩ := hI
            obtain ⟨u0, u1, u2, u3, u4, u5, u6, u7, u8, u9, u10, u11, u12, u13, u14, u15, u16, u17, u18, u19, u20, u21, u22, u23, u24, u25, u26, u27, u28, u29, u30, u31, u32, u33, u34, u35, u36, u37, u38, u39, u40, rfl⟩ := lenA41 hus
            have e23 : u23 = (.bool true) := hI.val 23 _ rfl (gen_after 23 (by kernel_rfl) hbp)
            subst e23
            rw [if_pos (show Region.wanted _ _ = true by rw [ha]; exact wanted_of (j := 23) (s := 68) (by kernel_rfl) (by kernel_rfl) (by kernel_rfl))]
            have HI := Veil.mk hI
            clear hI
            rw [ha]
            simp only [puts, setAll, List.setIfInBounds_toArray, List.set_cons_zero, List.set_cons_succ]
            go_simp
            exact hK _ _ (chain_step HI.out hus hbs 25 _ (by show 25 < 41; decide) rfl hbp (val_of rfl rfl) (HI.out.ph.pure 25 _ hb0 (by decide) HBA.out) (by simp only [puts, setAll, List.set_cons_zero, List.set_cons_succ, List.setIfInBounds_toArray]))
          refine Steps.consG (fun bb aa w' hbs hb0 hbp hI K hK => ?_) ?_
          · obtain ⟨us, hus, ha, hI⟩ := hI
            obtain ⟨u0, u1, u2, u3, u4, u5, u6, u7, u8, u9, u10, u11, u12, u13, u14, u15, u16, u17, u18, u19, u20, u21, u22, u23, u24, u25, u26, u27, u28, u29, u30, u31, u32, u33, u34, u35, u36, u37, u38, u39, u40, rfl⟩ := lenA41 hus
            have e23 : u23 = (.bool true) := hI.val 23 _ rfl (gen_after 23 (by kernel_rfl) hbp)
            subst e23
            rw [if_pos (show Region.wanted _ _ = true by rw [ha]; exact wanted_of (j := 23) (s := 68) (by kernel_rfl) (by kernel_rfl) (by kernel_rfl))]
            have c0 : w'.cell? ⟨zb, 0, none⟩ = _ := (hI.ph.kp.box HZ9.out rfl).at_ 0
            have c1 : w'.cell? ⟨zb, 1, none⟩ = _ := (hI.ph.kp.box HZ9.out rfl).at_ 1
            have c2 : w'.cell? ⟨zb, 2, none⟩ = _ := (hI.ph.kp.box HZ9.out rfl).at_ 2
            have HI := Veil.mk hI
            clear hI
            rw [ha]
            simp only [puts, setAll, List.setIfInBounds_toArray, List.set_cons_zero, List.set_cons_succ]
            go_simp
            exact hK _ _ (chain_step HI.out hus hbs 26 _ (by show 26 < 41; decide) rfl hbp (val_of rfl rfl) (HI.out.ph.pure 26 _ hb0 (by decide) HBA.out) (by simp only [puts, setAll, List.set_cons_zero, List.set_cons_succ, List.setIfInBounds_toArray]))
          refine Steps.consG (fun bb aa w' hbs hb0 hbp hI K hK => ?_) ?_
          · obtain ⟨us, hus, ha, hI⟩ := hI
            obtain ⟨u0, u1, u2, u3, u4, u5, u6, u7, u8, u9, u10, u11, u12, u13, u14, u15, u16, u17, u18, u19, u20, u21, u22, u23, u24, u25, u26, u27, u28, u29, u30, u31, u32, u33, u34, u35, u36, u37, u38, u39, u40, rfl⟩ := lenA41 hus
            have e23 : u23 = (.bool true) := hI.val 23 _ rfl (gen_after 23 (by kernel_rfl) hbp)
            subst e23
            rw [if_pos (show Region.wanted _ _ = true by rw [ha]; exact wanted_of (j := 23) (s := 68) (by kernel_rfl) (by kernel_rfl) (by kernel_rfl))]
            have c0 : w'.cell? ⟨zb2, 0, none⟩ = _ := (hI.ph.kp.box HZ29.out rfl).at_ 0
            have c1 : w'.cell? ⟨zb2, 1, none⟩ = _ := (hI.ph.kp.box HZ29.out rfl).at_ 1
            have c2 : w'.cell? ⟨zb2, 2, none⟩ = _ := (hI.ph.kp.box HZ29.out rfl).at_ 2
            have HI := Veil.mk hI
            clear hI
            rw [ha]
            simp only [puts, setAll, List.setIfInBounds_toArray, List.set_cons_zero, List.set_cons_succ]
            go_simp
            exact hK _ _ (chain_step HI.out hus hbs 27 _ (by show 27 < 41; decide) rfl hbp (val_of rfl rfl) (HI.out.ph.pure 27 _ hb0 (by decide) HBA.out) (by simp only [puts, setAll, List.set_cons_zero, List.set_cons_succ, List.setIfInBounds_toArray]))
          refine Steps.consG (fun bb aa w' hbs hb0 hbp hI K hK => ?_) ?_
          · obtain ⟨us, hus, ha, hI⟩ := hI
            obtain ⟨u0, u1, u2, u3, u4, u5, u6, u7, u8, u9, u10, u11, u12, u13, u14, u15, u16, u17, u18, u19, u20, u21, u22, u23, u24, u25, u26, u27, u28, u29, u30, u31, u32, u33, u34, u35, u36, u37, u38, u39, u40, rfl⟩ := lenA41 hus
            have e26 : u26 = (valV v) := hI.val 26 _ rfl (gen_after 26 (by kernel_rfl) hbp)
            subst e26
            have e27 : u27 = (valV v2) := hI.val 27 _ rfl (gen_after 27 (by kernel_rfl) hbp)
            subst e27
            have e23 : u23 = (.bool true) := hI.val 23 _ rfl (gen_after 23 (by kernel_rfl) hbp)
            subst e23
            rw [if_pos (show Region.wanted _ _ = true by rw [ha]; exact wanted_of (j := 23) (s := 68) (by kernel_rfl) (by kernel_rfl) (by kernel_rfl))]
            have HI := Veil.mk hI
            clear hI
            rw [ha]
            simp only [puts, setAll, List.setIfInBounds_toArray, List.set_cons_zero, List.set_cons_succ]
            go_simp
            exact hK _ _ (chain_step HI.out hus hbs 28 _ (by show 28 < 41; decide) rfl hbp (none_of rfl) (HI.out.ph.p28 hb0 HBA.out) (by simp only [puts, setAll, List.set_cons_zero, List.set_cons_succ, List.setIfInBounds_toArray]))
          refine Steps.consG (fun bb aa w' hbs hb0 hbp hI K hK => ?_) ?_
          · obtain ⟨us, hus, ha, hI⟩ := hI
            obtain ⟨u0, u1, u2, u3, u4, u5, u6, u7, u8, u9, u10, u11, u12, u13, u14, u15, u16, u17, u18, u19, u20, u21, u22, u23, u24, u25, u26, u27, u28, u29, u30, u31, u32, u33, u34, u35, u36, u37, u38, u39, u40, rfl⟩ := lenA41 hus
            have e25 : u25 = (.pointer (some ⟨m, 0, none⟩)) := hI.val 25 _ rfl (gen_after 25 (by kernel_rfl) hbp)
            subst e25
            have e23 : u23 = (.bool true) := hI.val 23 _ rfl (gen_after 23 (by kernel_rfl) hbp)
            subst e23
            rw [if_pos (show Region.wanted _ _ = true by rw [ha]; exact wanted_of (j := 23) (s := 68) (by kernel_rfl) (by kernel_rfl) (by kernel_rfl))]
            obtain ⟨gq, hgq, hrq⟩ := hI.ph.s28 (gen_after 28 (by kernel_rfl) hbp)
            replace hgq : u28 = .slice (some ⟨gq, 0, none⟩) 2 2 := hgq
            subst hgq
            have HX9 := Veil.mk ((hI.ph.m0 hb0).array _ [v, v2] hrq (by simp) HLN.out)
            clear hrq
            have HI := Veil.mk hI
            clear hI
            rw [ha]
            simp only [puts, setAll, List.setIfInBounds_toArray, List.set_cons_zero, List.set_cons_succ]
            go_simp
            go_at_call 24
            refine HX9.out.mono ?_
            rintro e9 w9 ⟨rfl, b9, ev9, -, hm9, hr9, hb9, hk9, -, -⟩
            go_simp
            exact hK _ _ (chain_step HI.out hus hbs 29 _ (by show 29 < 41; decide) rfl hbp (val_of rfl rfl) (HI.out.ph.p29 _ hb0 HBA.out hm9 hr9 hk9 hb9) (by simp only [puts, setAll, List.set_cons_zero, List.set_cons_succ, List.setIfInBounds_toArray]))
          refine Steps.consG (fun bb aa w' hbs hb0 hbp hI K hK => ?_) ?_
          · obtain ⟨us, hus, ha, hI⟩ := hI
            obtain ⟨u0, u1, u2, u3, u4, u5, u6, u7, u8, u9, u10, u11, u12, u13, u14, u15, u16, u17, u18, u19, u20, u21, u22, u23, u24, u25, u26, u27, u28, u29, u30, u31, u32, u33, u34, u35, u36, u37, u38, u39, u40, rfl⟩ := lenA41 hus
            have e24 : u24 = (.pointer (some ⟨m, 0, none⟩)) := hI.val 24 _ rfl (gen_after 24 (by kernel_rfl) hbp)
            subst e24
            have e29 : u29 = (valV (9, (os3.length : Int) + 1, ⟨#[]⟩)) := hI.val 29 _ rfl (gen_after 29 (by kernel_rfl) hbp)
            subst e29
            have e23 : u23 = (.bool true) := hI.val 23 _ rfl (gen_after 23 (by kernel_rfl) hbp)
            subst e23
            rw [if_pos (show Region.wanted _ _ = true by rw [ha]; exact wanted_of (j := 23) (s := 68) (by kernel_rfl) (by kernel_rfl) (by kernel_rfl))]
            have G29 := gen_after 29 (by kernel_rfl) hbp
            obtain ⟨b9, ev9, hm9, hr9⟩ := hI.ph.m1 G29
            have HX9 := Veil.mk (two_shown HSZ.out.1 HSZ.out.2 hm9 hr9 (HT9.out w' hI.ph.bel) hI.ph.kp HS9.out.2.2.1 HS9.out.2.2.2)
            clear hm9 hr9 G29
            have HI := Veil.mk hI
            clear hI
            rw [ha]
            simp only [puts, setAll, List.setIfInBounds_toArray, List.set_cons_zero, List.set_cons_succ]
            go_simp
            go_at_call 11
            refine HX9.out.mono ?_
            rintro e9 w9 ⟨rfl, hb9⟩
            go_simp
            exact hK _ _ (chain_step HI.out hus hbs 30 _ (by show 30 < 41; decide) rfl hbp (val_of rfl rfl) (HI.out.ph.below 30 _ hb0 (by decide) HBA.out hb9) (by simp only [puts, setAll, List.set_cons_zero, List.set_cons_succ, List.setIfInBounds_toArray]))
          refine Steps.consG (fun bb aa w' hbs hb0 hbp hI K hK => ?_) ?_
          · obtain ⟨us, hus, ha, hI⟩ := hI
            obtain ⟨u0, u1, u2, u3, u4, u5, u6, u7, u8, u9, u10, u11, u12, u13, u14, u15, u16, u17, u18, u19, u20, u21, u22, u23, u24, u25, u26, u27, u28, u29, u30, u31, u32, u33, u34, u35, u36, u37, u38, u39, u40, rfl⟩ := lenA41 hus
            have e23 : u23 = (.bool true) := hI.val 23 _ rfl (gen_after 23 (by kernel_rfl) hbp)
            subst e23
            rw [if_pos (show Region.wanted _ _ = true by rw [ha]; exact wanted_of (j := 23) (s := 68) (by kernel_rfl) (by kernel_rfl) (by kernel_rfl))]
            have c0 : w'.cell? ⟨yb, 0, none⟩ = _ := (hI.ph.kp.box HY9.out rfl).at_ 0
            have c1 : w'.cell? ⟨yb, 1, none⟩ = _ := (hI.ph.kp.box HY9.out rfl).at_ 1
            have c2 : w'.cell? ⟨yb, 2, none⟩ = _ := (hI.ph.kp.box HY9.out rfl).at_ 2
            have c3 : w'.cell? ⟨yb, 3, none⟩ = _ := (hI.ph.kp.box HY9.out rfl).at_ 3
            have HI := Veil.mk hI
            clear hI
            rw [ha]
            simp only [puts, setAll, List.setIfInBounds_toArray, List.set_cons_zero, List.set_cons_succ]
            go_simp
            exact hK _ _ (chain_step HI.out hus hbs 31 _ (by show 31 < 41; decide) rfl hbp (val_of rfl rfl) (HI.out.ph.pure 31 _ hb0 (by decide) HBA.out) (by simp only [puts, setAll, List.set_cons_zero, List.set_cons_succ, List.setIfInBounds_toArray]))
          refine Steps.consG (fun bb aa w' hbs hb0 hbp hI K hK => ?_) ?_
          · obtain ⟨us, hus, ha, hI⟩ := hI
            obtain ⟨u0, u1, u2, u3, u4, u5, u6, u7, u8, u9, u10, u11, u12, u13, u14, u15, u16, u17, u18, u19, u20, u21, u22, u23, u24, u25, u26, u27, u28, u29, u30, u31, u32, u33, u34, u35, u36, u37, u38, u39, u40, rfl⟩ := lenA41 hus
            have e23 : u23 = (.bool true) := hI.val 23 _ rfl (gen_after 23 (by kernel_rfl) hbp)
            subst e23
            rw [if_pos (show Region.wanted _ _ = true by rw [ha]; exact wanted_of (j := 23) (s := 68) (by kernel_rfl) (by kernel_rfl) (by kernel_rfl))]
            have c0 : w'.cell? ⟨yb2, 0, none⟩ = _ := (hI.ph.kp.box HY29.out rfl).at_ 0
            have c1 : w'.cell? ⟨yb2, 1, none⟩ = _ := (hI.ph.kp.box HY29.out rfl).at_ 1
            have c2 : w'.cell? ⟨yb2, 2, none⟩ = _ := (hI.ph.kp.box HY29.out rfl).at_ 2
            have c3 : w'.cell? ⟨yb2, 3, none⟩ = _ := (hI.ph.kp.box HY29.out rfl).at_ 3
            have HI := Veil.mk hI
            clear hI
            rw [ha]
            simp only [puts, setAll, List.setIfInBounds_toArray, List.set_cons_zero, List.set_cons_succ]
            go_simp
            exact hK _ _ (chain_step HI.out hus hbs 32 _ (by show 32 < 41; decide) rfl hbp (val_of rfl rfl) (HI.out.ph.pure 32 _ hb0 (by decide) HBA.out) (by simp only [puts, setAll, List.set_cons_zero, List.set_cons_succ, List.setIfInBounds_toArray]))
          refine Steps.consG (fun bb aa w' hbs hb0 hbp hI K hK => ?_) ?_
          · obtain ⟨us, hus, ha, hI⟩ := hI
            obtain ⟨u0, u1, u2, u3, u4, u5, u6, u7, u8, u9, u10, u11, u12, u13, u14, u15, u16, u17, u18, u19, u20, u21, u22, u23, u24, u25, u26, u27, u28, u29, u30, u31, u32, u33, u34, u35, u36, u37, u38, u39, u40, rfl⟩ := lenA41 hus
            have e31 : u31 = (RV x.1 x.2) := hI.val 31 _ rfl (gen_after 31 (by kernel_rfl) hbp)
            subst e31
            have e32 : u32 = (RV y.1 y.2) := hI.val 32 _ rfl (gen_after 32 (by kernel_rfl) hbp)
            subst e32
            have e23 : u23 = (.bool true) := hI.val 23 _ rfl (gen_after 23 (by kernel_rfl) hbp)
            subst e23
            rw [if_pos (show Region.wanted _ _ = true by rw [ha]; exact wanted_of (j := 23) (s := 68) (by kernel_rfl) (by kernel_rfl) (by kernel_rfl))]
            have HI := Veil.mk hI
            clear hI
            rw [ha]
            simp only [puts, setAll, List.setIfInBounds_toArray, List.set_cons_zero, List.set_cons_succ]
            go_simp
            exact hK _ _ (chain_step HI.out hus hbs 33 _ (by show 33 < 41; decide) rfl hbp (none_of rfl) (HI.out.ph.p33 hb0 HBA.out) (by simp only [puts, setAll, List.set_cons_zero, List.set_cons_succ, List.setIfInBounds_toArray]))
          refine Steps.consG (fun bb aa w' hbs hb0 hbp hI K hK => ?_) ?_
          · obtain ⟨us, hus, ha, hI⟩ := hI
            obtain ⟨u0, u1, u2, u3, u4, u5, u6, u7, u8, u9, u10, u11, u12, u13, u14, u15, u16, u17, u18, u19, u20, u21, u22, u23, u24, u25, u26, u27, u28, u29, u30, u31, u32, u33, u34, u35, u36, u37, u38, u39, u40, rfl⟩ := lenA41 hus
            have e23 : u23 = (.bool true) := hI.val 23 _ rfl (gen_after 23 (by kernel_rfl) hbp)
            subst e23
            rw [if_pos (show Region.wanted _ _ = true by rw [ha]; exact wanted_of (j := 23) (s := 68) (by kernel_rfl) (by kernel_rfl) (by kernel_rfl))]
            have G33 := gen_after 33 (by kernel_rfl) hbp
            obtain ⟨g33, hg33, -⟩ := hI.ph.s33 G33
            replace hg33 : u33 = .slice (some ⟨g33, 0, none⟩) 2 2 := hg33
            subst hg33
            have HI := Veil.mk hI
            clear hI
            rw [ha]
            simp only [puts, setAll, List.setIfInBounds_toArray, List.set_cons_zero, List.set_cons_succ]
            go_simp
            exact hK _ _ (chain_step HI.out hus hbs 34 (.agg (aObj (.slice (some ⟨g33, 0, none⟩) 2 2))) (by show 34 < 41; decide) rfl hbp (none_of rfl) (HI.out.ph.p34 hb0 G33) (by simp only [puts, setAll, List.set_cons_zero, List.set_cons_succ, List.setIfInBounds_toArray]))
          refine Steps.consG (fun bb aa w' hbs hb0 hbp hI K hK => ?_) ?_
          · obtain ⟨us, hus, ha, hI⟩ := hI
            obtain ⟨u0, u1, u2, u3, u4, u5, u6, u7, u8, u9, u10, u11, u12, u13, u14, u15, u16, u17, u18, u19, u20, u21, u22, u23, u24, u25, u26, u27, u28, u29, u30, u31, u32, u33, u34, u35, u36, u37, u38, u39, u40, rfl⟩ := lenA41 hus
            have e23 : u23 = (.bool true) := hI.val 23 _ rfl (gen_after 23 (by kernel_rfl) hbp)
            subst e23
            rw [if_pos (show Region.wanted _ _ = true by rw [ha]; exact wanted_of (j := 23) (s := 68) (by kernel_rfl) (by kernel_rfl) (by kernel_rfl))]
            obtain ⟨G33, hgq⟩ := hI.ph.s34 (gen_after 34 (by kernel_rfl) hbp)
            replace hgq : u34 = .agg (aObj u33) := hgq
            subst hgq
            have HI := Veil.mk hI
            clear hI
            rw [ha]
            simp only [puts, setAll, List.setIfInBounds_toArray, List.set_cons_zero, List.set_cons_succ]
            go_simp
            exact hK _ _ (chain_step HI.out hus hbs 35 _ (by show 35 < 41; decide) rfl hbp (none_of rfl) (HI.out.ph.p35 hb0 G33 HBA.out u33 rfl) (by simp only [puts, setAll, List.set_cons_zero, List.set_cons_succ, List.setIfInBounds_toArray]))
          refine Steps.consG (fun bb aa w' hbs hb0 hbp hI K hK => ?_) ?_
          · obtain ⟨us, hus, ha, hI⟩ := hI
            obtain ⟨u0, u1, u2, u3, u4, u5, u6, u7, u8, u9, u10, u11, u12, u13, u14, u15, u16, u17, u18, u19, u20, u21, u22, u23, u24, u25, u26, u27, u28, u29, u30, u31, u32, u33, u34, u35, u36, u37, u38, u39, u40, rfl⟩ := lenA41 hus
            have e23 : u23 = (.bool true) := hI.val 23 _ rfl (gen_after 23 (by kernel_rfl) hbp)
            subst e23
            rw [if_pos (show Region.wanted _ _ = true by rw [ha]; exact wanted_of (j := 23) (s := 68) (by kernel_rfl) (by kernel_rfl) (by kernel_rfl))]
            have G35 := gen_after 35 (by kernel_rfl) hbp
            obtain ⟨-, g35, hg35, -⟩ := hI.ph.s35 G35
            replace hg35 : u35 = .pointer (some ⟨g35, 0, none⟩) := hg35
            subst hg35
            have HI := Veil.mk hI
            clear hI
            rw [ha]
            simp only [puts, setAll, List.setIfInBounds_toArray, List.set_cons_zero, List.set_cons_succ]
            go_simp
            exact hK _ _ (chain_step HI.out hus hbs 36 (.agg #[.int .i64 9, .int .i64 0, .string ⟨#[]⟩, .pointer (some ⟨g35, 0, none⟩)]) (by show 36 < 41; decide) rfl hbp (none_of rfl) (HI.out.ph.p36 hb0 G35) (by simp only [puts, setAll, List.set_cons_zero, List.set_cons_succ, List.setIfInBounds_toArray]))
          refine Steps.consG (fun bb aa w' hbs hb0 hbp hI K hK => ?_) ?_
          · obtain ⟨us, hus, ha, hI⟩ := hI
            obtain ⟨u0, u1, u2, u3, u4, u5, u6, u7, u8, u9, u10, u11, u12, u13, u14, u15, u16, u17, u18, u19, u20, u21, u22, u23, u24, u25, u26, u27, u28, u29, u30, u31, u32, u33, u34, u35, u36, u37, u38, u39, u40, rfl⟩ := lenA41 hus
            have e23 : u23 = (.bool true) := hI.val 23 _ rfl (gen_after 23 (by kernel_rfl) hbp)
            subst e23
            rw [if_pos (show Region.wanted _ _ = true by rw [ha]; exact wanted_of (j := 23) (s := 68) (by kernel_rfl) (by kernel_rfl) (by kernel_rfl))]
            obtain ⟨G35, hgq⟩ := hI.ph.s36 (gen_after 36 (by kernel_rfl) hbp)
            obtain ⟨G33, g35, hg35, hbx9⟩ := hI.ph.s35 G35
            obtain ⟨g33, hg33, hr9⟩ := hI.ph.s33 G33
            replace hg35 : u35 = .pointer (some ⟨g35, 0, none⟩) := hg35
            subst hg35
            replace hgq : u36 = RV (9, 0, ⟨#[]⟩) (some ⟨g35, 0, none⟩) := hgq
            subst hgq
            have HX9 := Veil.mk (two_rshow HSZ.out.1 HSZ.out.2 hbx9 hr9 (HT9.out w' hI.ph.bel) hI.ph.kp HS9.out.2.2.1 HS9.out.2.2.2)
            clear hbx9 hr9 hg33
            have HI := Veil.mk hI
            clear hI
            rw [ha]
            simp only [puts, setAll, List.setIfInBounds_toArray, List.set_cons_zero, List.set_cons_succ]
            go_simp
            go_at_call 12
            refine HX9.out.mono ?_
            rintro e9 w9 ⟨rfl, hb9⟩
            go_simp
            exact hK _ _ (chain_step HI.out hus hbs 37 _ (by show 37 < 41; decide) rfl hbp (val_of rfl rfl) (HI.out.ph.below 37 _ hb0 (by decide) HBA.out hb9) (by simp only [puts, setAll, List.set_cons_zero, List.set_cons_succ, List.setIfInBounds_toArray]))
          refine Steps.consG (fun bb aa w' hbs hb0 hbp hI K hK => ?_) ?_
          · obtain ⟨us, hus, ha, hI⟩ := hI
            obtain ⟨u0, u1, u2, u3, u4, u5, u6, u7, u8, u9, u10, u11, u12, u13, u14, u15, u16, u17, u18, u19, u20, u21, u22, u23, u24, u25, u26, u27, u28, u29, u30, u31, u32, u33, u34, u35, u36, u37, u38, u39, u40, rfl⟩ := lenA41 hus
            have e30 : u30 = (.string (arrS [tv, tw])) := hI.val 30 _ rfl (gen_after 30 (by kernel_rfl) hbp)
            subst e30
            have e37 : u37 = (.string (arrS [tv, tw])) := hI.val 37 _ rfl (gen_after 37 (by kernel_rfl) hbp)
            subst e37
            have e23 : u23 = (.bool true) := hI.val 23 _ rfl (gen_after 23 (by kernel_rfl) hbp)
            subst e23
            rw [if_pos (show Region.wanted _ _ = true by rw [ha]; exact wanted_of (j := 23) (s := 68) (by kernel_rfl) (by kernel_rfl) (by kernel_rfl))]
            have HI := Veil.mk hI
            clear hI
            rw [ha]
            simp only [puts, setAll, List.setIfInBounds_toArray, List.set_cons_zero, List.set_cons_succ]
            go_simp
            exact hK _ _ (chain_step HI.out hus hbs 38 _ (by show 38 < 41; decide) rfl hbp (val_of rfl rfl) (HI.out.ph.pure 38 _ hb0 (by decide) HBA.out) (by simp only [puts, setAll, List.set_cons_zero, List.set_cons_succ, List.setIfInBounds_toArray]))
          refine Steps.cons rfl (fun bb aa w' hbs hb0 hbp hI K hK => ?_) ?_
          · obtain ⟨us, hus, ha, hI⟩ := hI
            obtain ⟨u0, u1, u2, u3, u4, u5, u6, u7, u8, u9, u10, u11, u12, u13, u14, u15, u16, u17, u18, u19, u20, u21, u22, u23, u24, u25, u26, u27, u28, u29, u30, u31, u32, u33, u34, u35, u36, u37, u38, u39, u40, rfl⟩ := lenA41 hus
            have e23 : u23 = (.bool true) := hI.val 23 _ rfl (gen_after 23 (by kernel_rfl) hbp)
            subst e23
            have e38 : u38 = (.bool true) := hI.val 38 _ rfl (gen_after 38 (by kernel_rfl) hbp)
            subst e38
            have HI := Veil.mk hI
            clear hI
            rw [ha]
            simp only [puts, setAll, List.setIfInBounds_toArray, List.set_cons_zero, List.set_cons_succ]
            go_simp
            exact hK _ _ (chain_step HI.out hus hbs 39 _ (by show 39 < 41; decide) rfl hbp (val_of rfl rfl) (HI.out.ph.pure 39 _ hb0 (by decide) HBA.out) (by simp only [puts, setAll, List.set_cons_zero, List.set_cons_succ, List.setIfInBounds_toArray]))
          refine Steps.cons rfl (fun bb aa w' hbs hb0 hbp hI K hK => ?_) ?_
          · obtain ⟨us, hus, ha, hI⟩ := hI
            obtain ⟨u0, u1, u2, u3, u4, u5, u6, u7, u8, u9, u10, u11, u12, u13, u14, u15, u16, u17, u18, u19, u20, u21, u22, u23, u24, u25, u26, u27, u28, u29, u30, u31, u32, u33, u34, u35, u36, u37, u38, u39, u40, rfl⟩ := lenA41 hus
            have e39 : u39 = (.bool true) := hI.val 39 _ rfl (gen_after 39 (by kernel_rfl) hbp)
            subst e39
            have HI := Veil.mk hI
            clear hI
            rw [ha]
            simp only [puts, setAll, List.setIfInBounds_toArray, List.set_cons_zero, List.set_cons_succ]
            go_simp
            exact hK _ _ (chain_step HI.out hus hbs 40 _ (by show 40 < 41; decide) rfl hbp (val_of rfl rfl) (HI.out.ph.pure 40 _ hb0 (by decide) HBA.out) (by simp only [puts, setAll, List.set_cons_zero, List.set_cons_succ, List.setIfInBounds_toArray]))
          exact Steps.nil
        · intro us wF hus dd hD2 hJ
          obtain ⟨p0, p1, p2, p3, p4, p5, p6, p7, p8, p9, p10, p11, p12, p13, p14, p15, p16, p17, p18, p19, p20, p21, p22, p23, p24, p25, p26, p27, p28, p29, p30, p31, p32, p33, p34, p35, p36, p37, p38, p39, p40, rfl⟩ := lenA41 hus
          have hph := hJ.ph
          have e0 : p0 = (.string sv) := hJ.val 0 _ rfl (hD2 0 (by show 0 < 41; decide))
          subst e0
          have e1 : p1 = (.pointer (some ⟨m, 0, none⟩)) := hJ.val 1 _ rfl (hD2 1 (by show 1 < 41; decide))
          subst e1
          have e2 : p2 = (valV v) := hJ.val 2 _ rfl (hD2 2 (by show 2 < 41; decide))
          subst e2
          have e3 : p3 = (.string sv) := hJ.val 3 _ rfl (hD2 3 (by show 3 < 41; decide))
          subst e3
          have e4 : p4 = (.bool true) := hJ.val 4 _ rfl (hD2 4 (by show 4 < 41; decide))
          subst e4
          have e5 : p5 = (.bool true) := hJ.val 5 _ rfl (hD2 5 (by show 5 < 41; decide))
          subst e5
          have e6 : p6 = (.string sw) := hJ.val 6 _ rfl (hD2 6 (by show 6 < 41; decide))
          subst e6
          have e7 : p7 = (.pointer (some ⟨m, 0, none⟩)) := hJ.val 7 _ rfl (hD2 7 (by show 7 < 41; decide))
          subst e7
          have e8 : p8 = (valV v2) := hJ.val 8 _ rfl (hD2 8 (by show 8 < 41; decide))
          subst e8
          have e9 : p9 = (.string sw) := hJ.val 9 _ rfl (hD2 9 (by show 9 < 41; decide))
          subst e9
          have e10 : p10 = (.bool true) := hJ.val 10 _ rfl (hD2 10 (by show 10 < 41; decide))
          subst e10
          have e11 : p11 = (.bool true) := hJ.val 11 _ rfl (hD2 11 (by show 11 < 41; decide))
          subst e11
          have e12 : p12 = (.bool true) := hJ.val 12 _ rfl (hD2 12 (by show 12 < 41; decide))
          subst e12
          have e13 : p13 = (.string sv) := hJ.val 13 _ rfl (hD2 13 (by show 13 < 41; decide))
          subst e13
          have e14 : p14 = (.string sw) := hJ.val 14 _ rfl (hD2 14 (by show 14 < 41; decide))
          subst e14
          have e15 : p15 = (.bool (sv.toList == sw.toList)) := hJ.val 15 _ rfl (hD2 15 (by show 15 < 41; decide))
          subst e15
          have e16 : p16 = (RV x.1 x.2) := hJ.val 16 _ rfl (hD2 16 (by show 16 < 41; decide))
          subst e16
          have e17 : p17 = (.string sv) := hJ.val 17 _ rfl (hD2 17 (by show 17 < 41; decide))
          subst e17
          have e18 : p18 = (RV y.1 y.2) := hJ.val 18 _ rfl (hD2 18 (by show 18 < 41; decide))
          subst e18
          have e19 : p19 = (.string sw) := hJ.val 19 _ rfl (hD2 19 (by show 19 < 41; decide))
          subst e19
          have e20 : p20 = (.bool (sv.toList == sw.toList)) := hJ.val 20 _ rfl (hD2 20 (by show 20 < 41; decide))
          subst e20
          have e21 : p21 = (.bool true) := hJ.val 21 _ rfl (hD2 21 (by show 21 < 41; decide))
          subst e21
          have e22 : p22 = (.bool true) := hJ.val 22 _ rfl (hD2 22 (by show 22 < 41; decide))
          subst e22
          have e23 : p23 = (.bool true) := hJ.val 23 _ rfl (hD2 23 (by show 23 < 41; decide))
          subst e23
          have e24 : p24 = (.pointer (some ⟨m, 0, none⟩)) := hJ.val 24 _ rfl (hD2 24 (by show 24 < 41; decide))
          subst e24
          have e25 : p25 = (.pointer (some ⟨m, 0, none⟩)) := hJ.val 25 _ rfl (hD2 25 (by show 25 < 41; decide))
          subst e25
          have e26 : p26 = (valV v) := hJ.val 26 _ rfl (hD2 26 (by show 26 < 41; decide))
          subst e26
          have e27 : p27 = (valV v2) := hJ.val 27 _ rfl (hD2 27 (by show 27 < 41; decide))
          subst e27
          have e29 : p29 = (valV (9, (os3.length : Int) + 1, ⟨#[]⟩)) := hJ.val 29 _ rfl (hD2 29 (by show 29 < 41; decide))
          subst e29
          have e30 : p30 = (.string (arrS [tv, tw])) := hJ.val 30 _ rfl (hD2 30 (by show 30 < 41; decide))
          subst e30
          have e31 : p31 = (RV x.1 x.2) := hJ.val 31 _ rfl (hD2 31 (by show 31 < 41; decide))
          subst e31
          have e32 : p32 = (RV y.1 y.2) := hJ.val 32 _ rfl (hD2 32 (by show 32 < 41; decide))
          subst e32
          have e37 : p37 = (.string (arrS [tv, tw])) := hJ.val 37 _ rfl (hD2 37 (by show 37 < 41; decide))
          subst e37
          have e38 : p38 = (.bool true) := hJ.val 38 _ rfl (hD2 38 (by show 38 < 41; decide))
          subst e38
          have e39 : p39 = (.bool true) := hJ.val 39 _ rfl (hD2 39 (by show 39 < 41; decide))
          subst e39
          have e40 : p40 = (.bool true) := hJ.val 40 _ rfl (hD2 40 (by show 40 < 41; decide))
          subst e40
          clear hJ
          have HE := Veil.mk hph.bel
          clear hph hD2
          simp only [puts, setAll, List.setIfInBounds_toArray, List.set_cons_zero, List.set_cons_succ]
          go_wp2
          go_ret
          exact ⟨rfl, HBD.out.trans HE.out⟩
end Go.Proofs.YtgdkjkfbknbgkaaGreatDoor
