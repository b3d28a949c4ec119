/- ShowWoes holds. -/
import Derived.Test.YtgdkjkfbknbgkaaGreatDoorPh
import Derived.Test.YtgdkjkfbknbgkaaGreatDoorQa
import Derived.Test.YtgdkjkfbknbgkaaGreatDoorTie
import Derived.Test.YtgdkjkfbknbgkaaGreatDoorCards
import Derived.Lib.SmallJoins
import Derived.Deep.Slices
import Derived.OpenShut
import Derived.SevenTiedAt
import Derived.ChangeMaps5
namespace Go.Proofs.YtgdkjkfbknbgkaaGreatDoor
open Go Go.RowKit

set_option maxHeartbeats 4000000 in
set_option maxRecDepth 100000 in
theorem woes_01 (a0 a1 a2 : Option Addr) (n0 n1 n2 c0 c1 c2 : Nat) (how : Int) (h0 : ¬ (200 : Int) < (n0 : Int)) (h1 : ¬ (200 : Int) < (n1 : Int)) (h2 : ¬ (200 : Int) < (n2 : Int)) (q1 : (bits .and .i64 how 1 == 1) = false) (q2 : (bits .and .i64 how 2 == 2) = true) (s0 s1 s2 g0 g1 g2 : ByteArray) (w : World) (HS0 : Veil (∀ w', Below w.heap.size w w' → Calls Tryz.prog 15 #[.slice a0 n0 c0] w' fun e w9 => e = .returned (.string s0) ∧ Below w'.heap.size w' w9)) (HS1 : Veil (∀ w', Below w.heap.size w w' → Calls Tryz.prog 15 #[.slice a1 n1 c1] w' fun e w9 => e = .returned (.string s1) ∧ Below w'.heap.size w' w9)) (HG1 : Veil (∀ w', Calls Tryz.prog 16 #[.string s1] w' fun e w9 => e = .returned (.string g1) ∧ Below w'.heap.size w' w9)) (HE1 : Veil ((s1.toList == []) = decide (n1 = 0))) (HS2 : Veil (∀ w', Below w.heap.size w w' → Calls Tryz.prog 15 #[.slice a2 n2 c2] w' fun e w9 => e = .returned (.string s2) ∧ Below w'.heap.size w' w9)) (HG2 : Veil (∀ w', Calls Tryz.prog 16 #[.string s2] w' fun e w9 => e = .returned (.string g2) ∧ Below w'.heap.size w' w9)) (HZZ : Veil (g0.size ≤ 100000 ∧ g1.size ≤ 100000 ∧ g2.size ≤ 100000))  : Calls Tryz.prog 4 #[.agg #[.slice a0 n0 c0, .slice a1 n1 c1, .slice a2 n2 c2], .int .i64 how] w fun e w' => e = .returned (.bool true) ∧ Below w.heap.size w w' := by
  have HFT := Veil.mk (fun W => fit_any W)
  have b1 := Box.new w 39 #[.slice a0 n0 c0, .slice a1 n1 c1, .slice a2 n2 c2]
  have bb : Below w.heap.size w (w.alloc (.cells #[.slice a0 n0 c0, .slice a1 n1 c1, .slice a2 n2 c2] 39)) := (Below.refl _ _).alloc (Nat.le_refl _) _
  obtain ⟨kb, hkb⟩ : ∃ kb, w.heap.size = kb := ⟨_, rfl⟩
  obtain ⟨W0, hW0⟩ : ∃ W0, w.alloc (.cells #[.slice a0 n0 c0, .slice a1 n1 c1, .slice a2 n2 c2] 39) = W0 := ⟨_, rfl⟩
  rw [hW0] at b1 bb
  have HW0 := Veil.mk (And.intro hW0 hkb)
  rw [hkb] at b1
  have HBB := Veil.mk (And.intro bb b1)
  clear hW0 hkb b1 bb
  go_enter Tryz.func4, Tryz.ntmps4
  go_upto_region 1 with (fail)
  rw [HW0.out.1, HW0.out.2]
  go_upto_region 3 with (go_at_call 7; ((with_reducible refine (HFT.out _).mono ?_); rintro e w1 ⟨rfl, hb1⟩; have HB1 := Veil.mk (And.intro (HBB.out.1.trans (hb1.mono HBB.out.1.size)) (HBB.out.2.below hb1)); clear hb1))
  have HC : Veil (∀ W, Below w1.heap.size w1 W → ∀ i : Nat, W.cell? ⟨kb, i, none⟩ = (#[.slice a0 n0 c0, .slice a1 n1 c1, .slice a2 n2 c2] : Array Value)[i]?) := ⟨fun W hb i => (HB1.out.2.below hb).at_ i⟩
  refine wp_region_gen (.val (· = .pointer (some ⟨kb, 0, none⟩)) :: .val (· = .slice a0 n0 c0) :: .val (· = .pointer (some ⟨kb, 1, none⟩)) :: .val (· = .slice a1 n1 c1) :: .val (· = .pointer (some ⟨kb, 2, none⟩)) :: .val (· = .slice a2 n2 c2) :: .val (· = .slice a0 n0 c0) :: .val (· = .slice a1 n1 c1) :: .val (· = .slice a2 n2 c2) :: [] : List Kd) [some 18, some 19, some 20, some 21, some 22, some 23, some 5, some 6, some 7] (curV' _ [some 18, some 19, some 20, some 21, some 22, some 23, some 5, some 6, some 7]) (by kernel_rfl) rfl rfl (puts_cur _ _) ?_ (by kernel_rfl) ?_
  · refine Steps.cons rfl (fun bb aa w' hbs hb0 hbp hI K hK => ?_) ?_
    · obtain ⟨us, hus, ha, hI⟩ := hI
      obtain ⟨u0, u1, u2, u3, u4, u5, u6, u7, u8, rfl⟩ := lenA9 hus
      have HI := Veil.mk hI
      clear hI
      rw [ha]
      simp only [puts, setAll, List.setIfInBounds_toArray, List.set_cons_zero, List.set_cons_succ]
      go_simp
      exact hK _ _ (gen_val HI.out hus hbs 0 _ _ (by show 0 < 9; decide) (fit_of rfl) rfl hb0 rfl (Below.refl _ _) (by simp only [puts, setAll, List.set_cons_zero, List.set_cons_succ, List.setIfInBounds_toArray]))
    refine Steps.cons rfl (fun bb aa w' hbs hb0 hbp hI K hK => ?_) ?_
    · obtain ⟨us, hus, ha, hI⟩ := hI
      obtain ⟨u0, u1, u2, u3, u4, u5, u6, u7, u8, rfl⟩ := lenA9 hus
      have e0 : u0 = .pointer (some ⟨kb, 0, none⟩) := hI.val 0 _ rfl (gen_after 0 (by kernel_rfl) hbp)
      subst e0
      have hch := hI.below
      have c0 := HC.out w' hch 0
      clear hch
      have HI := Veil.mk hI
      clear hI
      rw [ha]
      simp only [puts, setAll, List.setIfInBounds_toArray, List.set_cons_zero, List.set_cons_succ]
      go_simp
      exact hK _ _ (gen_val HI.out hus hbs 1 _ _ (by show 1 < 9; decide) (fit_of rfl) rfl hb0 rfl (Below.refl _ _) (by simp only [puts, setAll, List.set_cons_zero, List.set_cons_succ, List.setIfInBounds_toArray]))
    refine Steps.cons rfl (fun bb aa w' hbs hb0 hbp hI K hK => ?_) ?_
    · obtain ⟨us, hus, ha, hI⟩ := hI
      obtain ⟨u0, u1, u2, u3, u4, u5, u6, u7, u8, rfl⟩ := lenA9 hus
      have HI := Veil.mk hI
      clear hI
      rw [ha]
      simp only [puts, setAll, List.setIfInBounds_toArray, List.set_cons_zero, List.set_cons_succ]
      go_simp
      exact hK _ _ (gen_val HI.out hus hbs 2 _ _ (by show 2 < 9; decide) (fit_of rfl) rfl hb0 rfl (Below.refl _ _) (by simp only [puts, setAll, List.set_cons_zero, List.set_cons_succ, List.setIfInBounds_toArray]))
    refine Steps.cons rfl (fun bb aa w' hbs hb0 hbp hI K hK => ?_) ?_
    · obtain ⟨us, hus, ha, hI⟩ := hI
      obtain ⟨u0, u1, u2, u3, u4, u5, u6, u7, u8, rfl⟩ := lenA9 hus
      have e2 : u2 = .pointer (some ⟨kb, 1, none⟩) := hI.val 2 _ rfl (gen_after 2 (by kernel_rfl) hbp)
      subst e2
      have hch := hI.below
      have c0 := HC.out w' hch 1
      clear hch
      have HI := Veil.mk hI
      clear hI
      rw [ha]
      simp only [puts, setAll, List.setIfInBounds_toArray, List.set_cons_zero, List.set_cons_succ]
      go_simp
      exact hK _ _ (gen_val HI.out hus hbs 3 _ _ (by show 3 < 9; decide) (fit_of rfl) rfl hb0 rfl (Below.refl _ _) (by simp only [puts, setAll, List.set_cons_zero, List.set_cons_succ, List.setIfInBounds_toArray]))
    refine Steps.cons rfl (fun bb aa w' hbs hb0 hbp hI K hK => ?_) ?_
    · obtain ⟨us, hus, ha, hI⟩ := hI
      obtain ⟨u0, u1, u2, u3, u4, u5, u6, u7, u8, rfl⟩ := lenA9 hus
      have HI := Veil.mk hI
      clear hI
      rw [ha]
      simp only [puts, setAll, List.setIfInBounds_toArray, List.set_cons_zero, List.set_cons_succ]
      go_simp
      exact hK _ _ (gen_val HI.out hus hbs 4 _ _ (by show 4 < 9; decide) (fit_of rfl) rfl hb0 rfl (Below.refl _ _) (by simp only [puts, setAll, List.set_cons_zero, List.set_cons_succ, List.setIfInBounds_toArray]))
    refine Steps.cons rfl (fun bb aa w' hbs hb0 hbp hI K hK => ?_) ?_
    · obtain ⟨us, hus, ha, hI⟩ := hI
      obtain ⟨u0, u1, u2, u3, u4, u5, u6, u7, u8, rfl⟩ := lenA9 hus
      have e4 : u4 = .pointer (some ⟨kb, 2, none⟩) := hI.val 4 _ rfl (gen_after 4 (by kernel_rfl) hbp)
      subst e4
      have hch := hI.below
      have c0 := HC.out w' hch 2
      clear hch
      have HI := Veil.mk hI
      clear hI
      rw [ha]
      simp only [puts, setAll, List.setIfInBounds_toArray, List.set_cons_zero, List.set_cons_succ]
      go_simp
      exact hK _ _ (gen_val HI.out hus hbs 5 _ _ (by show 5 < 9; decide) (fit_of rfl) rfl hb0 rfl (Below.refl _ _) (by simp only [puts, setAll, List.set_cons_zero, List.set_cons_succ, List.setIfInBounds_toArray]))
    refine Steps.cons rfl (fun bb aa w' hbs hb0 hbp hI K hK => ?_) ?_
    · obtain ⟨us, hus, ha, hI⟩ := hI
      obtain ⟨u0, u1, u2, u3, u4, u5, u6, u7, u8, rfl⟩ := lenA9 hus
      have e1 : u1 = .slice a0 n0 c0 := hI.val 1 _ rfl (gen_after 1 (by kernel_rfl) hbp)
      subst e1
      have HI := Veil.mk hI
      clear hI
      rw [ha]
      simp only [puts, setAll, List.setIfInBounds_toArray, List.set_cons_zero, List.set_cons_succ]
      go_simp
      exact hK _ _ (gen_val HI.out hus hbs 6 _ _ (by show 6 < 9; decide) (fit_of rfl) rfl hb0 rfl (Below.refl _ _) (by simp only [puts, setAll, List.set_cons_zero, List.set_cons_succ, List.setIfInBounds_toArray]))
    refine Steps.cons rfl (fun bb aa w' hbs hb0 hbp hI K hK => ?_) ?_
    · obtain ⟨us, hus, ha, hI⟩ := hI
      obtain ⟨u0, u1, u2, u3, u4, u5, u6, u7, u8, rfl⟩ := lenA9 hus
      have e3 : u3 = .slice a1 n1 c1 := hI.val 3 _ rfl (gen_after 3 (by kernel_rfl) hbp)
      subst e3
      have HI := Veil.mk hI
      clear hI
      rw [ha]
      simp only [puts, setAll, List.setIfInBounds_toArray, List.set_cons_zero, List.set_cons_succ]
      go_simp
      exact hK _ _ (gen_val HI.out hus hbs 7 _ _ (by show 7 < 9; decide) (fit_of rfl) rfl hb0 rfl (Below.refl _ _) (by simp only [puts, setAll, List.set_cons_zero, List.set_cons_succ, List.setIfInBounds_toArray]))
    refine Steps.cons rfl (fun bb aa w' hbs hb0 hbp hI K hK => ?_) ?_
    · obtain ⟨us, hus, ha, hI⟩ := hI
      obtain ⟨u0, u1, u2, u3, u4, u5, u6, u7, u8, rfl⟩ := lenA9 hus
      have e5 : u5 = .slice a2 n2 c2 := hI.val 5 _ rfl (gen_after 5 (by kernel_rfl) hbp)
      subst e5
      have HI := Veil.mk hI
      clear hI
      rw [ha]
      simp only [puts, setAll, List.setIfInBounds_toArray, List.set_cons_zero, List.set_cons_succ]
      go_simp
      exact hK _ _ (gen_val HI.out hus hbs 8 _ _ (by show 8 < 9; decide) (fit_of rfl) rfl hb0 rfl (Below.refl _ _) (by simp only [puts, setAll, List.set_cons_zero, List.set_cons_succ, List.setIfInBounds_toArray]))
    exact Steps.nil
  · intro us wE hus dd hD2 hJ
    obtain ⟨p0, p1, p2, p3, p4, p5, p6, p7, p8, rfl⟩ := lenA9 hus
    have hbE := hJ.below
    have e0 : p0 = .pointer (some ⟨kb, 0, none⟩) := hJ.val 0 _ rfl (hD2 0 (by show 0 < 9; decide))
    subst e0
    have e1 : p1 = .slice a0 n0 c0 := hJ.val 1 _ rfl (hD2 1 (by show 1 < 9; decide))
    subst e1
    have e2 : p2 = .pointer (some ⟨kb, 1, none⟩) := hJ.val 2 _ rfl (hD2 2 (by show 2 < 9; decide))
    subst e2
    have e3 : p3 = .slice a1 n1 c1 := hJ.val 3 _ rfl (hD2 3 (by show 3 < 9; decide))
    subst e3
    have e4 : p4 = .pointer (some ⟨kb, 2, none⟩) := hJ.val 4 _ rfl (hD2 4 (by show 4 < 9; decide))
    subst e4
    have e5 : p5 = .slice a2 n2 c2 := hJ.val 5 _ rfl (hD2 5 (by show 5 < 9; decide))
    subst e5
    have e6 : p6 = .slice a0 n0 c0 := hJ.val 6 _ rfl (hD2 6 (by show 6 < 9; decide))
    subst e6
    have e7 : p7 = .slice a1 n1 c1 := hJ.val 7 _ rfl (hD2 7 (by show 7 < 9; decide))
    subst e7
    have e8 : p8 = .slice a2 n2 c2 := hJ.val 8 _ rfl (hD2 8 (by show 8 < 9; decide))
    subst e8
    clear hJ hD2
    have HE3 := Veil.mk hbE
    clear hbE
    simp only [puts, setAll, List.setIfInBounds_toArray, List.set_cons_zero, List.set_cons_succ]
    have HZ : Veil ((g0.size ≤ 1000000000 ∧ g1.size ≤ 1000000000) ∧ (g0.size ≤ 1000000000 ∧ g2.size ≤ 1000000000) ∧ (g2.size ≤ 1000000000 ∧ g1.size ≤ 1000000000) ∧ (g2.size ≤ 1000000000 ∧ g2.size ≤ 1000000000)) := ⟨by have := HZZ.out; omega⟩
    have HWE := Veil.mk (HB1.out.1.trans (HE3.out.mono HB1.out.1.size))
    have HMC := Veil.mk (fun W => machine_any W)
    clear HC HFT HE3 HB1 HBB HW0
    go_upto_region 7 with (go_at_call 9; ((with_reducible refine (HMC.out _).mono ?_); rintro e w2 ⟨h, A, m, os0, rfl, hp2⟩; have HP2 := Veil.mk hp2; clear hp2))
    obtain ⟨ts0, hl0, hmp⟩ := HP2.out.mpw
    have HM2 := Veil.mk (And.intro hmp (HWE.out.trans (HP2.out.bel.mono HWE.out.size)))
    have HA : Veil (A ≤ w2.heap.size ∧ w.heap.size ≤ A) := ⟨Nat.le_of_lt hmp.mm.alt, Nat.le_trans HWE.out.size HP2.out.lo⟩
    have HL0 := Veil.mk hl0
    have c0 : w2.cell? ⟨m, 0, none⟩ = some (.pointer (some ⟨h, 0, none⟩)) := hmp.mm.cell0
    have HMK := Veil.mk (hmp.make 0 0 (by omega))
    obtain ⟨ub, hub⟩ : ∃ ub, w2.heap.size = ub := ⟨_, rfl⟩
    rw [hub] at HMK HA
    clear hl0 hmp HWE HMC HP2 hub
    go_upto_region 8 with (go_at_call 13; ((with_reducible refine HMK.out.mono ?_); rintro e w3 ⟨rfl, hm3, hk3⟩; have HM3 := Veil.mk (And.intro hm3 (HM2.out.2.trans (hk3.bel.mono HA.out.2))); clear hm3 hk3))
    clear c0 HMK HM2
    have HSX3 := Veil.mk (HS0.out w3 HM3.out.2)
    go_upto_region 9 with (first | (go_at_call 15; ((with_reducible refine HSX3.out.mono ?_); rintro e w4 ⟨rfl, hb4⟩; have HM4 := Veil.mk (And.intro (HM3.out.1.on hb4) (HM3.out.2.trans (hb4.mono HM3.out.2.size))); have HO4 : Veil (Calls Tryz.prog 14 #[.pointer (some ⟨m, 0, none⟩), .pointer (some ⟨ub, 0, none⟩), .string ⟨#[110, 97, 109, 101]⟩, valV (7, 0, s0), .int .i64 5] w4 fun e w' => e = .returned (.tuple #[]) ∧ ∃ pv' F', MP w' h A m (prF 21) (ts0 ++ [⟨ub, 0, 0, pv', .slice none 0 0, .nilIface, 0, F', [(kName, (7, 0, s0), 5)]⟩]) ∧ Bk A w4 w') := ⟨HM4.out.1.own (t := TO.plain ub 0 0 (.slice none 0 0)) (ts1 := ts0) (ts2 := []) rfl (by show 0 < 40000; omega) _ ⟨#[110, 97, 109, 101]⟩ [0, 110, 0, 97, 0, 109, 0, 101] 5 (7, 0, s0) (by decide) (by decide +kernel) (by decide) (by rfl)⟩; clear hb4)) | (go_at_call 14; ((with_reducible refine HO4.out.mono ?_); rintro e w5 ⟨rfl, pv5, F5, hm5, hk5⟩; have HM5 := Veil.mk (And.intro hm5 (HM4.out.2.trans (hk5.bel.mono HA.out.2))); clear hm5 hk5)))
    clear HSX3 HO4 HM3 HM4
    have HSX5 := Veil.mk (HS1.out w5 HM5.out.2)
    go_upto_region 10 with (first | (go_at_call 15; ((with_reducible refine HSX5.out.mono ?_); rintro e w6 ⟨rfl, hb6⟩; have HM6 := Veil.mk (And.intro (HM5.out.1.on hb6) (HM5.out.2.trans (hb6.mono HM5.out.2.size))); have HO6 : Veil (Calls Tryz.prog 14 #[.pointer (some ⟨m, 0, none⟩), .pointer (some ⟨ub, 0, none⟩), .string ⟨#[109, 101, 115, 115, 97, 103, 101]⟩, valV (7, 0, s1), .int .i64 5] w6 fun e w' => e = .returned (.tuple #[]) ∧ ∃ pv' F', MP w' h A m (prF 21) (ts0 ++ [⟨ub, 0, 0, pv', .slice none 0 0, .nilIface, 0, F', [(kName, (7, 0, s0), 5), (kMsg, (7, 0, s1), 5)]⟩]) ∧ Bk A w6 w') := ⟨HM6.out.1.own (t := ⟨ub, 0, 0, pv5, .slice none 0 0, .nilIface, 0, F5, [(kName, (7, 0, s0), 5)]⟩) (ts1 := ts0) (ts2 := []) rfl (by show 1 < 40000; omega) _ ⟨#[109, 101, 115, 115, 97, 103, 101]⟩ [0, 109, 0, 101, 0, 115, 0, 115, 0, 97, 0, 103, 0, 101] 5 (7, 0, s1) (by decide) (by decide +kernel) (by decide) (by show (decide (kName ≠ kMsg) && true) = true; decide +kernel)⟩; clear hb6)) | (go_at_call 14; ((with_reducible refine HO6.out.mono ?_); rintro e w7 ⟨rfl, pv7, F7, hm7, hk7⟩; have HM7 := Veil.mk (And.intro hm7 (HM6.out.2.trans (hk7.bel.mono HA.out.2))); clear hm7 hk7)))
    clear HSX5 HO6 HM5 HM6
    have c0 : w7.cell? ⟨m, 0, none⟩ = some (.pointer (some ⟨h, 0, none⟩)) := HM7.out.1.mm.cell0
    obtain ⟨rb, hrb⟩ : ∃ rb, w7.heap.size = rb := ⟨_, rfl⟩
    have HMR : Veil (Calls Tryz.prog 13 #[.pointer (some ⟨h, 0, none⟩), .int .i64 12, .int .i64 ((ts0.length : Int) + 1)] w7 fun e w' => e = .returned (.tuple #[.int .i64 (((ts0.length : Int) + 1) + 1), .pointer (some ⟨rb, 0, none⟩)]) ∧ MP w' h A m (prF 21) ((ts0 ++ [(⟨ub, 0, 0, pv7, .slice none 0 0, .nilIface, 0, F7, [(kName, (7, 0, s0), 5), (kMsg, (7, 0, s1), 5)]⟩ : TO)]) ++ [TO.plain rb 12 ((ts0.length : Int) + 1) (.slice none 0 0)]) ∧ Bk A w7 w') := ⟨by
      have h9 := HM7.out.1.make 12 ((ts0.length : Int) + 1) (by rw [List.length_append]; show ts0.length + 1 < 100000; have := HL0.out; omega)
      rw [show (((ts0 ++ [(⟨ub, 0, 0, pv7, .slice none 0 0, .nilIface, 0, F7, [(kName, (7, 0, s0), 5), (kMsg, (7, 0, s1), 5)]⟩ : TO)]).length : Nat) : Int) = ((ts0.length : Int) + 1) by rw [List.length_append]; rfl, hrb] at h9
      exact h9⟩
    clear hrb
    go_upto_region 11 with (go_at_call 13; ((with_reducible refine HMR.out.mono ?_); rintro e w8 ⟨rfl, hm8, hk8⟩; have HM8 := Veil.mk (And.intro hm8 (HM7.out.2.trans (hk8.bel.mono HA.out.2))); clear hm8 hk8))
    clear c0 HMR HM7
    go_upto_region 17 with (fail)
    have HSX8 := Veil.mk (HS2.out w8 HM8.out.2)
    go_upto_region 18 with (first | (go_at_call 15; ((with_reducible refine HSX8.out.mono ?_); rintro e w9 ⟨rfl, hb9⟩; have HM9 := Veil.mk (And.intro (HM8.out.1.on hb9) (HM8.out.2.trans (hb9.mono HM8.out.2.size))); have HO9 : Veil (Calls Tryz.prog 14 #[.pointer (some ⟨m, 0, none⟩), .pointer (some ⟨rb, 0, none⟩), .string ⟨#[110, 97, 109, 101]⟩, valV (7, 0, s2), .int .i64 5] w9 fun e w' => e = .returned (.tuple #[]) ∧ ∃ pv' F', MP w' h A m (prF 21) ((ts0 ++ [(⟨ub, 0, 0, pv7, .slice none 0 0, .nilIface, 0, F7, [(kName, (7, 0, s0), 5), (kMsg, (7, 0, s1), 5)]⟩ : TO)]) ++ [⟨rb, 12, ((ts0.length : Int) + 1), pv', .slice none 0 0, .nilIface, 0, F', [(kName, (7, 0, s2), 5)]⟩]) ∧ Bk A w9 w') := ⟨HM9.out.1.own (t := TO.plain rb 12 ((ts0.length : Int) + 1) (.slice none 0 0)) (ts1 := (ts0 ++ [(⟨ub, 0, 0, pv7, .slice none 0 0, .nilIface, 0, F7, [(kName, (7, 0, s0), 5), (kMsg, (7, 0, s1), 5)]⟩ : TO)])) (ts2 := []) rfl (by show 0 < 40000; omega) _ ⟨#[110, 97, 109, 101]⟩ [0, 110, 0, 97, 0, 109, 0, 101] 5 (7, 0, s2) (by decide) (by decide +kernel) (by decide) (by rfl)⟩; clear hb9)) | (go_at_call 14; ((with_reducible refine HO9.out.mono ?_); rintro e w10 ⟨rfl, pv10, F10, hm10, hk10⟩; have HM10 := Veil.mk (And.intro hm10 (HM9.out.2.trans (hk10.bel.mono HA.out.2))); clear hm10 hk10)))
    clear HSX8 HO9 HM8 HM9
    go_upto_region 19 with (fail)
    have HSX := Veil.mk (HS2.out w10 HM10.out.2)
    go_upto_region 20 with (first | (go_at_call 15; ((with_reducible refine HSX.out.mono ?_); rintro e w11 ⟨rfl, hb11⟩; have HM11 := Veil.mk (And.intro (HM10.out.1.on hb11) (HM10.out.2.trans (hb11.mono HM10.out.2.size))); clear hb11)) | (go_at_call 16; ((with_reducible refine (HG2.out _).mono ?_); rintro e w12 ⟨rfl, hb12⟩; have HM12 := Veil.mk (And.intro (HM11.out.1.on hb12) (HM11.out.2.trans (hb12.mono HM11.out.2.size))); clear hb12)))
    clear HSX HM10 HM11
    by_cases hz : n1 = 0
    · have hz9 : (decide (n1 = 0)) = true := decide_eq_true hz
      have hzi : ¬ (0 : Int) < (n1 : Int) := by omega
      go_upto_region 22 with (fail)
      have HWO : Veil (∀ w', Below w12.heap.size w12 w' → Calls Tryz.prog 17 #[.pointer (some ⟨m, 0, none⟩), valV (9, ((ts0.length : Int) + 1) + 1, ⟨#[]⟩)] w' fun e w9 => e = .returned (.string g2) ∧ Below w'.heap.size w' w9) := ⟨by
        have h9 := HM12.out.1.woe (by rw [List.length_append, List.length_append]; show ts0.length + 1 + 1 < 1000000; have := HL0.out; omega) (ts0.length + 1) ts0.length (⟨rb, 12, ((ts0.length : Int) + 1), pv10, .slice none 0 0, .nilIface, 0, F10, [(kName, (7, 0, s2), 5)]⟩ : TO) (⟨ub, 0, 0, pv7, .slice none 0 0, .nilIface, 0, F7, [(kName, (7, 0, s0), 5), (kMsg, (7, 0, s1), 5)]⟩ : TO) (by rw [List.getElem?_append_right (by rw [List.length_append]; exact Nat.le_refl _), List.length_append]; show ([_] : List TO)[ts0.length + 1 - (ts0.length + 1)]? = _; rw [Nat.sub_self]; rfl) (by rw [List.append_assoc, List.getElem?_append_right (Nat.le_refl _), Nat.sub_self]; rfl) rfl rfl rfl rfl 5 5 s2 s1 g2 g1 true (by rw [HE1.out]; exact hz9) HZ.out.2.2.1 (by kernel_rfl) (by kernel_rfl) HG2.out HG1.out
        rw [show ((((ts0.length + 1) : Nat)) : Int) + 1 = ((ts0.length : Int) + 1) + 1 by omega] at h9
        exact h9⟩
      have HSW : Veil (∀ w', Below w12.heap.size w12 w' → Calls Tryz.prog 11 #[.pointer (some ⟨m, 0, none⟩), valV (9, ((ts0.length : Int) + 1) + 1, ⟨#[]⟩)] w' fun e w9 => e = .returned (.string g2) ∧ Below w'.heap.size w' w9) := ⟨fun w' hb => by
        have h9 := (HM12.out.1.on hb).errshow (ts0.length + 1) (⟨rb, 12, ((ts0.length : Int) + 1), pv10, .slice none 0 0, .nilIface, 0, F10, [(kName, (7, 0, s2), 5)]⟩ : TO) (by rw [List.getElem?_append_right (by rw [List.length_append]; exact Nat.le_refl _), List.length_append]; show ([_] : List TO)[ts0.length + 1 - (ts0.length + 1)]? = _; rw [Nat.sub_self]; rfl) rfl g2 (fun w9 hb9 => by
          rw [show ((((ts0.length + 1) : Nat)) : Int) + 1 = ((ts0.length : Int) + 1) + 1 by omega]
          exact HWO.out w9 (hb.trans (hb9.mono hb.size)))
        rw [show ((((ts0.length + 1) : Nat)) : Int) + 1 = ((ts0.length : Int) + 1) + 1 by omega] at h9
        exact h9⟩
      have HVO := Veil.mk (fun w => object_mk (((ts0.length : Int) + 1) + 1) w)
      obtain ⟨want, hwant⟩ : ∃ want : ByteArray, g2 = want := ⟨_, rfl⟩
      rw [hwant] at HWO HSW ⊢
      clear hwant
      go_wp2_with (first | (go_at_call 18; ((with_reducible refine (HVO.out _).mono ?_); first | (rintro e w15 ⟨rfl, hb15⟩; have HSW2 := Veil.mk (HSW.out w15 (HBY.out.trans (hb15.mono HBY.out.size))); have HBZ := Veil.mk (HBY.out.trans (hb15.mono HBY.out.size)); clear hb15) | (rintro e w13 ⟨rfl, hb13⟩; have HWO2 := Veil.mk (HWO.out w13 hb13); have HBX := Veil.mk hb13; clear hb13))) | (go_at_call 17; ((with_reducible refine HWO2.out.mono ?_); rintro e w14 ⟨rfl, hb14⟩; have HBY := Veil.mk (HBX.out.trans (hb14.mono HBX.out.size)); clear hb14)) | (go_at_call 11; ((with_reducible refine HSW2.out.mono ?_); rintro e w16 ⟨rfl, hb16⟩)))
      go_ret
      exact ⟨rfl, HM12.out.2.trans ((HBZ.out.trans (hb16.mono HBZ.out.size)).mono HM12.out.2.size)⟩
    · have hz9 : (decide (n1 = 0)) = false := decide_eq_false hz
      have hzi : (0 : Int) < (n1 : Int) := by omega
      have hg1 : ¬ 9223372036854775807 < 2 + g1.size := by have := HZZ.out; omega
      have hg2 : ¬ 9223372036854775807 < g2.size + (2 + g1.size) := by have := HZZ.out; omega
      have HSX := Veil.mk (HS1.out w12 HM12.out.2)
      go_upto_region 22 with (first | (go_at_call 15; ((with_reducible refine HSX.out.mono ?_); rintro e w13 ⟨rfl, hb13⟩; have HM13 := Veil.mk (And.intro (HM12.out.1.on hb13) (HM12.out.2.trans (hb13.mono HM12.out.2.size))); clear hb13)) | (go_at_call 16; ((with_reducible refine (HG1.out _).mono ?_); rintro e w14 ⟨rfl, hb14⟩; have HM14 := Veil.mk (And.intro (HM13.out.1.on hb14) (HM13.out.2.trans (hb14.mono HM13.out.2.size))); clear hb14)))
      clear HSX HM12 HM13 hg1 hg2
      have HWO : Veil (∀ w', Below w14.heap.size w14 w' → Calls Tryz.prog 17 #[.pointer (some ⟨m, 0, none⟩), valV (9, ((ts0.length : Int) + 1) + 1, ⟨#[]⟩)] w' fun e w9 => e = .returned (.string (g2 ++ ⟨#[58, 32]⟩ ++ g1)) ∧ Below w'.heap.size w' w9) := ⟨by
        have h9 := HM14.out.1.woe (by rw [List.length_append, List.length_append]; show ts0.length + 1 + 1 < 1000000; have := HL0.out; omega) (ts0.length + 1) ts0.length (⟨rb, 12, ((ts0.length : Int) + 1), pv10, .slice none 0 0, .nilIface, 0, F10, [(kName, (7, 0, s2), 5)]⟩ : TO) (⟨ub, 0, 0, pv7, .slice none 0 0, .nilIface, 0, F7, [(kName, (7, 0, s0), 5), (kMsg, (7, 0, s1), 5)]⟩ : TO) (by rw [List.getElem?_append_right (by rw [List.length_append]; exact Nat.le_refl _), List.length_append]; show ([_] : List TO)[ts0.length + 1 - (ts0.length + 1)]? = _; rw [Nat.sub_self]; rfl) (by rw [List.append_assoc, List.getElem?_append_right (Nat.le_refl _), Nat.sub_self]; rfl) rfl rfl rfl rfl 5 5 s2 s1 g2 g1 false (by rw [HE1.out]; exact hz9) HZ.out.2.2.1 (by kernel_rfl) (by kernel_rfl) HG2.out HG1.out
        rw [show ((((ts0.length + 1) : Nat)) : Int) + 1 = ((ts0.length : Int) + 1) + 1 by omega] at h9
        exact h9⟩
      have HSW : Veil (∀ w', Below w14.heap.size w14 w' → Calls Tryz.prog 11 #[.pointer (some ⟨m, 0, none⟩), valV (9, ((ts0.length : Int) + 1) + 1, ⟨#[]⟩)] w' fun e w9 => e = .returned (.string (g2 ++ ⟨#[58, 32]⟩ ++ g1)) ∧ Below w'.heap.size w' w9) := ⟨fun w' hb => by
        have h9 := (HM14.out.1.on hb).errshow (ts0.length + 1) (⟨rb, 12, ((ts0.length : Int) + 1), pv10, .slice none 0 0, .nilIface, 0, F10, [(kName, (7, 0, s2), 5)]⟩ : TO) (by rw [List.getElem?_append_right (by rw [List.length_append]; exact Nat.le_refl _), List.length_append]; show ([_] : List TO)[ts0.length + 1 - (ts0.length + 1)]? = _; rw [Nat.sub_self]; rfl) rfl (g2 ++ ⟨#[58, 32]⟩ ++ g1) (fun w9 hb9 => by
          rw [show ((((ts0.length + 1) : Nat)) : Int) + 1 = ((ts0.length : Int) + 1) + 1 by omega]
          exact HWO.out w9 (hb.trans (hb9.mono hb.size)))
        rw [show ((((ts0.length + 1) : Nat)) : Int) + 1 = ((ts0.length : Int) + 1) + 1 by omega] at h9
        exact h9⟩
      have HVO := Veil.mk (fun w => object_mk (((ts0.length : Int) + 1) + 1) w)
      obtain ⟨want, hwant⟩ : ∃ want : ByteArray, (g2 ++ ⟨#[58, 32]⟩ ++ g1) = want := ⟨_, rfl⟩
      rw [ba_assoc]
      rw [hwant] at HWO HSW ⊢
      clear hwant
      go_wp2_with (first | (go_at_call 18; ((with_reducible refine (HVO.out _).mono ?_); first | (rintro e w17 ⟨rfl, hb17⟩; have HSW2 := Veil.mk (HSW.out w17 (HBY.out.trans (hb17.mono HBY.out.size))); have HBZ := Veil.mk (HBY.out.trans (hb17.mono HBY.out.size)); clear hb17) | (rintro e w15 ⟨rfl, hb15⟩; have HWO2 := Veil.mk (HWO.out w15 hb15); have HBX := Veil.mk hb15; clear hb15))) | (go_at_call 17; ((with_reducible refine HWO2.out.mono ?_); rintro e w16 ⟨rfl, hb16⟩; have HBY := Veil.mk (HBX.out.trans (hb16.mono HBX.out.size)); clear hb16)) | (go_at_call 11; ((with_reducible refine HSW2.out.mono ?_); rintro e w18 ⟨rfl, hb18⟩)))
      go_ret
      exact ⟨rfl, HM14.out.2.trans ((HBZ.out.trans (hb18.mono HBZ.out.size)).mono HM14.out.2.size)⟩
set_option maxHeartbeats 4000000 in
set_option maxRecDepth 100000 in
theorem woes_11 (a0 a1 a2 : Option Addr) (n0 n1 n2 c0 c1 c2 : Nat) (how : Int) (h0 : ¬ (200 : Int) < (n0 : Int)) (h1 : ¬ (200 : Int) < (n1 : Int)) (h2 : ¬ (200 : Int) < (n2 : Int)) (q1 : (bits .and .i64 how 1 == 1) = true) (q2 : (bits .and .i64 how 2 == 2) = true) (s0 s1 s2 g0 g1 g2 : ByteArray) (w : World) (HS0 : Veil (∀ w', Below w.heap.size w w' → Calls Tryz.prog 15 #[.slice a0 n0 c0] w' fun e w9 => e = .returned (.string s0) ∧ Below w'.heap.size w' w9)) (HS1 : Veil (∀ w', Below w.heap.size w w' → Calls Tryz.prog 15 #[.slice a1 n1 c1] w' fun e w9 => e = .returned (.string s1) ∧ Below w'.heap.size w' w9)) (HS2 : Veil (∀ w', Below w.heap.size w w' → Calls Tryz.prog 15 #[.slice a2 n2 c2] w' fun e w9 => e = .returned (.string s2) ∧ Below w'.heap.size w' w9)) (HG2 : Veil (∀ w', Calls Tryz.prog 16 #[.string s2] w' fun e w9 => e = .returned (.string g2) ∧ Below w'.heap.size w' w9)) (HE2 : Veil ((s2.toList == []) = decide (n2 = 0))) (HZZ : Veil (g0.size ≤ 100000 ∧ g1.size ≤ 100000 ∧ g2.size ≤ 100000))  : Calls Tryz.prog 4 #[.agg #[.slice a0 n0 c0, .slice a1 n1 c1, .slice a2 n2 c2], .int .i64 how] w fun e w' => e = .returned (.bool true) ∧ Below w.heap.size w w' := by
  have HFT := Veil.mk (fun W => fit_any W)
  have b1 := Box.new w 39 #[.slice a0 n0 c0, .slice a1 n1 c1, .slice a2 n2 c2]
  have bb : Below w.heap.size w (w.alloc (.cells #[.slice a0 n0 c0, .slice a1 n1 c1, .slice a2 n2 c2] 39)) := (Below.refl _ _).alloc (Nat.le_refl _) _
  obtain ⟨kb, hkb⟩ : ∃ kb, w.heap.size = kb := ⟨_, rfl⟩
  obtain ⟨W0, hW0⟩ : ∃ W0, w.alloc (.cells #[.slice a0 n0 c0, .slice a1 n1 c1, .slice a2 n2 c2] 39) = W0 := ⟨_, rfl⟩
  rw [hW0] at b1 bb
  have HW0 := Veil.mk (And.intro hW0 hkb)
  rw [hkb] at b1
  have HBB := Veil.mk (And.intro bb b1)
  clear hW0 hkb b1 bb
  go_enter Tryz.func4, Tryz.ntmps4
  go_upto_region 1 with (fail)
  rw [HW0.out.1, HW0.out.2]
  go_upto_region 3 with (go_at_call 7; ((with_reducible refine (HFT.out _).mono ?_); rintro e w1 ⟨rfl, hb1⟩; have HB1 := Veil.mk (And.intro (HBB.out.1.trans (hb1.mono HBB.out.1.size)) (HBB.out.2.below hb1)); clear hb1))
  have HC : Veil (∀ W, Below w1.heap.size w1 W → ∀ i : Nat, W.cell? ⟨kb, i, none⟩ = (#[.slice a0 n0 c0, .slice a1 n1 c1, .slice a2 n2 c2] : Array Value)[i]?) := ⟨fun W hb i => (HB1.out.2.below hb).at_ i⟩
  refine wp_region_gen (.val (· = .pointer (some ⟨kb, 0, none⟩)) :: .val (· = .slice a0 n0 c0) :: .val (· = .pointer (some ⟨kb, 1, none⟩)) :: .val (· = .slice a1 n1 c1) :: .val (· = .pointer (some ⟨kb, 2, none⟩)) :: .val (· = .slice a2 n2 c2) :: .val (· = .slice a0 n0 c0) :: .val (· = .slice a1 n1 c1) :: .val (· = .slice a2 n2 c2) :: [] : List Kd) [some 18, some 19, some 20, some 21, some 22, some 23, some 5, some 6, some 7] (curV' _ [some 18, some 19, some 20, some 21, some 22, some 23, some 5, some 6, some 7]) (by kernel_rfl) rfl rfl (puts_cur _ _) ?_ (by kernel_rfl) ?_
  · refine Steps.cons rfl (fun bb aa w' hbs hb0 hbp hI K hK => ?_) ?_
    · obtain ⟨us, hus, ha, hI⟩ := hI
      obtain ⟨u0, u1, u2, u3, u4, u5, u6, u7, u8, rfl⟩ := lenA9 hus
      have HI := Veil.mk hI
      clear hI
      rw [ha]
      simp only [puts, setAll, List.setIfInBounds_toArray, List.set_cons_zero, List.set_cons_succ]
      go_simp
      exact hK _ _ (gen_val HI.out hus hbs 0 _ _ (by show 0 < 9; decide) (fit_of rfl) rfl hb0 rfl (Below.refl _ _) (by simp only [puts, setAll, List.set_cons_zero, List.set_cons_succ, List.setIfInBounds_toArray]))
    refine Steps.cons rfl (fun bb aa w' hbs hb0 hbp hI K hK => ?_) ?_
    · obtain ⟨us, hus, ha, hI⟩ := hI
      obtain ⟨u0, u1, u2, u3, u4, u5, u6, u7, u8, rfl⟩ := lenA9 hus
      have e0 : u0 = .pointer (some ⟨kb, 0, none⟩) := hI.val 0 _ rfl (gen_after 0 (by kernel_rfl) hbp)
      subst e0
      have hch := hI.below
      have c0 := HC.out w' hch 0
      clear hch
      have HI := Veil.mk hI
      clear hI
      rw [ha]
      simp only [puts, setAll, List.setIfInBounds_toArray, List.set_cons_zero, List.set_cons_succ]
      go_simp
      exact hK _ _ (gen_val HI.out hus hbs 1 _ _ (by show 1 < 9; decide) (fit_of rfl) rfl hb0 rfl (Below.refl _ _) (by simp only [puts, setAll, List.set_cons_zero, List.set_cons_succ, List.setIfInBounds_toArray]))
    refine Steps.cons rfl (fun bb aa w' hbs hb0 hbp hI K hK => ?_) ?_
    · obtain ⟨us, hus, ha, hI⟩ := hI
      obtain ⟨u0, u1, u2, u3, u4, u5, u6, u7, u8, rfl⟩ := lenA9 hus
      have HI := Veil.mk hI
      clear hI
      rw [ha]
      simp only [puts, setAll, List.setIfInBounds_toArray, List.set_cons_zero, List.set_cons_succ]
      go_simp
      exact hK _ _ (gen_val HI.out hus hbs 2 _ _ (by show 2 < 9; decide) (fit_of rfl) rfl hb0 rfl (Below.refl _ _) (by simp only [puts, setAll, List.set_cons_zero, List.set_cons_succ, List.setIfInBounds_toArray]))
    refine Steps.cons rfl (fun bb aa w' hbs hb0 hbp hI K hK => ?_) ?_
    · obtain ⟨us, hus, ha, hI⟩ := hI
      obtain ⟨u0, u1, u2, u3, u4, u5, u6, u7, u8, rfl⟩ := lenA9 hus
      have e2 : u2 = .pointer (some ⟨kb, 1, none⟩) := hI.val 2 _ rfl (gen_after 2 (by kernel_rfl) hbp)
      subst e2
      have hch := hI.below
      have c0 := HC.out w' hch 1
      clear hch
      have HI := Veil.mk hI
      clear hI
      rw [ha]
      simp only [puts, setAll, List.setIfInBounds_toArray, List.set_cons_zero, List.set_cons_succ]
      go_simp
      exact hK _ _ (gen_val HI.out hus hbs 3 _ _ (by show 3 < 9; decide) (fit_of rfl) rfl hb0 rfl (Below.refl _ _) (by simp only [puts, setAll, List.set_cons_zero, List.set_cons_succ, List.setIfInBounds_toArray]))
    refine Steps.cons rfl (fun bb aa w' hbs hb0 hbp hI K hK => ?_) ?_
    · obtain ⟨us, hus, ha, hI⟩ := hI
      obtain ⟨u0, u1, u2, u3, u4, u5, u6, u7, u8, rfl⟩ := lenA9 hus
      have HI := Veil.mk hI
      clear hI
      rw [ha]
      simp only [puts, setAll, List.setIfInBounds_toArray, List.set_cons_zero, List.set_cons_succ]
      go_simp
      exact hK _ _ (gen_val HI.out hus hbs 4 _ _ (by show 4 < 9; decide) (fit_of rfl) rfl hb0 rfl (Below.refl _ _) (by simp only [puts, setAll, List.set_cons_zero, List.set_cons_succ, List.setIfInBounds_toArray]))
    refine Steps.cons rfl (fun bb aa w' hbs hb0 hbp hI K hK => ?_) ?_
    · obtain ⟨us, hus, ha, hI⟩ := hI
      obtain ⟨u0, u1, u2, u3, u4, u5, u6, u7, u8, rfl⟩ := lenA9 hus
      have e4 : u4 = .pointer (some ⟨kb, 2, none⟩) := hI.val 4 _ rfl (gen_after 4 (by kernel_rfl) hbp)
      subst e4
      have hch := hI.below
      have c0 := HC.out w' hch 2
      clear hch
      have HI := Veil.mk hI
      clear hI
      rw [ha]
      simp only [puts, setAll, List.setIfInBounds_toArray, List.set_cons_zero, List.set_cons_succ]
      go_simp
      exact hK _ _ (gen_val HI.out hus hbs 5 _ _ (by show 5 < 9; decide) (fit_of rfl) rfl hb0 rfl (Below.refl _ _) (by simp only [puts, setAll, List.set_cons_zero, List.set_cons_succ, List.setIfInBounds_toArray]))
    refine Steps.cons rfl (fun bb aa w' hbs hb0 hbp hI K hK => ?_) ?_
    · obtain ⟨us, hus, ha, hI⟩ := hI
      obtain ⟨u0, u1, u2, u3, u4, u5, u6, u7, u8, rfl⟩ := lenA9 hus
      have e1 : u1 = .slice a0 n0 c0 := hI.val 1 _ rfl (gen_after 1 (by kernel_rfl) hbp)
      subst e1
      have HI := Veil.mk hI
      clear hI
      rw [ha]
      simp only [puts, setAll, List.setIfInBounds_toArray, List.set_cons_zero, List.set_cons_succ]
      go_simp
      exact hK _ _ (gen_val HI.out hus hbs 6 _ _ (by show 6 < 9; decide) (fit_of rfl) rfl hb0 rfl (Below.refl _ _) (by simp only [puts, setAll, List.set_cons_zero, List.set_cons_succ, List.setIfInBounds_toArray]))
    refine Steps.cons rfl (fun bb aa w' hbs hb0 hbp hI K hK => ?_) ?_
    · obtain ⟨us, hus, ha, hI⟩ := hI
      obtain ⟨u0, u1, u2, u3, u4, u5, u6, u7, u8, rfl⟩ := lenA9 hus
      have e3 : u3 = .slice a1 n1 c1 := hI.val 3 _ rfl (gen_after 3 (by kernel_rfl) hbp)
      subst e3
      have HI := Veil.mk hI
      clear hI
      rw [ha]
      simp only [puts, setAll, List.setIfInBounds_toArray, List.set_cons_zero, List.set_cons_succ]
      go_simp
      exact hK _ _ (gen_val HI.out hus hbs 7 _ _ (by show 7 < 9; decide) (fit_of rfl) rfl hb0 rfl (Below.refl _ _) (by simp only [puts, setAll, List.set_cons_zero, List.set_cons_succ, List.setIfInBounds_toArray]))
    refine Steps.cons rfl (fun bb aa w' hbs hb0 hbp hI K hK => ?_) ?_
    · obtain ⟨us, hus, ha, hI⟩ := hI
      obtain ⟨u0, u1, u2, u3, u4, u5, u6, u7, u8, rfl⟩ := lenA9 hus
      have e5 : u5 = .slice a2 n2 c2 := hI.val 5 _ rfl (gen_after 5 (by kernel_rfl) hbp)
      subst e5
      have HI := Veil.mk hI
      clear hI
      rw [ha]
      simp only [puts, setAll, List.setIfInBounds_toArray, List.set_cons_zero, List.set_cons_succ]
      go_simp
      exact hK _ _ (gen_val HI.out hus hbs 8 _ _ (by show 8 < 9; decide) (fit_of rfl) rfl hb0 rfl (Below.refl _ _) (by simp only [puts, setAll, List.set_cons_zero, List.set_cons_succ, List.setIfInBounds_toArray]))
    exact Steps.nil
  · intro us wE hus dd hD2 hJ
    obtain ⟨p0, p1, p2, p3, p4, p5, p6, p7, p8, rfl⟩ := lenA9 hus
    have hbE := hJ.below
    have e0 : p0 = .pointer (some ⟨kb, 0, none⟩) := hJ.val 0 _ rfl (hD2 0 (by show 0 < 9; decide))
    subst e0
    have e1 : p1 = .slice a0 n0 c0 := hJ.val 1 _ rfl (hD2 1 (by show 1 < 9; decide))
    subst e1
    have e2 : p2 = .pointer (some ⟨kb, 1, none⟩) := hJ.val 2 _ rfl (hD2 2 (by show 2 < 9; decide))
    subst e2
    have e3 : p3 = .slice a1 n1 c1 := hJ.val 3 _ rfl (hD2 3 (by show 3 < 9; decide))
    subst e3
    have e4 : p4 = .pointer (some ⟨kb, 2, none⟩) := hJ.val 4 _ rfl (hD2 4 (by show 4 < 9; decide))
    subst e4
    have e5 : p5 = .slice a2 n2 c2 := hJ.val 5 _ rfl (hD2 5 (by show 5 < 9; decide))
    subst e5
    have e6 : p6 = .slice a0 n0 c0 := hJ.val 6 _ rfl (hD2 6 (by show 6 < 9; decide))
    subst e6
    have e7 : p7 = .slice a1 n1 c1 := hJ.val 7 _ rfl (hD2 7 (by show 7 < 9; decide))
    subst e7
    have e8 : p8 = .slice a2 n2 c2 := hJ.val 8 _ rfl (hD2 8 (by show 8 < 9; decide))
    subst e8
    clear hJ hD2
    have HE3 := Veil.mk hbE
    clear hbE
    simp only [puts, setAll, List.setIfInBounds_toArray, List.set_cons_zero, List.set_cons_succ]
    have HZ : Veil ((g0.size ≤ 1000000000 ∧ g1.size ≤ 1000000000) ∧ (g0.size ≤ 1000000000 ∧ g2.size ≤ 1000000000) ∧ (g2.size ≤ 1000000000 ∧ g1.size ≤ 1000000000) ∧ (g2.size ≤ 1000000000 ∧ g2.size ≤ 1000000000)) := ⟨by have := HZZ.out; omega⟩
    have HWE := Veil.mk (HB1.out.1.trans (HE3.out.mono HB1.out.1.size))
    have HMC := Veil.mk (fun W => machine_any W)
    clear HC HFT HE3 HB1 HBB HW0
    go_upto_region 7 with (go_at_call 9; ((with_reducible refine (HMC.out _).mono ?_); rintro e w2 ⟨h, A, m, os0, rfl, hp2⟩; have HP2 := Veil.mk hp2; clear hp2))
    obtain ⟨ts0, hl0, hmp⟩ := HP2.out.mpw
    have HM2 := Veil.mk (And.intro hmp (HWE.out.trans (HP2.out.bel.mono HWE.out.size)))
    have HA : Veil (A ≤ w2.heap.size ∧ w.heap.size ≤ A) := ⟨Nat.le_of_lt hmp.mm.alt, Nat.le_trans HWE.out.size HP2.out.lo⟩
    have HL0 := Veil.mk hl0
    have c0 : w2.cell? ⟨m, 0, none⟩ = some (.pointer (some ⟨h, 0, none⟩)) := hmp.mm.cell0
    have HMK := Veil.mk (hmp.make 0 0 (by omega))
    obtain ⟨ub, hub⟩ : ∃ ub, w2.heap.size = ub := ⟨_, rfl⟩
    rw [hub] at HMK HA
    clear hl0 hmp HWE HMC HP2 hub
    go_upto_region 8 with (go_at_call 13; ((with_reducible refine HMK.out.mono ?_); rintro e w3 ⟨rfl, hm3, hk3⟩; have HM3 := Veil.mk (And.intro hm3 (HM2.out.2.trans (hk3.bel.mono HA.out.2))); clear hm3 hk3))
    clear c0 HMK HM2
    have HSX3 := Veil.mk (HS0.out w3 HM3.out.2)
    go_upto_region 9 with (first | (go_at_call 15; ((with_reducible refine HSX3.out.mono ?_); rintro e w4 ⟨rfl, hb4⟩; have HM4 := Veil.mk (And.intro (HM3.out.1.on hb4) (HM3.out.2.trans (hb4.mono HM3.out.2.size))); have HO4 : Veil (Calls Tryz.prog 14 #[.pointer (some ⟨m, 0, none⟩), .pointer (some ⟨ub, 0, none⟩), .string ⟨#[110, 97, 109, 101]⟩, valV (7, 0, s0), .int .i64 5] w4 fun e w' => e = .returned (.tuple #[]) ∧ ∃ pv' F', MP w' h A m (prF 21) (ts0 ++ [⟨ub, 0, 0, pv', .slice none 0 0, .nilIface, 0, F', [(kName, (7, 0, s0), 5)]⟩]) ∧ Bk A w4 w') := ⟨HM4.out.1.own (t := TO.plain ub 0 0 (.slice none 0 0)) (ts1 := ts0) (ts2 := []) rfl (by show 0 < 40000; omega) _ ⟨#[110, 97, 109, 101]⟩ [0, 110, 0, 97, 0, 109, 0, 101] 5 (7, 0, s0) (by decide) (by decide +kernel) (by decide) (by rfl)⟩; clear hb4)) | (go_at_call 14; ((with_reducible refine HO4.out.mono ?_); rintro e w5 ⟨rfl, pv5, F5, hm5, hk5⟩; have HM5 := Veil.mk (And.intro hm5 (HM4.out.2.trans (hk5.bel.mono HA.out.2))); clear hm5 hk5)))
    clear HSX3 HO4 HM3 HM4
    have HSX5 := Veil.mk (HS1.out w5 HM5.out.2)
    go_upto_region 10 with (first | (go_at_call 15; ((with_reducible refine HSX5.out.mono ?_); rintro e w6 ⟨rfl, hb6⟩; have HM6 := Veil.mk (And.intro (HM5.out.1.on hb6) (HM5.out.2.trans (hb6.mono HM5.out.2.size))); have HO6 : Veil (Calls Tryz.prog 14 #[.pointer (some ⟨m, 0, none⟩), .pointer (some ⟨ub, 0, none⟩), .string ⟨#[109, 101, 115, 115, 97, 103, 101]⟩, valV (7, 0, s1), .int .i64 5] w6 fun e w' => e = .returned (.tuple #[]) ∧ ∃ pv' F', MP w' h A m (prF 21) (ts0 ++ [⟨ub, 0, 0, pv', .slice none 0 0, .nilIface, 0, F', [(kName, (7, 0, s0), 5), (kMsg, (7, 0, s1), 5)]⟩]) ∧ Bk A w6 w') := ⟨HM6.out.1.own (t := ⟨ub, 0, 0, pv5, .slice none 0 0, .nilIface, 0, F5, [(kName, (7, 0, s0), 5)]⟩) (ts1 := ts0) (ts2 := []) rfl (by show 1 < 40000; omega) _ ⟨#[109, 101, 115, 115, 97, 103, 101]⟩ [0, 109, 0, 101, 0, 115, 0, 115, 0, 97, 0, 103, 0, 101] 5 (7, 0, s1) (by decide) (by decide +kernel) (by decide) (by show (decide (kName ≠ kMsg) && true) = true; decide +kernel)⟩; clear hb6)) | (go_at_call 14; ((with_reducible refine HO6.out.mono ?_); rintro e w7 ⟨rfl, pv7, F7, hm7, hk7⟩; have HM7 := Veil.mk (And.intro hm7 (HM6.out.2.trans (hk7.bel.mono HA.out.2))); clear hm7 hk7)))
    clear HSX5 HO6 HM5 HM6
    have c0 : w7.cell? ⟨m, 0, none⟩ = some (.pointer (some ⟨h, 0, none⟩)) := HM7.out.1.mm.cell0
    obtain ⟨rb, hrb⟩ : ∃ rb, w7.heap.size = rb := ⟨_, rfl⟩
    have HMR : Veil (Calls Tryz.prog 13 #[.pointer (some ⟨h, 0, none⟩), .int .i64 12, .int .i64 ((ts0.length : Int) + 1)] w7 fun e w' => e = .returned (.tuple #[.int .i64 (((ts0.length : Int) + 1) + 1), .pointer (some ⟨rb, 0, none⟩)]) ∧ MP w' h A m (prF 21) ((ts0 ++ [(⟨ub, 0, 0, pv7, .slice none 0 0, .nilIface, 0, F7, [(kName, (7, 0, s0), 5), (kMsg, (7, 0, s1), 5)]⟩ : TO)]) ++ [TO.plain rb 12 ((ts0.length : Int) + 1) (.slice none 0 0)]) ∧ Bk A w7 w') := ⟨by
      have h9 := HM7.out.1.make 12 ((ts0.length : Int) + 1) (by rw [List.length_append]; show ts0.length + 1 < 100000; have := HL0.out; omega)
      rw [show (((ts0 ++ [(⟨ub, 0, 0, pv7, .slice none 0 0, .nilIface, 0, F7, [(kName, (7, 0, s0), 5), (kMsg, (7, 0, s1), 5)]⟩ : TO)]).length : Nat) : Int) = ((ts0.length : Int) + 1) by rw [List.length_append]; rfl, hrb] at h9
      exact h9⟩
    clear hrb
    go_upto_region 11 with (go_at_call 13; ((with_reducible refine HMR.out.mono ?_); rintro e w8 ⟨rfl, hm8, hk8⟩; have HM8 := Veil.mk (And.intro hm8 (HM7.out.2.trans (hk8.bel.mono HA.out.2))); clear hm8 hk8))
    clear c0 HMR HM7
    go_upto_region 13 with (fail)
    have HSX8 := Veil.mk (HS2.out w8 HM8.out.2)
    go_upto_region 14 with (first | (go_at_call 15; ((with_reducible refine HSX8.out.mono ?_); rintro e w9 ⟨rfl, hb9⟩; have HM9 := Veil.mk (And.intro (HM8.out.1.on hb9) (HM8.out.2.trans (hb9.mono HM8.out.2.size))); have HO9 : Veil (Calls Tryz.prog 14 #[.pointer (some ⟨m, 0, none⟩), .pointer (some ⟨rb, 0, none⟩), .string ⟨#[109, 101, 115, 115, 97, 103, 101]⟩, valV (7, 0, s2), .int .i64 5] w9 fun e w' => e = .returned (.tuple #[]) ∧ ∃ pv' F', MP w' h A m (prF 21) ((ts0 ++ [(⟨ub, 0, 0, pv7, .slice none 0 0, .nilIface, 0, F7, [(kName, (7, 0, s0), 5), (kMsg, (7, 0, s1), 5)]⟩ : TO)]) ++ [⟨rb, 12, ((ts0.length : Int) + 1), pv', .slice none 0 0, .nilIface, 0, F', [(kMsg, (7, 0, s2), 5)]⟩]) ∧ Bk A w9 w') := ⟨HM9.out.1.own (t := TO.plain rb 12 ((ts0.length : Int) + 1) (.slice none 0 0)) (ts1 := (ts0 ++ [(⟨ub, 0, 0, pv7, .slice none 0 0, .nilIface, 0, F7, [(kName, (7, 0, s0), 5), (kMsg, (7, 0, s1), 5)]⟩ : TO)])) (ts2 := []) rfl (by show 0 < 40000; omega) _ ⟨#[109, 101, 115, 115, 97, 103, 101]⟩ [0, 109, 0, 101, 0, 115, 0, 115, 0, 97, 0, 103, 0, 101] 5 (7, 0, s2) (by decide) (by decide +kernel) (by decide) (by rfl)⟩; clear hb9)) | (go_at_call 14; ((with_reducible refine HO9.out.mono ?_); rintro e w10 ⟨rfl, pv10, F10, hm10, hk10⟩; have HM10 := Veil.mk (And.intro hm10 (HM9.out.2.trans (hk10.bel.mono HA.out.2))); clear hm10 hk10)))
    clear HSX8 HO9 HM8 HM9
    go_upto_region 17 with (fail)
    have HSX10 := Veil.mk (HS2.out w10 HM10.out.2)
    go_upto_region 18 with (first | (go_at_call 15; ((with_reducible refine HSX10.out.mono ?_); rintro e w11 ⟨rfl, hb11⟩; have HM11 := Veil.mk (And.intro (HM10.out.1.on hb11) (HM10.out.2.trans (hb11.mono HM10.out.2.size))); have HO11 : Veil (Calls Tryz.prog 14 #[.pointer (some ⟨m, 0, none⟩), .pointer (some ⟨rb, 0, none⟩), .string ⟨#[110, 97, 109, 101]⟩, valV (7, 0, s2), .int .i64 5] w11 fun e w' => e = .returned (.tuple #[]) ∧ ∃ pv' F', MP w' h A m (prF 21) ((ts0 ++ [(⟨ub, 0, 0, pv7, .slice none 0 0, .nilIface, 0, F7, [(kName, (7, 0, s0), 5), (kMsg, (7, 0, s1), 5)]⟩ : TO)]) ++ [⟨rb, 12, ((ts0.length : Int) + 1), pv', .slice none 0 0, .nilIface, 0, F', [(kMsg, (7, 0, s2), 5), (kName, (7, 0, s2), 5)]⟩]) ∧ Bk A w11 w') := ⟨HM11.out.1.own (t := ⟨rb, 12, ((ts0.length : Int) + 1), pv10, .slice none 0 0, .nilIface, 0, F10, [(kMsg, (7, 0, s2), 5)]⟩) (ts1 := (ts0 ++ [(⟨ub, 0, 0, pv7, .slice none 0 0, .nilIface, 0, F7, [(kName, (7, 0, s0), 5), (kMsg, (7, 0, s1), 5)]⟩ : TO)])) (ts2 := []) rfl (by show 1 < 40000; omega) _ ⟨#[110, 97, 109, 101]⟩ [0, 110, 0, 97, 0, 109, 0, 101] 5 (7, 0, s2) (by decide) (by decide +kernel) (by decide) (by show (decide (kMsg ≠ kName) && true) = true; decide +kernel)⟩; clear hb11)) | (go_at_call 14; ((with_reducible refine HO11.out.mono ?_); rintro e w12 ⟨rfl, pv12, F12, hm12, hk12⟩; have HM12 := Veil.mk (And.intro hm12 (HM11.out.2.trans (hk12.bel.mono HA.out.2))); clear hm12 hk12)))
    clear HSX10 HO11 HM10 HM11
    go_upto_region 19 with (fail)
    have HSX := Veil.mk (HS2.out w12 HM12.out.2)
    go_upto_region 20 with (first | (go_at_call 15; ((with_reducible refine HSX.out.mono ?_); rintro e w13 ⟨rfl, hb13⟩; have HM13 := Veil.mk (And.intro (HM12.out.1.on hb13) (HM12.out.2.trans (hb13.mono HM12.out.2.size))); clear hb13)) | (go_at_call 16; ((with_reducible refine (HG2.out _).mono ?_); rintro e w14 ⟨rfl, hb14⟩; have HM14 := Veil.mk (And.intro (HM13.out.1.on hb14) (HM13.out.2.trans (hb14.mono HM13.out.2.size))); clear hb14)))
    clear HSX HM12 HM13
    by_cases hz : n2 = 0
    · have hz9 : (decide (n2 = 0)) = true := decide_eq_true hz
      have hzi : ¬ (0 : Int) < (n2 : Int) := by omega
      go_upto_region 22 with (fail)
      have HWO : Veil (∀ w', Below w14.heap.size w14 w' → Calls Tryz.prog 17 #[.pointer (some ⟨m, 0, none⟩), valV (9, ((ts0.length : Int) + 1) + 1, ⟨#[]⟩)] w' fun e w9 => e = .returned (.string g2) ∧ Below w'.heap.size w' w9) := ⟨by
        have h9 := HM14.out.1.woe (by rw [List.length_append, List.length_append]; show ts0.length + 1 + 1 < 1000000; have := HL0.out; omega) (ts0.length + 1) ts0.length (⟨rb, 12, ((ts0.length : Int) + 1), pv12, .slice none 0 0, .nilIface, 0, F12, [(kMsg, (7, 0, s2), 5), (kName, (7, 0, s2), 5)]⟩ : TO) (⟨ub, 0, 0, pv7, .slice none 0 0, .nilIface, 0, F7, [(kName, (7, 0, s0), 5), (kMsg, (7, 0, s1), 5)]⟩ : TO) (by rw [List.getElem?_append_right (by rw [List.length_append]; exact Nat.le_refl _), List.length_append]; show ([_] : List TO)[ts0.length + 1 - (ts0.length + 1)]? = _; rw [Nat.sub_self]; rfl) (by rw [List.append_assoc, List.getElem?_append_right (Nat.le_refl _), Nat.sub_self]; rfl) rfl rfl rfl rfl 5 5 s2 s2 g2 g2 true (by rw [HE2.out]; exact hz9) HZ.out.2.2.2 (by kernel_rfl) (by kernel_rfl) HG2.out HG2.out
        rw [show ((((ts0.length + 1) : Nat)) : Int) + 1 = ((ts0.length : Int) + 1) + 1 by omega] at h9
        exact h9⟩
      have HSW : Veil (∀ w', Below w14.heap.size w14 w' → Calls Tryz.prog 11 #[.pointer (some ⟨m, 0, none⟩), valV (9, ((ts0.length : Int) + 1) + 1, ⟨#[]⟩)] w' fun e w9 => e = .returned (.string g2) ∧ Below w'.heap.size w' w9) := ⟨fun w' hb => by
        have h9 := (HM14.out.1.on hb).errshow (ts0.length + 1) (⟨rb, 12, ((ts0.length : Int) + 1), pv12, .slice none 0 0, .nilIface, 0, F12, [(kMsg, (7, 0, s2), 5), (kName, (7, 0, s2), 5)]⟩ : TO) (by rw [List.getElem?_append_right (by rw [List.length_append]; exact Nat.le_refl _), List.length_append]; show ([_] : List TO)[ts0.length + 1 - (ts0.length + 1)]? = _; rw [Nat.sub_self]; rfl) rfl g2 (fun w9 hb9 => by
          rw [show ((((ts0.length + 1) : Nat)) : Int) + 1 = ((ts0.length : Int) + 1) + 1 by omega]
          exact HWO.out w9 (hb.trans (hb9.mono hb.size)))
        rw [show ((((ts0.length + 1) : Nat)) : Int) + 1 = ((ts0.length : Int) + 1) + 1 by omega] at h9
        exact h9⟩
      have HVO := Veil.mk (fun w => object_mk (((ts0.length : Int) + 1) + 1) w)
      obtain ⟨want, hwant⟩ : ∃ want : ByteArray, g2 = want := ⟨_, rfl⟩
      rw [hwant] at HWO HSW ⊢
      clear hwant
      go_wp2_with (first | (go_at_call 18; ((with_reducible refine (HVO.out _).mono ?_); first | (rintro e w17 ⟨rfl, hb17⟩; have HSW2 := Veil.mk (HSW.out w17 (HBY.out.trans (hb17.mono HBY.out.size))); have HBZ := Veil.mk (HBY.out.trans (hb17.mono HBY.out.size)); clear hb17) | (rintro e w15 ⟨rfl, hb15⟩; have HWO2 := Veil.mk (HWO.out w15 hb15); have HBX := Veil.mk hb15; clear hb15))) | (go_at_call 17; ((with_reducible refine HWO2.out.mono ?_); rintro e w16 ⟨rfl, hb16⟩; have HBY := Veil.mk (HBX.out.trans (hb16.mono HBX.out.size)); clear hb16)) | (go_at_call 11; ((with_reducible refine HSW2.out.mono ?_); rintro e w18 ⟨rfl, hb18⟩)))
      go_ret
      exact ⟨rfl, HM14.out.2.trans ((HBZ.out.trans (hb18.mono HBZ.out.size)).mono HM14.out.2.size)⟩
    · have hz9 : (decide (n2 = 0)) = false := decide_eq_false hz
      have hzi : (0 : Int) < (n2 : Int) := by omega
      have hg1 : ¬ 9223372036854775807 < 2 + g2.size := by have := HZZ.out; omega
      have hg2 : ¬ 9223372036854775807 < g2.size + (2 + g2.size) := by have := HZZ.out; omega
      have HSX := Veil.mk (HS2.out w14 HM14.out.2)
      go_upto_region 22 with (first | (go_at_call 15; ((with_reducible refine HSX.out.mono ?_); rintro e w15 ⟨rfl, hb15⟩; have HM15 := Veil.mk (And.intro (HM14.out.1.on hb15) (HM14.out.2.trans (hb15.mono HM14.out.2.size))); clear hb15)) | (go_at_call 16; ((with_reducible refine (HG2.out _).mono ?_); rintro e w16 ⟨rfl, hb16⟩; have HM16 := Veil.mk (And.intro (HM15.out.1.on hb16) (HM15.out.2.trans (hb16.mono HM15.out.2.size))); clear hb16)))
      clear HSX HM14 HM15 hg1 hg2
      have HWO : Veil (∀ w', Below w16.heap.size w16 w' → Calls Tryz.prog 17 #[.pointer (some ⟨m, 0, none⟩), valV (9, ((ts0.length : Int) + 1) + 1, ⟨#[]⟩)] w' fun e w9 => e = .returned (.string (g2 ++ ⟨#[58, 32]⟩ ++ g2)) ∧ Below w'.heap.size w' w9) := ⟨by
        have h9 := HM16.out.1.woe (by rw [List.length_append, List.length_append]; show ts0.length + 1 + 1 < 1000000; have := HL0.out; omega) (ts0.length + 1) ts0.length (⟨rb, 12, ((ts0.length : Int) + 1), pv12, .slice none 0 0, .nilIface, 0, F12, [(kMsg, (7, 0, s2), 5), (kName, (7, 0, s2), 5)]⟩ : TO) (⟨ub, 0, 0, pv7, .slice none 0 0, .nilIface, 0, F7, [(kName, (7, 0, s0), 5), (kMsg, (7, 0, s1), 5)]⟩ : TO) (by rw [List.getElem?_append_right (by rw [List.length_append]; exact Nat.le_refl _), List.length_append]; show ([_] : List TO)[ts0.length + 1 - (ts0.length + 1)]? = _; rw [Nat.sub_self]; rfl) (by rw [List.append_assoc, List.getElem?_append_right (Nat.le_refl _), Nat.sub_self]; rfl) rfl rfl rfl rfl 5 5 s2 s2 g2 g2 false (by rw [HE2.out]; exact hz9) HZ.out.2.2.2 (by kernel_rfl) (by kernel_rfl) HG2.out HG2.out
        rw [show ((((ts0.length + 1) : Nat)) : Int) + 1 = ((ts0.length : Int) + 1) + 1 by omega] at h9
        exact h9⟩
      have HSW : Veil (∀ w', Below w16.heap.size w16 w' → Calls Tryz.prog 11 #[.pointer (some ⟨m, 0, none⟩), valV (9, ((ts0.length : Int) + 1) + 1, ⟨#[]⟩)] w' fun e w9 => e = .returned (.string (g2 ++ ⟨#[58, 32]⟩ ++ g2)) ∧ Below w'.heap.size w' w9) := ⟨fun w' hb => by
        have h9 := (HM16.out.1.on hb).errshow (ts0.length + 1) (⟨rb, 12, ((ts0.length : Int) + 1), pv12, .slice none 0 0, .nilIface, 0, F12, [(kMsg, (7, 0, s2), 5), (kName, (7, 0, s2), 5)]⟩ : TO) (by rw [List.getElem?_append_right (by rw [List.length_append]; exact Nat.le_refl _), List.length_append]; show ([_] : List TO)[ts0.length + 1 - (ts0.length + 1)]? = _; rw [Nat.sub_self]; rfl) rfl (g2 ++ ⟨#[58, 32]⟩ ++ g2) (fun w9 hb9 => by
          rw [show ((((ts0.length + 1) : Nat)) : Int) + 1 = ((ts0.length : Int) + 1) + 1 by omega]
          exact HWO.out w9 (hb.trans (hb9.mono hb.size)))
        rw [show ((((ts0.length + 1) : Nat)) : Int) + 1 = ((ts0.length : Int) + 1) + 1 by omega] at h9
        exact h9⟩
      have HVO := Veil.mk (fun w => object_mk (((ts0.length : Int) + 1) + 1) w)
      obtain ⟨want, hwant⟩ : ∃ want : ByteArray, (g2 ++ ⟨#[58, 32]⟩ ++ g2) = want := ⟨_, rfl⟩
      rw [ba_assoc]
      rw [hwant] at HWO HSW ⊢
      clear hwant
      go_wp2_with (first | (go_at_call 18; ((with_reducible refine (HVO.out _).mono ?_); first | (rintro e w19 ⟨rfl, hb19⟩; have HSW2 := Veil.mk (HSW.out w19 (HBY.out.trans (hb19.mono HBY.out.size))); have HBZ := Veil.mk (HBY.out.trans (hb19.mono HBY.out.size)); clear hb19) | (rintro e w17 ⟨rfl, hb17⟩; have HWO2 := Veil.mk (HWO.out w17 hb17); have HBX := Veil.mk hb17; clear hb17))) | (go_at_call 17; ((with_reducible refine HWO2.out.mono ?_); rintro e w18 ⟨rfl, hb18⟩; have HBY := Veil.mk (HBX.out.trans (hb18.mono HBX.out.size)); clear hb18)) | (go_at_call 11; ((with_reducible refine HSW2.out.mono ?_); rintro e w20 ⟨rfl, hb20⟩)))
      go_ret
      exact ⟨rfl, HM16.out.2.trans ((HBZ.out.trans (hb20.mono HBZ.out.size)).mono HM16.out.2.size)⟩
end Go.Proofs.YtgdkjkfbknbgkaaGreatDoor
namespace Go.Proofs.YtgdkjkfbknbgkaaGreatDoor
open Go.ChangeMaps Go.ChangeShapes Go.WideShapes Go.ChangeAt Go.WideMaps Go.WideElems Go.RowKit Go.Deep
theorem cellsSl : Tryz.prog.cellsOf 38 = 1 := by kernel_rfl
theorem cellsA3 : Tryz.prog.cellsOf 39 = 3 := by kernel_rfl
theorem cellsU16 : Tryz.prog.cellsOf 105 = 1 := by kernel_rfl
section
variable {H : Type} {enc : TypeId × Value → H}
set_option maxRecDepth 100000 in
theorem nums16_trod {WW : World} {v : Value} {fuel : Nat} {x : DataW H × List MemPlace} (hf : DataW.trod enc Tryz.prog WW 0 (fun _ => true) true fuel 38 [v] = some x) :
    ∃ (a : Option Addr) (n ca : Nat) (l : List Nat), v = .slice a n ca ∧ n ≤ ca ∧ (∀ u ∈ l, u < 65536) ∧ W.Nums .u16 WW a n l := by
  rcases open_ints Tryz.underlying38 Tryz.underlying105 cellsU16 hf with ⟨hcs, hx⟩ | ⟨a, len, cap, zs, hcs, _, hl, hm, hz, hx, hcell, hwz⟩
  · obtain rfl : v = .slice none 0 0 := by simpa using hcs
    exact ⟨none, 0, 0, [], rfl, Nat.le_refl _, fun u hu => by simp at hu, rfl, fun h0 => absurd h0 (by omega)⟩
  · obtain rfl : v = .slice (some a) len cap := by simpa using hcs
    simp only [if_true] at hz
    have hwf : ∀ n ∈ zs, 0 ≤ n ∧ n < 65536 := fun n hn => by
      have := hwz n hn
      have h12 : IntKind.u16.min ≤ n ∧ n ≤ IntKind.u16.max := by simpa [Lit.wf] using this
      obtain ⟨h1, h2⟩ := h12
      have e1 : IntKind.u16.min = 0 := by rfl
      have e2 : IntKind.u16.max = 65535 := by rfl
      rw [e1] at h1; rw [e2] at h2
      omega
    refine ⟨some a, len, cap, (zs.take len).map Int.toNat, rfl, hl, ?_, ?_, fun h0 => ?_⟩
    · intro u hu
      obtain ⟨z, hzm, rfl⟩ := List.mem_map.1 hu
      have := hwf z (List.mem_of_mem_take hzm)
      omega
    · rw [List.length_map, List.length_take]; omega
    · have h00 := hcell 0 (by omega)
      obtain ⟨b, off, spot⟩ := a
      have hspot : spot = none := by simpa [Addr.add] using World.cell?_spot h00
      subst hspot
      have hlt := World.block_lt_of_cell? WW _ h00
      refine ⟨b, off, rfl, by simpa [Addr.add] using hlt, fun i hi => ?_⟩
      have hci := hcell i (by omega)
      have hzi : zs.getD i 0 = (((((zs.take len).map Int.toNat)[i]?.getD 0 : Nat)) : Int) := by
        have hi2 : i < zs.length := by omega
        have := hwf (zs[i]) (List.getElem_mem hi2)
        rw [List.getElem?_map, List.getElem?_take, if_pos hi, List.getElem?_eq_getElem hi2]
        simp [List.getD, List.getElem?_eq_getElem hi2]
        omega
      rw [← hzi]
      have ea : (⟨b, off, none⟩ : Addr).add i = ⟨b, off + i, none⟩ := by
        unfold Addr.add; split <;> simp_all
      rw [ea] at hci
      exact hci
end
section
variable {H : Type} {enc : TypeId × Value → H}
set_option maxRecDepth 100000 in
theorem rows3_open {WW : World} {v : Value} {d : DataW H} {ps : List MemPlace} (hval : Value.okWide Tryz.prog WW .any 0 39 v) (h : DataW.Trod enc Tryz.prog WW 0 (fun _ => true) true 39 v d ps) :
    ∃ (a0 : Option Addr) (n0 c0 : Nat) (l0 : List Nat) (a1 : Option Addr) (n1 c1 : Nat) (l1 : List Nat) (a2 : Option Addr) (n2 c2 : Nat) (l2 : List Nat), v = .agg #[.slice a0 n0 c0, .slice a1 n1 c1, .slice a2 n2 c2] ∧ (∀ u ∈ l0, u < 65536) ∧ (∀ u ∈ l1, u < 65536) ∧ (∀ u ∈ l2, u < 65536) ∧ W.Nums .u16 WW a0 n0 l0 ∧ W.Nums .u16 WW a1 n1 l1 ∧ W.Nums .u16 WW a2 n2 l2 := by
  simp only [Value.okWide, Tryz.underlying39] at hval
  obtain ⟨cs, rfl, hsz, -⟩ := hval
  obtain ⟨x0, x1, x2, rfl⟩ := Go.Joins.array3 (hsz.trans cellsA3)
  obtain ⟨fuel, hf⟩ := h
  obtain ⟨xs, m, -, -, -, hxl, hi⟩ := DataW.trod_array Tryz.underlying39 hf
  rw [cellsSl] at hi
  have get : ∀ i, i < 3 → ∃ y, xs[i]? = some y := fun i h9 => ⟨_, List.getElem?_eq_getElem (by omega)⟩
  obtain ⟨y0, e0⟩ := get 0 (by omega)
  obtain ⟨y1, e1⟩ := get 1 (by omega)
  obtain ⟨y2, e2⟩ := get 2 (by omega)
  have i0 := hi 0 (by omega)
  have i1 := hi 1 (by omega)
  have i2 := hi 2 (by omega)
  rw [e0] at i0
  rw [e1] at i1
  rw [e2] at i2
  obtain ⟨a0, n0, c0, l0, rfl, -, q0, r0⟩ := nums16_trod i0
  obtain ⟨a1, n1, c1, l1, rfl, -, q1, r1⟩ := nums16_trod i1
  obtain ⟨a2, n2, c2, l2, rfl, -, q2, r2⟩ := nums16_trod i2
  exact ⟨a0, n0, c0, l0, a1, n1, c1, l1, a2, n2, c2, l2, rfl, q0, q1, q2, r0, r1, r2⟩
end
theorem empty_strU (l : List Nat) (n : Nat) (hn : l.length = n) : ((W.strU l).toList == []) = decide (n = 0) := by
  rw [ByteArray.toList_eq]
  show ((l.flatMap W.u2).toArray.toList == []) = _
  subst hn
  cases l with
  | nil => rfl
  | cons u r => rfl
theorem gosize (l : List Nat) (h : l.length ≤ 200) : (⟨(W.goL (W.signs l)).toArray⟩ : ByteArray).size ≤ 100000 := by
  have h1 := W.goL_len (W.signs l)
  have h2 := W.signs_count l
  show (W.goL _).toArray.size ≤ _
  simp only [List.size_toArray]
  omega
theorem woes_any (a0 a1 a2 : Option Addr) (n0 n1 n2 c0 c1 c2 : Nat) (how : Int) (l0 l1 l2 : List Nat) (w : World) (hl0 : ∀ u ∈ l0, u < 65536) (hN0 : W.Nums .u16 w a0 n0 l0) (hl1 : ∀ u ∈ l1, u < 65536) (hN1 : W.Nums .u16 w a1 n1 l1) (hl2 : ∀ u ∈ l2, u < 65536) (hN2 : W.Nums .u16 w a2 n2 l2) : Calls Tryz.prog 4 #[.agg #[.slice a0 n0 c0, .slice a1 n1 c1, .slice a2 n2 c2], .int .i64 how] w fun e w' => e = .returned (.bool true) ∧ Below w.heap.size w w' := by
  by_cases h0 : (200 : Int) < (n0 : Int)
  · exact woes_long1 a0 a1 a2 n0 n1 n2 c0 c1 c2 how h0 w
  by_cases h1 : (200 : Int) < (n1 : Int)
  · exact woes_long2 a0 a1 a2 n0 n1 n2 c0 c1 c2 how h0 h1 w
  by_cases h2 : (200 : Int) < (n2 : Int)
  · exact woes_long3 a0 a1 a2 n0 n1 n2 c0 c1 c2 how h0 h1 h2 w
  have e0 := hN0.1
  have e1 := hN1.1
  have e2 := hN2.1
  have HS : ∀ (a : Option Addr) (n c : Nat) (l : List Nat), n ≤ 200 → (∀ u ∈ l, u < 65536) → W.Nums .u16 w a n l → Veil (∀ w', Below w.heap.size w w' → Calls Tryz.prog 15 #[.slice a n c] w' fun e w9 => e = .returned (.string (W.strU l)) ∧ Below w'.heap.size w' w9) := fun a n c l hn hl hN => ⟨fun w' hb => W.lawStr_any a n c l (by omega) hl w' (hN.on hb)⟩
  have HG : ∀ (l : List Nat), l.length ≤ 200 → (∀ u ∈ l, u < 65536) → Veil (∀ w', Calls Tryz.prog 16 #[.string (W.strU l)] w' fun e w9 => e = .returned (.string ⟨(W.goL (W.signs l)).toArray⟩) ∧ Below w'.heap.size w' w9) := fun l hn hl => ⟨fun w' => W.go_at l _ _ ⟨rfl⟩ hl (by omega) ⟨rfl⟩ w'⟩
  have S0 := HS a0 n0 c0 l0 (by omega) hl0 hN0
  have S1 := HS a1 n1 c1 l1 (by omega) hl1 hN1
  have S2 := HS a2 n2 c2 l2 (by omega) hl2 hN2
  have G0 := HG l0 (by omega) hl0
  have G1 := HG l1 (by omega) hl1
  have G2 := HG l2 (by omega) hl2
  have E1 := Veil.mk (empty_strU l1 n1 e1)
  have E2 := Veil.mk (empty_strU l2 n2 e2)
  have Z := Veil.mk (And.intro (gosize l0 (by omega)) (And.intro (gosize l1 (by omega)) (gosize l2 (by omega))))
  cases q1 : (bits .and .i64 how 1 == 1) with
  | false =>
    cases q2 : (bits .and .i64 how 2 == 2) with
    | false => exact woes_00 a0 a1 a2 n0 n1 n2 c0 c1 c2 how h0 h1 h2 q1 q2 _ _ _ _ _ w S0 G0 S1 G1 E1 Z
    | true => exact woes_01 a0 a1 a2 n0 n1 n2 c0 c1 c2 how h0 h1 h2 q1 q2 _ _ _ _ _ _ w S0 S1 G1 E1 S2 G2 Z
  | true =>
    cases q2 : (bits .and .i64 how 2 == 2) with
    | false => exact woes_10 a0 a1 a2 n0 n1 n2 c0 c1 c2 how h0 h1 h2 q1 q2 _ _ _ _ _ _ w S0 G0 S1 S2 G2 E2 Z
    | true => exact woes_11 a0 a1 a2 n0 n1 n2 c0 c1 c2 how h0 h1 h2 q1 q2 _ _ _ _ _ _ w S0 S1 S2 G2 E2 Z

section
set_option maxRecDepth 100000 in
theorem showWoes_lifted (os : Os) (started : os.Started) (H : Type) (enc : TypeId × Value → H) :
    ReturnsInHanded {} Tryz.checked os 4 .any (fun w args => (Rows.showWoesSpec.pre enc Tryz.prog Tryz.f4 [] false w args ∧ laidMetH Tryz.prog tabs3 w) ∧ sizedMet enc Tryz.prog Tryz.f4 (OpenSpec.ofChange Rows.showWoesSpec) false w args)
      (Rows.showWoesSpec.post enc Tryz.prog Tryz.f4 false true false false) := by
  refine returnsInHanded_of_change_and (C := Tryz.checked) (X := fun w _ => laidMetH Tryz.prog tabs3 w) (fun _ _ _ hh h => h.of_heap hh) own started (by kernel_rfl) Tryz.func4
    (ChangeSpec.witness_shaped (enc := enc) (C := Tryz.checked) (os := os) (X := fun w _ => laidMetH Tryz.prog tabs3 w) false (World.doorLaid Tryz.prog 4000 os) #[.agg #[.slice none 0 0, .slice none 0 0, .slice none 0 0], .int .i64 0] 8 rfl (World.shaped_of_RefB (by kernel_rfl) (by kernel_rfl)) (by kernel_rfl) (by kernel_rfl) (by kernel_rfl) (door_met3 os _)) ?_
  intro W base args ds gs before hval0 hW _ _ hL _
  have hval : ∀ (j : Nat) t v, Tryz.f4.params[j]? = some t → args[j]? = some v → Value.okWide Tryz.prog W .any base t v := hval0
  have hW' := hW
  obtain ⟨p, q, hA0, hV, rfl, hfz, hnd⟩ := hW
  have hA : DataW.TrodAll enc Tryz.prog W 0 (fun _ => true) true Tryz.f4.params.toList args.toList ds p := hA0
  rw [Tryz.params4] at hA hval
  obtain ⟨v0, vs0, d0, ds0, p0, q0, hargs, rfl, rfl, h0, r0⟩ := trodAll_cons hA
  obtain ⟨v1, vs1, d1, ds1, p1, q1, rfl, rfl, rfl, h1, r1⟩ := trodAll_cons r0
  obtain ⟨rfl, rfl, rfl⟩ := trodAll_nil r1
  obtain rfl : args = #[v0, v1] := by cases args; simp_all
  obtain ⟨rfl, rfl⟩ := trodVars_none hV
  clear hA0 hval0
  simp only [List.append_nil] at hW'
  obtain ⟨a0, n0, c0, l0, a1, n1, c1, l1, a2, n2, c2, l2, rfl, hl0, hl1, hl2, hN0, hN1, hN2⟩ := rows3_open (hval 0 39 v0 rfl rfl) h0
  obtain ⟨hw, rfl, rfl, rfl, w1⟩ := open_int Tryz.underlying3 (hval 1 3 v1 rfl rfl) h1
  refine (woes_any a0 a1 a2 n0 n1 n2 c0 c1 c2 hw l0 l1 l2 W hl0 hN0 hl1 hN1 hl2 hN2).mono fun e W' ⟨he, hg⟩ => ?_
  subst he
  exact ⟨_, rfl, law_post hW' hg rfl rfl rfl (by kernel_rfl)⟩

theorem showWoes_said : Rows.ShowWoesSaid :=
  OpenClaim.holds_of_wide 4 Tryz.f4 rfl rfl rfl rfl rfl rfl rfl ⟨rfl, rfl, rfl, rfl, rfl⟩ rfl rfl rfl rfl rfl (by kernel_rfl) Tryz.func4 (by kernel_rfl)
    (of_decide_eq_true (by kernel_rfl)) (by unfold Func.isWrapper; first | (rw [if_pos (by decide +kernel)]; kernel_rfl) | (rw [if_neg (by decide +kernel)]; exact ⟨rfl, rfl⟩))
    (fun os started H enc _ => showWoes_lifted os started H enc)

/-- The tied card: for every input ShowWoes returns true. -/
theorem showWoes_holds : Rows.ShowWoesCardSaid :=
  Claim7.holds_tied_plain_at .later [] [.data, .data, .data] true (true, "60bf8c98462634c3b074722bdc68b171aeaea1ed434394e796b87e1b431bcde6") true
    showWoes_said (fun _ h => by cases h) (by kernel_rfl) (fun _ h => by cases h) showWoes_row_tie rfl ⟨rfl, rfl⟩ (by kernel_rfl) rfl
    (fun f fn hf hfn => by
      obtain rfl : f = 4 := Option.some.inj ((show Tryz.prog.funcNamed "ossuary/ossuarylaw14.ShowWoes" = some 4 by kernel_rfl).symm.trans hf) |>.symm
      obtain rfl : fn = Tryz.f4 := (Option.some.inj (Tryz.func4.symm.trans hfn)).symm
      exact ⟨by kernel_rfl, fun j t ht => by
        have hall : ((Tryz.f4.params).toList.all fun u => !Tryz.prog.wantsStandIn u) = true := by kernel_rfl
        have hm : t ∈ (Tryz.f4.params).toList := by simpa using Array.mem_of_getElem? ht
        exact (show Tryz.prog.wantsStandIn t = false by simpa using List.all_eq_true.1 hall t hm)⟩)
    (by kernel_rfl)
#print axioms showWoes_holds
end
end Go.Proofs.YtgdkjkfbknbgkaaGreatDoor
