/- HeapLengths holds: for every list of numbers it returns true; no condition beyond the row (the listed tables lie as the program lays them). -/
import Derived.Test.YtbeapojjbgkalaaDoorMh
import Derived.Test.YtbeapojjbgkalaaDoorKe
import Derived.Test.YtbeapojjbgkalaaDoorQa
import Derived.Test.YtbeapojjbgkalaaDoorTie
import Derived.Test.YtbeapojjbgkalaaDoorCards
import Derived.SevenTiedAt
import Derived.ChangeMaps5
namespace Go.Proofs.YtbeapojjbgkalaaDoor
open Go Go.RowKit

theorem val_len (w : World) : Calls Tryd.prog 21 #[.string ⟨#[108, 101, 110, 103, 116, 104]⟩] w fun e w' => e = .returned (valV (7, 0, lenB)) ∧ Below w.heap.size w w' :=
  W.val_const _ [0, 108, 0, 101, 0, 110, 0, 103, 0, 116, 0, 104] (by decide) (show Hid _ from (by decide +kernel : W.ofB ⟨#[108, 101, 110, 103, 116, 104]⟩ = [0, 108, 0, 101, 0, 110, 0, 103, 0, 116, 0, 104])) w
set_option maxHeartbeats 4000000 in
set_option maxRecDepth 100000 in
theorem lengths_law (a : Option Addr) (m cap : Nat) (l : List Int) (w : World) (hN : IntsR w a m l) :
    Calls Tryd.prog 4 #[.slice a m cap] w fun e w' => e = .returned (.bool true) ∧ Below w.heap.size w w' := by
  have HN := Veil.mk hN
  have hml := hN.1
  have HFT : Veil (∀ w, Calls Tryd.prog 6 #[] w fun e w' => e = .returned (.bool true) ∧ Below w.heap.size w w') := ⟨fit_any⟩
  have HVL : Veil (∀ w, Calls Tryd.prog 21 #[.string ⟨#[108, 101, 110, 103, 116, 104]⟩] w fun e w' => e = .returned (valV (7, 0, lenB)) ∧ Below w.heap.size w w') := ⟨val_len⟩
  clear hN
  by_cases hm : 50 < m
  · have hm' : (50 : Int) < (m : Int) := by omega
    go_enter Tryd.func4, Tryd.ntmps4
    go_wp2_with (first | (go_at_call 6; ((with_reducible refine (HFT.out _).mono ?_); rintro e9 w1 ⟨rfl, hb1⟩)))
    go_ret
    exact ⟨rfl, hb1⟩
  have hm' : ¬ (50 : Int) < (m : Int) := by omega
  go_enter Tryd.func4, Tryd.ntmps4
  go_upto_region 5 with (first | (go_at_call 6; ((with_reducible refine (HFT.out _).mono ?_); rintro e9 w1 ⟨rfl, hb1⟩)))
  have HNW := Veil.mk (heap_new w1)
  have HB1 := Veil.mk hb1
  clear hb1
  go_upto_region 6 with (first | (go_at_call 7; ((with_reducible refine HNW.out.mono ?_); rintro e9 w2 ⟨h, rfl, hb2, hp2⟩)))
  obtain ⟨B, hB⟩ : ∃ B, w1.heap.size = B := ⟨_, rfl⟩
  rw [hB] at hp2
  have HB2 := Veil.mk (show Below w.heap.size w w2 ∧ w.heap.size ≤ B ∧ B ≤ w2.heap.size from ⟨blw2 HB1.out hb2, by have := HB1.out.size; omega, by rw [← hB]; exact hb2.size⟩)
  have HMK : Veil (Calls Tryd.prog 8 #[.pointer (some ⟨h, 0, none⟩), .int .i64 1, .int .i64 0] w2 fun e w' => e = .returned (.tuple #[.int .i64 1, .pointer (some ⟨w2.heap.size, 0, none⟩)]) ∧ ∃ cv' fv' rv', LA w B h B cv' fv' rv' w2.heap.size (.slice none 0 0) 0 (fun _ => zV) w') := ⟨by
    refine (heap_make hp2 1 0 rfl (by decide) (by decide)).mono ?_
    rintro e w' ⟨he, hbo, ht, cv', fv', rv', hp', -⟩
    refine ⟨he, cv', fv', rv', ⟨hp', hbo, EL.nil _ _ _, ⟨HB2.out.2.1, HB2.out.2.2⟩, HB2.out.1.trans (ht.below HB2.out.1.size (fun j hj => ?_))⟩⟩
    have := (AFoot.lt hp2.ar hj).1
    have := HB2.out.2.1
    omega⟩
  clear hb2 hp2 hB HNW HB1
  go_upto_region 7 with (go_at_call 8; ((with_reducible refine HMK.out.mono ?_); rintro e9 w4 ⟨rfl, cv, fv, rv, hls⟩))
  obtain ⟨o, ho⟩ : ∃ o, w2.heap.size = o := ⟨_, rfl⟩
  rw [ho] at hls ⊢
  have H0 := Veil.mk hls
  clear hls ho HMK HB2
  go_wp2
  go_loopw [6, 31] (fun u i wr => ∃ j : Nat, j ≤ m ∧ ∃ (n : Nat) (ev : Value) (xs : Nat → Vt), n ≤ 10000 ∧ u = .int .i64 (n : Int) ∧ i = .int .i64 (j : Int) ∧ LA w B h B cv fv rv o ev n xs wr) (fun _ i _ => m - (intOf i).toNat)
  case atStart => exact ⟨0, by omega, 0, _, _, by omega, rfl, rfl, H0.out⟩
  case round =>
    clear H0
    obtain ⟨j, hj, n, ev, xs, hn, rfl, rfl, hls⟩ := hrel
    have hj0 : (0 : Int) ≤ (j : Int) := by omega
    by_cases hlt : j < m
    · have hlt' : (j : Int) < (m : Int) := by omega
      have hI := HN.out.on hls.bel
      obtain ⟨bl, ol, rfl, -, hcl⟩ := hI.2 (by omega)
      have hcj := hcl j hlt
      obtain ⟨x, hx⟩ : ∃ x, l[j]?.getD 0 = x := ⟨_, rfl⟩
      rw [hx] at hcj
      obtain ⟨k, hk, y1, y2, y3, y4⟩ := rem_nat x 12000 (by omega)
      have y1 : (x.tmod 12000 + 12000).tmod 12000 = (k : Int) := y1
      have y2 : (x.tmod 12000 + 12000) % 12000 = (k : Int) := y2
      have y3 : 0 < x.tmod 12000 + 12000 := y3
      have y4 : x.tmod 12000 < 12000 := y4
      have HC := Veil.mk hls
      clear hls hI hcl hx
      go_upto_region 12 with (fail)
      clear hcj y1 y2 y3 y4
      have hk0 : (0 : Int) ≤ (k : Int) := by omega
      rcases Nat.mod_two_eq_zero_or_one j with hp | hp
      · have p1 : (j : Int).tmod 2 = 0 := by rw [Int.tmod_eq_emod_of_nonneg hj0]; omega
        have p2 : (j : Int) % 2 = 0 := by omega
        clear hp
        by_cases hkk : k ≤ 10000
        · have hk' : (k : Int) ≤ 10000 := by omega
          go_upto_region 14 with (first | (go_at_call 21; ((with_reducible refine (HVL.out _).mono ?_); rintro e9 wv ⟨rfl, hbv⟩; replace HC := Veil.mk (HC.out.on hbv); clear hbv)) | (go_at_call 20; ((with_reducible refine (HC.out.put_len k hkk).mono ?_); rintro e9 wv ⟨rfl, hpv⟩; obtain ⟨ev1, xs1, hc1⟩ := HC.out.elp hpv; replace HC := Veil.mk hc1; clear hpv hc1)))
          go_upto_region 25 with (fail)
          clear p1 p2 hk'
          go_upto_region 26 with (first | (go_at_call 21; ((with_reducible refine (HVL.out _).mono ?_); rintro e9 wv ⟨rfl, hbv⟩; replace HC := Veil.mk (HC.out.on hbv); clear hbv)) | (go_at_call 23; ((with_reducible refine (HC.out.own_len).mono ?_); rintro e9 wv ⟨rfl, hbv⟩; replace HC := Veil.mk (HC.out.on hbv); clear hbv)))
          obtain ⟨W9, hW9⟩ : ∃ W9, W9 = wv.alloc (.cells #[.int .i64 3, .int .i64 (k : Int), .string ⟨#[]⟩] 45) := ⟨_, rfl⟩
          obtain ⟨b8, hb8⟩ : ∃ b8, b8 = wv.heap.size := ⟨_, rfl⟩
          have bx9 := Box.new wv 45 #[.int .i64 3, .int .i64 (k : Int), .string ⟨#[]⟩]
          have hal9 : Below wv.heap.size wv (wv.alloc (.cells #[.int .i64 3, .int .i64 (k : Int), .string ⟨#[]⟩] 45)) := (Below.refl _ _).alloc (Nat.le_refl _) _
          rw [← hW9] at bx9 hal9 ⊢
          rw [← hb8] at bx9 ⊢
          replace HC := Veil.mk (HC.out.on hal9)
          have z1 : W9.cell? ⟨b8, 1, none⟩ = some (.int .i64 (k : Int)) := bx9.at_ 1
          clear bx9 hal9 hW9 hb8
          obtain ⟨ao, cap, hev⟩ := HC.out.el.evs
          have z4 : W9.cell? ⟨o, 4, none⟩ = some (.slice ao k cap) := by rw [← hev]; exact HC.out.ob.at_ 4
          clear hev
          go_wp2
          exact ⟨⟨j + 1, by omega, k, _, _, by omega, by go_num, by go_num, HC.out⟩, by simp [intOf]; omega⟩
        · have hk' : ¬ (k : Int) ≤ 10000 := by omega
          go_upto_region 14 with (first | (go_at_call 21; ((with_reducible refine (HVL.out _).mono ?_); rintro e9 wv ⟨rfl, hbv⟩; replace HC := Veil.mk (HC.out.on hbv); clear hbv)) | (go_at_call 20; ((with_reducible refine (HC.out.put_bad (k : Int) (.inr (by omega))).mono ?_); rintro e9 wv ⟨rfl, hbv⟩; replace HC := Veil.mk (HC.out.on hbv); clear hbv)))
          go_upto_region 25 with (fail)
          clear p1 p2 hk'
          go_upto_region 26 with (first | (go_at_call 21; ((with_reducible refine (HVL.out _).mono ?_); rintro e9 wv ⟨rfl, hbv⟩; replace HC := Veil.mk (HC.out.on hbv); clear hbv)) | (go_at_call 23; ((with_reducible refine (HC.out.own_len).mono ?_); rintro e9 wv ⟨rfl, hbv⟩; replace HC := Veil.mk (HC.out.on hbv); clear hbv)))
          obtain ⟨W9, hW9⟩ : ∃ W9, W9 = wv.alloc (.cells #[.int .i64 3, .int .i64 (n : Int), .string ⟨#[]⟩] 45) := ⟨_, rfl⟩
          obtain ⟨b8, hb8⟩ : ∃ b8, b8 = wv.heap.size := ⟨_, rfl⟩
          have bx9 := Box.new wv 45 #[.int .i64 3, .int .i64 (n : Int), .string ⟨#[]⟩]
          have hal9 : Below wv.heap.size wv (wv.alloc (.cells #[.int .i64 3, .int .i64 (n : Int), .string ⟨#[]⟩] 45)) := (Below.refl _ _).alloc (Nat.le_refl _) _
          rw [← hW9] at bx9 hal9 ⊢
          rw [← hb8] at bx9 ⊢
          replace HC := Veil.mk (HC.out.on hal9)
          have z1 : W9.cell? ⟨b8, 1, none⟩ = some (.int .i64 (n : Int)) := bx9.at_ 1
          clear bx9 hal9 hW9 hb8
          obtain ⟨ao, cap, hev⟩ := HC.out.el.evs
          have z4 : W9.cell? ⟨o, 4, none⟩ = some (.slice ao n cap) := by rw [← hev]; exact HC.out.ob.at_ 4
          clear hev
          go_wp2
          exact ⟨⟨j + 1, by omega, n, _, _, by omega, by go_num, by go_num, HC.out⟩, by simp [intOf]; omega⟩
      · have p1 : (j : Int).tmod 2 = 1 := by rw [Int.tmod_eq_emod_of_nonneg hj0]; omega
        have p2 : (j : Int) % 2 = 1 := by omega
        clear hp
        obtain ⟨i, hi⟩ : ∃ i, k % 300 = i := ⟨_, rfl⟩
        have hi3 : i < 300 := by omega
        have q1 : (k : Int).tmod 300 = (i : Int) := by rw [Int.tmod_eq_emod_of_nonneg hk0]; omega
        have q2 : (k : Int) % 300 = (i : Int) := by omega
        have HDG : Veil (∀ w, Calls Tryd.prog 22 #[.int .i64 (i : Int)] w fun e w' => e = .returned (.string (digS i)) ∧ Below w.heap.size w w') := ⟨digit_any i hi3⟩
        have HVD : Veil (∀ w, Calls Tryd.prog 21 #[.string (digS i)] w fun e w' => e = .returned (valV (7, 0, digK i)) ∧ Below w.heap.size w w') := ⟨val_dig i hi3⟩
        clear hi
        go_upto_region 19 with (fail)
        clear p1 p2 q1 q2
        obtain ⟨x1, hx1⟩ : ∃ x1 : Nat, max n (i + 1) = x1 := ⟨_, rfl⟩
        have hi0 : (0 : Int) ≤ (i : Int) := by omega
        have hi4 : (i : Int) < 300 := by omega
        go_upto_region 20 with (first | (go_at_call 22; ((with_reducible refine (HDG.out _).mono ?_); rintro e9 wv ⟨rfl, hbv⟩; replace HC := Veil.mk (HC.out.on hbv); clear hbv)) | (go_at_call 21; ((with_reducible refine (HVD.out _).mono ?_); rintro e9 wv ⟨rfl, hbv⟩; replace HC := Veil.mk (HC.out.on hbv); clear hbv)) | (go_at_call 20; ((with_reducible refine (HC.out.put_el i hi3 (3, (j : Int), ⟨#[]⟩)).mono ?_); rintro e9 wv ⟨rfl, hpv⟩; obtain ⟨ev1, xs1, hxi, hc1⟩ := HC.out.elq hpv; replace HC := Veil.mk hc1; have HXI := Veil.mk hxi; clear hpv hc1 hxi)))
        go_upto_region 22 with (fail)
        rw [show max (n : Int) ((i : Int) + 1) = ((max n (i + 1) : Nat) : Int) by omega]
        have HOE : Veil (∀ W, Below wv.heap.size wv W → Calls Tryd.prog 23 #[.pointer (some ⟨o, 0, none⟩), valV (7, 0, digK i)] W fun e w' => e = .returned (.tuple #[.agg #[.int .i64 3, .int .i64 (j : Int), .string ⟨#[]⟩], .int .i64 7, .bool true]) ∧ Below W.heap.size W w') := ⟨fun W hb => by
          have h1 := (HC.out.on hb).own_el i hi3 (by omega) (by rw [HXI.out]; show (3 : Int) ≠ 10; decide)
          rw [HXI.out] at h1
          exact h1⟩
        have HST : Veil (Below wv.heap.size wv wv) := ⟨Below.refl _ _⟩
        obtain ⟨ws, hws⟩ : ∃ ws, ws = wv := ⟨_, rfl⟩
        rw [← hws] at HOE HST
        have HST : Veil (Below ws.heap.size ws wv) := ⟨by rw [hws]; exact Below.refl _ _⟩
        clear hws HXI
        rw [hx1] at HC ⊢
        go_upto_region 23 with (first | (go_at_call 22; ((with_reducible refine (HDG.out _).mono ?_); rintro e9 wv ⟨rfl, hbv⟩; replace HC := Veil.mk (HC.out.on hbv); replace HST := Veil.mk (blw2 HST.out hbv); clear hbv)) | (go_at_call 21; ((with_reducible refine (HVD.out _).mono ?_); rintro e9 wv ⟨rfl, hbv⟩; replace HC := Veil.mk (HC.out.on hbv); replace HST := Veil.mk (blw2 HST.out hbv); clear hbv)) | (go_at_call 23; ((with_reducible refine (HOE.out _ HST.out).mono ?_); rintro e9 wv ⟨rfl, hbv⟩; replace HC := Veil.mk (HC.out.on hbv); clear hbv)))
        clear HST HOE HDG HVD
        obtain ⟨W9, hW9⟩ : ∃ W9, W9 = wv.alloc (.cells #[.int .i64 3, .int .i64 (j : Int), .string ⟨#[]⟩] 45) := ⟨_, rfl⟩
        obtain ⟨b7, hb7⟩ : ∃ b7, b7 = wv.heap.size := ⟨_, rfl⟩
        have bx9 := Box.new wv 45 #[.int .i64 3, .int .i64 (j : Int), .string ⟨#[]⟩]
        have hal9 : Below wv.heap.size wv (wv.alloc (.cells #[.int .i64 3, .int .i64 (j : Int), .string ⟨#[]⟩] 45)) := (Below.refl _ _).alloc (Nat.le_refl _) _
        rw [← hW9] at bx9 hal9 ⊢
        rw [← hb7] at bx9 ⊢
        replace HC := Veil.mk (HC.out.on hal9)
        have z1 : W9.cell? ⟨b7, 1, none⟩ = some (.int .i64 (j : Int)) := bx9.at_ 1
        clear bx9 hal9 hW9 hb7
        go_upto_region 25 with (fail)
        clear z1
        have hx2 : x1 ≤ 10000 := by omega
        obtain ⟨wv, rfl⟩ : ∃ wv : World, wv = W9 := ⟨W9, rfl⟩
        go_upto_region 26 with (first | (go_at_call 21; ((with_reducible refine (HVL.out _).mono ?_); rintro e9 wv ⟨rfl, hbv⟩; replace HC := Veil.mk (HC.out.on hbv); clear hbv)) | (go_at_call 23; ((with_reducible refine (HC.out.own_len).mono ?_); rintro e9 wv ⟨rfl, hbv⟩; replace HC := Veil.mk (HC.out.on hbv); clear hbv)))
        obtain ⟨W9, hW9⟩ : ∃ W9, W9 = wv.alloc (.cells #[.int .i64 3, .int .i64 (x1 : Int), .string ⟨#[]⟩] 45) := ⟨_, rfl⟩
        obtain ⟨b8, hb8⟩ : ∃ b8, b8 = wv.heap.size := ⟨_, rfl⟩
        have bx9 := Box.new wv 45 #[.int .i64 3, .int .i64 (x1 : Int), .string ⟨#[]⟩]
        have hal9 : Below wv.heap.size wv (wv.alloc (.cells #[.int .i64 3, .int .i64 (x1 : Int), .string ⟨#[]⟩] 45)) := (Below.refl _ _).alloc (Nat.le_refl _) _
        rw [← hW9] at bx9 hal9 ⊢
        rw [← hb8] at bx9 ⊢
        replace HC := Veil.mk (HC.out.on hal9)
        have z1 : W9.cell? ⟨b8, 1, none⟩ = some (.int .i64 (x1 : Int)) := bx9.at_ 1
        clear bx9 hal9 hW9 hb8
        obtain ⟨ao, cap, hev⟩ := HC.out.el.evs
        have z4 : W9.cell? ⟨o, 4, none⟩ = some (.slice ao x1 cap) := by rw [← hev]; exact HC.out.ob.at_ 4
        clear hev
        go_wp2
        exact ⟨⟨j + 1, by omega, x1, _, _, by omega, by go_num, by go_num, HC.out⟩, by simp [intOf]; omega⟩
    · obtain rfl : j = m := by omega
      have hlt' : ¬ (j : Int) < (j : Int) := by omega
      have HC := Veil.mk hls
      clear hls hj hj0 hlt
      go_wp2_with (first | (go_at_call 21; ((with_reducible refine (HVL.out _).mono ?_); rintro e9 wv ⟨rfl, hbv⟩; replace HC := Veil.mk (HC.out.on hbv); clear hbv)) | (go_at_call 20; ((with_reducible refine (HC.out.put_str).mono ?_); rintro e9 wv ⟨rfl, hbv⟩; replace HC := Veil.mk (HC.out.on hbv); clear hbv)) | (go_at_call 20; ((with_reducible refine (HC.out.put_bad (-1) (.inl (by decide))).mono ?_); rintro e9 wv ⟨rfl, hbv⟩; replace HC := Veil.mk (HC.out.on hbv); clear hbv)) | (go_at_call 24; ((with_reducible refine (HC.out.del_len).mono ?_); rintro e9 wv ⟨rfl, hbv⟩; replace HC := Veil.mk (HC.out.on hbv); clear hbv)))
      go_ret
      exact ⟨rfl, HC.out.bel⟩
end Go.Proofs.YtbeapojjbgkalaaDoor
namespace Go.Proofs.YtbeapojjbgkalaaDoor
open Go.ChangeMaps Go.ChangeShapes Go.WideShapes Go.ChangeAt Go.WideMaps Go.WideElems Go.RowKit Go.Deep

section
set_option maxRecDepth 100000 in
theorem heapLengths_lifted (os : Os) (started : os.Started) (H : Type) (enc : TypeId × Value → H) :
    ReturnsInHanded {} Tryd.checked os 4 .any (fun w args => (Rows.heapLengthsSpec.pre enc Tryd.prog Tryd.f4 [] false w args ∧ laidMetH Tryd.prog tabs3 w) ∧ sizedMet enc Tryd.prog Tryd.f4 (OpenSpec.ofChange Rows.heapLengthsSpec) false w args)
      (Rows.heapLengthsSpec.post enc Tryd.prog Tryd.f4 false true false false) := by
  refine returnsInHanded_of_change_and (C := Tryd.checked) (X := fun w _ => laidMetH Tryd.prog tabs3 w) (fun _ _ _ hh h => h.of_heap hh) own started (by kernel_rfl) Tryd.func4
    (ChangeSpec.witness_shaped (enc := enc) (C := Tryd.checked) (os := os) (X := fun w _ => laidMetH Tryd.prog tabs3 w) false (World.doorLaid Tryd.prog 4000 os) #[.slice none 0 0] 8 rfl (World.shaped_of_RefB (by kernel_rfl) (by kernel_rfl)) (by kernel_rfl) (by kernel_rfl) (by kernel_rfl) (door_met3 os _)) ?_
  intro W base args ds gs before hval0 hW _ _ hL _
  have hval : ∀ (j : Nat) t v, Tryd.f4.params[j]? = some t → args[j]? = some v → Value.okWide Tryd.prog W .any base t v := hval0
  have hW' := hW
  obtain ⟨p, q, hA0, hV, rfl, hfz, hnd⟩ := hW
  have hA : DataW.TrodAll enc Tryd.prog W 0 (fun _ => true) true Tryd.f4.params.toList args.toList ds p := hA0
  rw [Tryd.params4] at hA hval
  obtain ⟨v0, vs0, d0, ds0, p0, q0, hargs, rfl, rfl, h0, r0⟩ := trodAll_cons hA
  obtain ⟨rfl, rfl, rfl⟩ := trodAll_nil r0
  obtain rfl : args = #[v0] := by cases args; simp_all
  obtain ⟨rfl, rfl⟩ := trodVars_none hV
  clear hA0 hval0
  simp only [List.append_nil] at hW'
  obtain ⟨a, n, ca, l, rfl, hN⟩ := ints_open (hval 0 33 v0 rfl rfl) h0
  refine (lengths_law a n ca l W hN).mono fun e W' ⟨he, hg⟩ => ?_
  subst he
  exact ⟨_, rfl, law_post hW' hg rfl rfl rfl (by kernel_rfl)⟩

theorem heapLengths_said : Rows.HeapLengthsSaid :=
  OpenClaim.holds_of_wide 4 Tryd.f4 rfl rfl rfl rfl rfl rfl rfl ⟨rfl, rfl, rfl, rfl, rfl⟩ rfl rfl rfl rfl rfl (by kernel_rfl) Tryd.func4 (by kernel_rfl)
    (of_decide_eq_true (by kernel_rfl)) (by unfold Func.isWrapper; first | (rw [if_pos (by decide +kernel)]; kernel_rfl) | (rw [if_neg (by decide +kernel)]; exact ⟨rfl, rfl⟩))
    (fun os started H enc _ => heapLengths_lifted os started H enc)

/-- The tied card: for every input HeapLengths returns true. -/
theorem heapLengths_holds : Rows.HeapLengthsCardSaid :=
  Claim7.holds_tied_plain_at .later [] [.data, .data, .data] true (true, "c9beace97a9bf14f309bf946856ef6e8f435994bf8c0644af26e1b37733b39ba") true
    heapLengths_said (fun _ h => by cases h) (by kernel_rfl) (fun _ h => by cases h) heapLengths_row_tie rfl ⟨rfl, rfl⟩ (by kernel_rfl) rfl
    (fun f fn hf hfn => by
      obtain rfl : f = 4 := Option.some.inj ((show Tryd.prog.funcNamed "ossuary/ossuarylaw10.HeapLengths" = some 4 by kernel_rfl).symm.trans hf) |>.symm
      obtain rfl : fn = Tryd.f4 := (Option.some.inj (Tryd.func4.symm.trans hfn)).symm
      exact ⟨by kernel_rfl, fun j t ht => by
        have hall : ((Tryd.f4.params).toList.all fun u => !Tryd.prog.wantsStandIn u) = true := by kernel_rfl
        have hm : t ∈ (Tryd.f4.params).toList := by simpa using Array.mem_of_getElem? ht
        exact (show Tryd.prog.wantsStandIn t = false by simpa using List.all_eq_true.1 hall t hm)⟩)
    (by kernel_rfl)
#print axioms heapLengths_holds
end
end Go.Proofs.YtbeapojjbgkalaaDoor
