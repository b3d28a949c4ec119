/- CodeConstants: the walk. -/
import Derived.Test.YtbkgophgclpijaaDoorCe
import Derived.Deep.DeepCutAuto
namespace Go.Proofs.YtbkgophgclpijaaDoor
open Go.RowKit

/-- A slice of numbers reads as a list. -/
def Ints (w : World) (a : Option Addr) (n : Nat) (l : List Int) : Prop :=
  l.length = n ∧ (0 < n → ∃ b o, a = some ⟨b, o, none⟩ ∧ b < w.heap.size ∧ ∀ i x, l[i]? = some x → w.cell? ⟨b, o + i, none⟩ = some (.int .i64 x))
theorem val_letter (q : Nat) (hq : q < 16) (w : World) :
    Calls Tryd.prog 30 #[.string ⟨#[UInt8.ofNat (97 + q)]⟩] w fun e w' => e = .returned (.agg #[.int .i64 7, .int .i64 0, .string ⟨#[0, UInt8.ofNat (97 + q)]⟩]) ∧ Below w.heap.size w w' :=
  W.val_const _ [0, UInt8.ofNat (97 + q)] (by show 1 ≤ 16777216; omega) (of_letter ⟨q, hq⟩) w

theorem conv_letter (q : Nat) (hq : q < 16) (w : World) :
    (convert 56 9 (.slice (some ⟨w.heap.size, 0, none⟩) 1 1)).run Tryd.prog (w.alloc (.cells #[.int .u8 (97 + (q : Int))] 5)) = .ok (.string ⟨#[UInt8.ofNat (97 + q)]⟩) (w.alloc (.cells #[.int .u8 (97 + (q : Int))] 5)) := by
  refine run_convert_bytes_back (P := Tryd.prog) (w.alloc (.cells #[.int .u8 (97 + (q : Int))] 5)) 56 9 5 ⟨w.heap.size, 0, none⟩ 1 [UInt8.ofNat (97 + q)] Tryd.underlying56 Tryd.underlying5 Tryd.underlying9 (fun j hj => ?_)
  obtain rfl : j = 0 := by simpa using hj
  have e : (UInt8.ofNat (97 + q)).toNat = 97 + q := by simp; omega
  have := cells_new w [.int .u8 (97 + (q : Int))] 5 0 _ rfl
  rw [show ([.int .u8 (97 + (q : Int))] : List Value).toArray = #[.int .u8 (97 + (q : Int))] from rfl] at this
  have hm : (97 + (q : Int)) % 256 = 97 + (q : Int) := by omega
  simpa [e, hm] using this

set_option maxRecDepth 1000000 in
set_option maxHeartbeats 8000000 in
theorem constants_any (a b : Option Addr) (n m ca cb : Nat) (l : List Int) (r : List (Int × Int × Int)) (w : World) (hT : Tb w) (hL : Ints w a n l) (hR : Ins3 w b m r) :
    Calls Tryd.prog 8 #[.slice a n ca, .slice b m cb] w fun e w' => e = .returned (.bool true) ∧ Below w.heap.size w w' := by
  by_cases hn : 200 < n
  · have h1 : (200 : Int) < (n : Int) := by omega
    clear hL hR
    go_enter Tryd.func8, Tryd.ntmps8
    go_wp2_with (first | (go_at_call 29; ((with_reducible refine (fit_any _ hT).mono ?_); rintro e w1 ⟨rfl, hb1⟩)))
    go_ret
    exact ⟨rfl, hb1⟩
  have h1 : ¬ (200 : Int) < (n : Int) := by omega
  by_cases hm : 200 < m
  · have h2 : (200 : Int) < (m : Int) := by omega
    clear hL hR
    go_enter Tryd.func8, Tryd.ntmps8
    go_wp2_with (first | (go_at_call 29; ((with_reducible refine (fit_any _ hT).mono ?_); rintro e w1 ⟨rfl, hb1⟩)))
    go_ret
    exact ⟨rfl, hb1⟩
  have h2 : ¬ (200 : Int) < (m : Int) := by omega
  have HL := Veil.mk hL
  have HR := Veil.mk hR
  clear hL hR
  go_enter Tryd.func8, Tryd.ntmps8
  go_wp2_with (first | (go_at_call 29; ((with_reducible refine (fit_any _ hT).mono ?_); rintro e w1 ⟨rfl, hb1⟩)))
  obtain ⟨W0, hW0⟩ : ∃ W, W = w1.alloc (.cells (fcells nilS nilS nilS) 53) := ⟨_, rfl⟩
  rw [← hW0]
  have hCS : CS w w1.heap.size [] nilS nilS W0 := by
    rw [hW0]
    exact ⟨Box.new w1 _ _, World.ownsRow_nil _ _ _ _, World.ownsRow_nil _ _ _ _, (fun k h => nomatch h), List.Pairwise.nil, hb1.size, hb1.alloc hb1.size _⟩
  obtain ⟨F, hF⟩ : ∃ F, F = w1.heap.size := ⟨_, rfl⟩
  rw [← hF] at hCS ⊢
  clear hW0 hF hb1
  go_loopw [6, 27] (fun v6 v wr => ∃ (i : Nat) (S : List Vt) (v9 : Value), i ≤ n ∧ v = .int .i64 (i : Int) ∧ S.length ≤ i ∧ CS w F S v6 v9 wr) (fun _ v _ => n - (intOf v).toNat)
  case atStart => exact ⟨0, [], _, by omega, rfl, Nat.le_refl _, hCS⟩
  case round =>
    obtain ⟨i, S, v9, hi, rfl, hSi, hC⟩ := hrel
    by_cases hp : i < n
    · obtain ⟨bi, oi, rfl, hbi, hcell⟩ := HL.out.2 (by omega)
      obtain ⟨z, hz⟩ : ∃ z, l[i]? = some z := by
        have : i < l.length := by have := HL.out.1; omega
        exact ⟨_, List.getElem?_eq_getElem this⟩
      have e0 := cell_later hC.b (hcell _ _ hz) (Nat.le_refl _)
      have hj0 : (0 : Int) ≤ (i : Int) := by omega
      have hj1 : (i : Int) < (n : Int) := by omega
      obtain ⟨p, hp1, hp2⟩ := mask 1 (by omega) z
      rw [show ((2 ^ 1 - 1 : Nat) : Int) = 1 from rfl] at hp1
      clear hcell hz hp
      go_upto_if 35 with (fail)
      obtain ⟨wA, hwA⟩ : ∃ wA, wA = wr.alloc (.cells #[.int .i64 3, .int .i64 z, .string ⟨#[]⟩] 27) := ⟨_, rfl⟩
      have hBV : Box wA wr.heap.size 27 #[.int .i64 3, .int .i64 z, .string ⟨#[]⟩] := by rw [hwA]; exact Box.new _ _ _
      have hBA : Below wr.heap.size wr wA := by rw [hwA]; exact (Below.refl _ _).alloc (Nat.le_refl _) _
      obtain ⟨BV, hBVe⟩ : ∃ b, b = wr.heap.size := ⟨_, rfl⟩
      rw [← hwA]
      rw [← hBVe] at hBV hBA ⊢
      have HBVE := Lib.hid hBVe
      clear hwA hBVe
      go_cut [8] (fun s wx => s = .int .i64 z ∧ ∃ v : Vt, Box wx BV 27 #[.int .i64 v.1, .int .i64 v.2.1, .string v.2.2] ∧ Below BV wr wx)
      case first =>
        rcases (show p = 0 ∨ p = 1 by omega) with rfl | rfl
        · go_wp2
          go_meet
          exact ⟨rfl, (3, z, ⟨#[]⟩), hBV, hBA⟩
        · obtain ⟨q, hq1, hq2⟩ := mask 4 (by omega) (z / 2)
          rw [show ((2 ^ 4 - 1 : Nat) : Int) = 15 from rfl] at hq1
          have hq3 : (0 : Int) ≤ (q : Int) := by omega
          have hq4 : (q : Int) < 16 := by omega
          have hq5 : (97 + (q : Int)) % 256 = 97 + (q : Int) := by omega
          have hcv := conv_letter q hq2 wA
          have hvl := val_letter q hq2
          obtain ⟨u, hu⟩ : ∃ u : UInt8, u = UInt8.ofNat (97 + q) := ⟨_, rfl⟩
          rw [← hu] at hcv hvl
          clear hq2 hu
          go_wp2_with (first | (go_at_call 30; ((with_reducible refine (hvl _).mono ?_); rintro e wv ⟨rfl, hbv⟩; have bx := (hBV.more (.cells #[.int .u8 (97 + (q : Int))] 5)).on hbv (hBV.more (.cells #[.int .u8 (97 + (q : Int))] 5)).lt; have c0 : wv.cell? ⟨BV, 0, none⟩ = some (.int .i64 3) := bx.at_ 0; have c1 : wv.cell? ⟨BV, 1, none⟩ = some (.int .i64 z) := bx.at_ 1; have c2 : wv.cell? ⟨BV, 2, none⟩ = some (.string ⟨#[]⟩) := bx.at_ 2; have g0 := bx.free 0; have g1 := bx.free 1; have g2 := bx.free 2)))
          go_meet
          refine ⟨rfl, (7, 0, ⟨#[0, u]⟩), ((bx.put 0 _).put 1 _).put 2 _, ?_⟩
          have hbw : Below BV wr wv := (hBA.alloc (by have := hBV.lt; omega) _).trans (hbv.mono (by have := hBV.lt; simp; omega))
          exact ((hbw.setCell (p := ⟨BV, 0, none⟩) (Nat.le_refl _) _).setCell (p := ⟨BV, 1, none⟩) (Nat.le_refl _) _).setCell (p := ⟨BV, 2, none⟩) (Nat.le_refl _) _
      case rest =>
        obtain ⟨rfl, ⟨v0, v1, v2⟩, hbv, hbw⟩ := hcut
        simp only at hbv
        have hbw2 : Below wr.heap.size wr wc := by rw [← HBVE.out]; exact hbw
        have hC1 := hC.on hbw2
        obtain ⟨a6, c6, rfl, hml, hV6⟩ := vals_own rfl hC1.own6
        obtain ⟨a9, c9, rfl, hml9, hV9⟩ := vals_own rfl hC1.own9
        have HV6 := Veil.mk hV6
        have HV9 := Veil.mk hV9
        have HCC := Veil.mk hC1
        have HBV := Veil.mk hbv
        have x0 : wc.cell? ⟨BV, 0, none⟩ = some (.int .i64 v0) := hbv.at_ 0
        have x1 : wc.cell? ⟨BV, 1, none⟩ = some (.int .i64 v1) := hbv.at_ 1
        have x2 : wc.cell? ⟨BV, 2, none⟩ = some (.string v2) := hbv.at_ 2
        have hSlen : S.length ≤ 200 := by omega
        have HA6 : Veil (∀ k, (Value.slice a6 S.length c6).ownBlock = some k → k < BV) := ⟨fun k hk => by rw [HBVE.out]; exact (hC.own6.lt k hk).2⟩
        have HA9 : Veil (∀ k, (Value.slice a9 S.length c9).ownBlock = some k → k < BV) := ⟨fun k hk => by rw [HBVE.out]; exact (hC.own9.lt k hk).2⟩
        clear hC hC1 hV6 hV9 hbv hbw hbw2 hBV hBA e0 hp1
        by_cases hhit : ∃ k : Nat, S[k]? = some (v0, v1, v2)
        · obtain ⟨k, hk⟩ := hhit
          have hkS : k < S.length := (List.getElem?_eq_some_iff.1 hk).1
          have HK := Veil.mk hk
          clear hk
          go_wp2
          go_loopw [10, 46] (fun s10 v wx => ∃ j : Nat, j ≤ S.length ∧ v = .int .i64 (j : Int) ∧ s10 = .int .i64 (if k < j then (k : Int) else -1) ∧ Below wc.heap.size wc wx) (fun _ v _ => S.length - (intOf v).toNat)
          case atStart => exact ⟨0, by omega, rfl, by simp, Below.refl _ _⟩
          case round =>
            obtain ⟨j, hj, rfl, rfl, hbx⟩ := hrel
            have y0 := cell_later hbx x0 (Nat.le_refl _)
            have y1 := cell_later hbx x1 (Nat.le_refl _)
            have y2 := cell_later hbx x2 (Nat.le_refl _)
            have hsx := hbx.size
            have hBVw : BV < wr.heap.size := by have := HBV.out.lt; omega
            have g0 : (0 : Int) ≤ (j : Int) := by omega
            rcases Nat.lt_or_ge j S.length with hlt | hge
            · have g1 : (j : Int) < (S.length : Int) := by omega
              obtain ⟨b6, rfl, hb6, hcell⟩ := HV6.out.2 (by omega)
              obtain ⟨x, hx⟩ : ∃ x, S[j]? = some x := ⟨_, List.getElem?_eq_getElem hlt⟩
              obtain ⟨d0, d1, d2⟩ := hcell _ _ hx
              have z0 := cell_later hbx d0 (Nat.le_refl _)
              have z1 := cell_later hbx d1 (Nat.le_refl _)
              have z2 := cell_later hbx d2 (Nat.le_refl _)
              have hbn : Below wc.heap.size wc (wr.alloc (.cells #[.int .i64 x.1, .int .i64 x.2.1, .string x.2.2] 27)) := hbx.alloc hsx _
              by_cases hjk : j = k
              · subst hjk
                have he : x = (v0, v1, v2) := by have := HK.out; rw [hx] at this; injection this
                subst he
                simp only at z0 z1 z2 hbn
                have HLT := Lib.hid hlt
                clear hx d0 d1 d2 hcell hlt
                go_wp2
                go_roundw
                case rel => exact ⟨j + 1, by have := HLT.out; omega, by go_num, by rw [if_pos (by omega)], hbn⟩
                case measure => have := HLT.out; simp [intOf]; omega
              · have hne : ¬ x = (v0, v1, v2) := by
                  rcases Nat.lt_or_ge j k with h | h
                  · exact pw_unique HCC.out.dist HK.out j x h hx
                  · exact pw_after HCC.out.dist HK.out j x (by omega) hx
                have hne := vne hne
                have hif : Hid ((if k < j + 1 then (k : Int) else -1) = (if k < j then (k : Int) else -1)) := by
                  show _ = _
                  by_cases hh : k < j
                  · rw [if_pos hh, if_pos (by omega)]
                  · rw [if_neg hh, if_neg (by omega)]
                obtain ⟨p0, p1, p2⟩ := x
                simp only at z0 z1 z2 hne hbn
                have HLT := Lib.hid hlt
                clear hx d0 d1 d2 hcell hlt
                rcases hne with h1 | ⟨h1, h2⟩ | ⟨h1, h2, h3⟩
                · have h1' : ¬ p0 = v0 := fun e => h1 e.symm
                  go_wp2
                  go_roundw
                  case rel => exact ⟨j + 1, by have := HLT.out; omega, by go_num, by rw [hif.out], hbn⟩
                  case measure => have := HLT.out; simp [intOf]; omega
                · subst h1
                  have h1' : ¬ p1 = v1 := fun e => h2 e.symm
                  go_wp2
                  go_roundw
                  case rel => exact ⟨j + 1, by have := HLT.out; omega, by go_num, by rw [hif.out], hbn⟩
                  case measure => have := HLT.out; simp [intOf]; omega
                · subst h1 h2
                  have h1' : ¬ p2.toList = v2.toList := fun e => h3 e.symm
                  go_wp2
                  go_roundw
                  case rel => exact ⟨j + 1, by have := HLT.out; omega, by go_num, by rw [hif.out], hbn⟩
                  case measure => have := HLT.out; simp [intOf]; omega
            · have hjS : j = S.length := by omega
              have g1 : ¬ (j : Int) < (S.length : Int) := by omega
              rw [if_pos (by omega)]
              have hk0 : (0 : Int) ≤ (k : Int) := by omega
              have hCx := HCC.out.on hbx
              have hcon : ∀ w', Below wr.heap.size wr w' → Calls Tryd.prog 31 #[.pointer (some ⟨F, 0, none⟩), .agg #[.int .i64 v0, .int .i64 v1, .string v2]] w' fun e w'' => e = .returned (.int .i64 (k : Int)) ∧ Below w'.heap.size w' w'' := fun w' hw' =>
                have h := hCx.on hw'
                const_hit F w.heap.size S.length k _ _ _ S (v0, v1, v2) (by omega) rfl HK.out (pw_unique HCC.out.dist HK.out) w' h.box h.own9
              have HCON := Veil.mk hcon
              obtain ⟨b9, rfl, hb9, hcell9⟩ := HV9.out.2 (by omega)
              obtain ⟨d0, d1, d2⟩ := hcell9 _ _ HK.out
              have z0 := cell_later hbx d0 (Nat.le_refl _)
              have z1 := cell_later hbx d1 (Nat.le_refl _)
              have z2 := cell_later hbx d2 (Nat.le_refl _)
              simp only at z0 z1 z2
              have f9 : wr.cell? ⟨F, 9, none⟩ = some (.slice (some ⟨b9, 0, none⟩) S.length c9) := hCx.box.at_ 9
              have hkS1 : (k : Int) < (S.length : Int) := by omega
              have HCX := Veil.mk hCx
              clear hge hjS d0 d1 d2 hcell9 hcon hCx
              go_wp2
              go_region_held3 (fun w' => w'.cell? ⟨BV, 0, none⟩ = some (.int .i64 v0) ∧ w'.cell? ⟨BV, 1, none⟩ = some (.int .i64 v1) ∧ w'.cell? ⟨BV, 2, none⟩ = some (.string v2) ∧ w'.cell? ⟨F, 9, none⟩ = some (.slice (some ⟨b9, 0, none⟩) S.length c9) ∧ w'.cell? ⟨b9, k * 3, none⟩ = some (.int .i64 v0) ∧ w'.cell? ⟨b9, k * 3 + 1, none⟩ = some (.int .i64 v1) ∧ w'.cell? ⟨b9, k * 3 + 2, none⟩ = some (.string v2))
                (first | exact ⟨cell_later hb2 y0 (Nat.le_refl _), cell_later hb2 y1 (Nat.le_refl _), cell_later hb2 y2 (Nat.le_refl _), cell_later hb2 f9 (Nat.le_refl _), cell_later hb2 z0 (Nat.le_refl _), cell_later hb2 z1 (Nat.le_refl _), cell_later hb2 z2 (Nat.le_refl _)⟩ | go_keep)
                (first | (go_at_call 31; ((with_reducible refine (HCON.out _ (by first | exact (Below.refl _ _).drew | exact Below.refl _ _)).mono ?_); rintro e w2 ⟨rfl, hb2⟩)))
              go_wp2
              go_roundw
              case rel => exact ⟨i + 1, S, _, by omega, by go_num, by omega, HCX.out.on ((Below.refl _ _).drew.trans hb2)⟩
              case measure => simp [intOf]; omega
        · have hmiss : ∀ x ∈ S, ¬ x = (v0, v1, v2) := fun x hx e => by
            obtain ⟨k, hk, he⟩ := List.mem_iff_getElem.1 hx
            exact hhit ⟨k, by rw [List.getElem?_eq_getElem hk, he, e]⟩
          have HM := Veil.mk hmiss
          clear hhit hmiss
          go_wp2
          go_loopw [10, 46] (fun s10 v wx => ∃ j : Nat, j ≤ S.length ∧ v = .int .i64 (j : Int) ∧ s10 = .int .i64 (-1) ∧ Below wc.heap.size wc wx) (fun _ v _ => S.length - (intOf v).toNat)
          case atStart => exact ⟨0, by omega, rfl, rfl, Below.refl _ _⟩
          case round =>
            obtain ⟨j, hj, rfl, rfl, hbx⟩ := hrel
            have y0 := cell_later hbx x0 (Nat.le_refl _)
            have y1 := cell_later hbx x1 (Nat.le_refl _)
            have y2 := cell_later hbx x2 (Nat.le_refl _)
            have hsx := hbx.size
            have hBVw : BV < wr.heap.size := by have := HBV.out.lt; omega
            have g0 : (0 : Int) ≤ (j : Int) := by omega
            rcases Nat.lt_or_ge j S.length with hlt | hge
            · have g1 : (j : Int) < (S.length : Int) := by omega
              obtain ⟨b6, rfl, hb6, hcell⟩ := HV6.out.2 (by omega)
              obtain ⟨x, hx⟩ : ∃ x, S[j]? = some x := ⟨_, List.getElem?_eq_getElem hlt⟩
              obtain ⟨d0, d1, d2⟩ := hcell _ _ hx
              have z0 := cell_later hbx d0 (Nat.le_refl _)
              have z1 := cell_later hbx d1 (Nat.le_refl _)
              have z2 := cell_later hbx d2 (Nat.le_refl _)
              have hbn : Below wc.heap.size wc (wr.alloc (.cells #[.int .i64 x.1, .int .i64 x.2.1, .string x.2.2] 27)) := hbx.alloc hsx _
              have hne := vne (HM.out x (List.mem_of_getElem? hx))
              obtain ⟨p0, p1, p2⟩ := x
              simp only at z0 z1 z2 hne hbn
              have HLT := Lib.hid hlt
              clear hx d0 d1 d2 hcell hlt
              rcases hne with h1 | ⟨h1, h2⟩ | ⟨h1, h2, h3⟩
              · have h1' : ¬ p0 = v0 := fun e => h1 e.symm
                go_wp2
                go_roundw
                case rel => exact ⟨j + 1, by have := HLT.out; omega, by go_num, rfl, hbn⟩
                case measure => have := HLT.out; simp [intOf]; omega
              · subst h1
                have h1' : ¬ p1 = v1 := fun e => h2 e.symm
                go_wp2
                go_roundw
                case rel => exact ⟨j + 1, by have := HLT.out; omega, by go_num, rfl, hbn⟩
                case measure => have := HLT.out; simp [intOf]; omega
              · subst h1 h2
                have h1' : ¬ p2.toList = v2.toList := fun e => h3 e.symm
                go_wp2
                go_roundw
                case rel => exact ⟨j + 1, by have := HLT.out; omega, by go_num, rfl, hbn⟩
                case measure => have := HLT.out; simp [intOf]; omega
            · have g1 : ¬ (j : Int) < (S.length : Int) := by omega
              have hCx := HCC.out.on hbx
              have hBVx : Box wr BV 27 #[.int .i64 v0, .int .i64 v1, .string v2] := HBV.out.on hbx HBV.out.lt
              obtain ⟨i0, hi0, hz0, hz1, hz2⟩ := info_parts Tryd.info27
              have hown6 := hCx.own6
              have HCX := Veil.mk hCx
              have HBX := Veil.mk hBVx
              have hwlo := hCx.b.size
              clear hge hCx hBVx
              go_upto_region 23 with (at_builtin; refine wpList_append_lies _ rfl (.tmp 60) (.tmp 62) 50 rfl w.heap.size 27 i0 (.agg #[.int .i64 0, .int .i64 0, .string ⟨#[]⟩]) 3 32 Tryd.underlying50 hi0 hz0 hz1 hz2 rfl (by decide) (.slice a6 S.length c6) S.length (vflat S) rfl (hown6.alloc _) ⟨wr.heap.size, 0, none⟩ 1 1 [_, _, _] rfl rfl (three_new _ _ _ _ _ _ rfl) (by simp [Value.oneCell']) (by decide) (by unfold maxLen; omega) (by omega) (by simp; omega) _ rfl ?_; intro g cap' w3 hown' hgrow3 hblk hg3)
              have hrdy := miss_ready HCX.out HM.out (by omega) (grown_drew hgrow3)
              have hb30 : Box w3 BV 27 #[.int .i64 v0, .int .i64 v1, .string v2] := (HBX.out.more _).grown hgrow3 (fun e => by have := HA6.out _ e.symm; omega)
              have u0 : w3.cell? ⟨BV, 0, none⟩ = some (.int .i64 v0) := hb30.at_ 0
              have u1 : w3.cell? ⟨BV, 1, none⟩ = some (.int .i64 v1) := hb30.at_ 1
              have u2 : w3.cell? ⟨BV, 2, none⟩ = some (.string v2) := hb30.at_ 2
              have HGW := Veil.mk (And.intro hown' (And.intro hgrow3 hblk))
              have gS : (0 : Int) ≤ (S.length : Int) := by omega
              have gS1 : (S.length : Int) < (S.length : Int) + 1 := by omega
              have HRDY := Veil.mk hrdy
              clear hown' hgrow3 hblk hown6 y0 y1 y2 x0 x1 x2 hrdy hb30
              have HBL : (Value.slice a6 S.length c6).ownBlock = some g ∨ g = wr.heap.size + 1 := by
                have := HGW.out.2.2
                simpa using this
              have HBL2 := Veil.mk HBL
              clear HBL
              go_region_with ((go_at_call 31; ((with_reducible refine HRDY.out.mono ?_); intro e w2 hpost; obtain ⟨rfl, g2, cap2, k9, m0, m1, m2, hbv2, hcs2⟩ := miss_facts HCX.out HM.out HGW.out.1 HGW.out.2.1 HBL2.out HBX.out HA6.out HA9.out hpost.undrew; have q0 : w2.cell? ⟨BV, 0, none⟩ = some (.int .i64 v0) := hbv2.at_ 0; have q1 : w2.cell? ⟨BV, 1, none⟩ = some (.int .i64 v1) := hbv2.at_ 1; have q2 : w2.cell? ⟨BV, 2, none⟩ = some (.string v2) := hbv2.at_ 2; clear hpost hbv2)))
              all_goals
                go_wp2
                go_roundw
                case rel => exact ⟨i + 1, S ++ [(v0, v1, v2)], _, by omega, by go_num, by simp; omega, hcs2⟩
                case measure => simp [intOf]; omega
    · have hp1 : ¬ (i : Int) < (n : Int) := by omega
      have hxb := hC.box
      obtain ⟨W2, rfl⟩ : ∃ W2 : World, W2 = wr := ⟨_, rfl⟩
      have hlo := hC.lo
      have hbw := hC.b
      have hws := hbw.size
      clear hC hp
      go_wp2
      go_loopw [88] (fun v wr => ∃ (j : Nat) (v8 : Value), j ≤ m ∧ v = .int .i64 (j : Int) ∧ Box wr F 53 (fcells v8 v9 nilS) ∧ wr.ownsRow W2.heap.size 61 3 v8 j (flat (r.take j)) ∧ Only W2 wr F) (fun v _ => m - (intOf v).toNat)
      case atStart => exact ⟨0, _, by omega, rfl, hxb, by simpa [flat] using World.ownsRow_nil _ _ _ _, Only.refl _ _⟩
      case round =>
        obtain ⟨j, v8, hj, rfl, hbox, hown, honly⟩ := hrel
        have hbo := honly.below hlo hws
        have hbr := hbw.trans hbo
        have hos := honly.size
        by_cases hp : j < m
        · obtain ⟨bb, ob, rfl, hbb, hcell⟩ := HR.out.2 (by omega)
          obtain ⟨⟨o, p, q⟩, hx⟩ : ∃ z, r[j]? = some z := by
            have : j < r.length := by have := HR.out.1; omega
            exact ⟨_, List.getElem?_eq_getElem this⟩
          obtain ⟨d0, d1, d2⟩ := hcell _ _ hx
          have e0 := cell_later hbr d0 (Nat.le_refl _)
          have e1 := cell_later hbr d1 (Nat.le_refl _)
          have e2 := cell_later hbr d2 (Nat.le_refl _)
          simp only at e0 e1 e2
          have hj0 : (0 : Int) ≤ (j : Int) := by omega
          have hj1 : (j : Int) < (m : Int) := by omega
          have hj2 : (j : Int) < (j : Int) + 1 := by omega
          have hemit : ∀ w', (w'.heap = (wr.alloc (.cells #[.int .i64 o, .int .i64 p, .int .i64 q] 58)).heap) → Calls Tryd.prog 32 #[.pointer (some ⟨F, 0, none⟩), .int .i64 o, .int .i64 p, .int .i64 q] w' (EmitPost F W2.heap.size j v8 v9 nilS (r.take j) o p q w') := fun w' hw' => by
            have hbx : Box w' F 53 (fcells v8 v9 nilS) := by
              have := hbox.more (.cells #[.int .i64 o, .int .i64 p, .int .i64 q] 58)
              unfold Box at this ⊢
              rw [hw']; exact this
            have how : w'.ownsRow W2.heap.size 61 3 v8 j (flat (r.take j)) := by
              have := hown.alloc (.cells #[.int .i64 o, .int .i64 p, .int .i64 q] 58)
              unfold World.ownsRow at this ⊢
              rw [hw']; exact this
            exact emit_any F W2.heap.size j v8 v9 nilS (r.take j) o p q (by omega) w' (by rw [hw']; simp; omega) hbx how
          have HEM := Veil.mk (hemit (wr.alloc (.cells #[.int .i64 o, .int .i64 p, .int .i64 q] 58)).drew rfl)
          have HS := Veil.mk (And.intro hbox (And.intro hown honly))
          have HX := Lib.hid hx
          have htl : (r.take j).length = j := by rw [List.length_take]; have := HR.out.1; omega
          have HTL := Lib.hid htl
          have HBR := Veil.mk hbr
          clear hx d0 d1 d2 hcell hemit hbox hown honly hbo htl hbr hp
          go_upto_region 29 with (fail)
          refine wp_region_held_drew (S := fun w' => w'.cell? ⟨wr.heap.size, 0, none⟩ = some (.int .i64 o) ∧ w'.cell? ⟨wr.heap.size, 1, none⟩ = some (.int .i64 p) ∧ w'.cell? ⟨wr.heap.size, 2, none⟩ = some (.int .i64 q)) (by kernel_rfl) (by go_keep) (fun hHeld => ?_)
          refine wpAnyH_take (i := 0) (v := ?_) rfl (by kernel_rfl) (by kernel_rfl) (by kernel_rfl) (fun _ _ _ h => h) (Or.inl ⟨by rfl, ?_⟩) (by assumption) ?_
          rotate_left
          · intro w hSw
            try dsimp only at hSw
            go_simp
            try with_reducible rfl
          simp only [Act.put, List.getElem_toArray, List.getElem_cons_zero, List.setIfInBounds_toArray, List.set_cons_zero, List.set_cons_succ]
          refine wpAnyH_take (i := 1) (v := ?_) rfl (by kernel_rfl) (by kernel_rfl) (by kernel_rfl) (fun _ _ _ h => h) (Or.inl ⟨by rfl, ?_⟩) (by assumption) ?_
          rotate_left
          · intro w hSw
            try dsimp only at hSw
            go_simp
            try with_reducible rfl
          simp only [Act.put, List.getElem_toArray, List.getElem_cons_zero, List.getElem_cons_succ, List.setIfInBounds_toArray, List.set_cons_zero, List.set_cons_succ]
          refine wpAnyH_take (i := 2) (v := ?_) rfl (by kernel_rfl) (by kernel_rfl) (by kernel_rfl) (fun _ _ _ h => h) (Or.inl ⟨by rfl, ?_⟩) (by assumption) ?_
          rotate_left
          · intro w hSw
            try dsimp only at hSw
            go_simp
            try with_reducible rfl
          simp only [Act.put, List.getElem_toArray, List.getElem_cons_zero, List.getElem_cons_succ, List.setIfInBounds_toArray, List.set_cons_zero, List.set_cons_succ]
          refine wpAnyH_take (i := 3) (v := ?_) rfl (by kernel_rfl) (by kernel_rfl) (by kernel_rfl) (fun _ _ _ h => h) (Or.inl ⟨by rfl, ?_⟩) (by assumption) ?_
          rotate_left
          · intro w hSw
            try dsimp only at hSw
            go_simp
            try with_reducible rfl
          simp only [Act.put, List.getElem_toArray, List.getElem_cons_zero, List.getElem_cons_succ, List.setIfInBounds_toArray, List.set_cons_zero, List.set_cons_succ]
          refine wpAnyH_take (i := 4) (v := ?_) rfl (by kernel_rfl) (by kernel_rfl) (by kernel_rfl) (fun _ _ _ h => h) (Or.inl ⟨by rfl, ?_⟩) (by assumption) ?_
          rotate_left
          · intro w hSw
            try dsimp only at hSw
            go_simp
            try with_reducible rfl
          simp only [Act.put, List.getElem_toArray, List.getElem_cons_zero, List.getElem_cons_succ, List.setIfInBounds_toArray, List.set_cons_zero, List.set_cons_succ]
          refine wpAnyH_take (i := 5) (v := ?_) rfl (by kernel_rfl) (by kernel_rfl) (by kernel_rfl) (fun _ _ _ h => h) (Or.inl ⟨by rfl, ?_⟩) (by assumption) ?_
          rotate_left
          · intro w hSw
            try dsimp only at hSw
            go_simp
            try with_reducible rfl
          simp only [Act.put, List.getElem_toArray, List.getElem_cons_zero, List.getElem_cons_succ, List.setIfInBounds_toArray, List.set_cons_zero, List.set_cons_succ]
          refine wpAnyH_take (i := 7) (v := ?_) rfl (by kernel_rfl) (by kernel_rfl) (by kernel_rfl) (fun _ _ _ h => h) (Or.inl ⟨by rfl, ?_⟩) (by assumption) ?_
          rotate_left
          · intro w hSw
            try dsimp only at hSw
            go_simp
            try with_reducible rfl
          simp only [Act.put, List.getElem_toArray, List.getElem_cons_zero, List.getElem_cons_succ, List.setIfInBounds_toArray, List.set_cons_zero, List.set_cons_succ]
          refine wpAnyH_ready (rs := [6]) (by kernel_rfl) (by simp) ?_
          refine AllReadyH.cons rfl (fun K hK => ?_) ?_
          rotate_left
          · exact AllReadyH.nil
          go_simp
          go_wp2_with ((go_at_call 32; ((with_reducible refine HEM.out.mono ?_); intro e w2 hpost; obtain ⟨rfl, g2, cap2, k8, m0, m1, m2, hbx2, hbF, hwF, hoF⟩ := emit_facts HTL.out HS.out.1 HS.out.2.1 HS.out.2.2 hpost.undrew)))
          have q0 : w2.cell? ⟨wr.heap.size, 0, none⟩ = some (.int .i64 o) := hbx2.at_ 0
          have q1 : w2.cell? ⟨wr.heap.size, 1, none⟩ = some (.int .i64 p) := hbx2.at_ 1
          have q2 : w2.cell? ⟨wr.heap.size, 2, none⟩ = some (.int .i64 q) := hbx2.at_ 2
          replace hbF := Veil.mk (And.intro hbF (And.intro hwF hoF))
          clear hpost hbx2 hwF hoF hHeld
          refine hK.out _ _ ⟨q0, q1, q2⟩ (fun hHeld => ?_)
          clear hK K hHeld
          refine wpAnyH_mono (S' := fun w' => w'.cell? ⟨wr.heap.size, 0, none⟩ = some (.int .i64 o) ∧ w'.cell? ⟨wr.heap.size, 1, none⟩ = some (.int .i64 p) ∧ w'.cell? ⟨wr.heap.size, 2, none⟩ = some (.int .i64 q) ∧ w'.cell? ⟨F, 8, none⟩ = some (.slice (some ⟨g2, 0, none⟩) (j + 1) cap2) ∧ w'.cell? ⟨g2, j * 3, none⟩ = some (.int .i64 o) ∧ w'.cell? ⟨g2, j * 3 + 1, none⟩ = some (.int .i64 p) ∧ w'.cell? ⟨g2, j * 3 + 2, none⟩ = some (.int .i64 q)) (fun w' h => ⟨h.1, h.2.1, h.2.2.1⟩) _ _ _ _ ?_
          have hHeld : w2.cell? ⟨wr.heap.size, 0, none⟩ = some (.int .i64 o) ∧ w2.cell? ⟨wr.heap.size, 1, none⟩ = some (.int .i64 p) ∧ w2.cell? ⟨wr.heap.size, 2, none⟩ = some (.int .i64 q) ∧ w2.cell? ⟨F, 8, none⟩ = some (.slice (some ⟨g2, 0, none⟩) (j + 1) cap2) ∧ w2.cell? ⟨g2, j * 3, none⟩ = some (.int .i64 o) ∧ w2.cell? ⟨g2, j * 3 + 1, none⟩ = some (.int .i64 p) ∧ w2.cell? ⟨g2, j * 3 + 2, none⟩ = some (.int .i64 q) := ⟨q0, q1, q2, k8, m0, m1, m2⟩
          refine wpAnyH_take (i := 8) (v := ?_) rfl (by kernel_rfl) (by kernel_rfl) (by kernel_rfl) (fun _ _ _ h => h) (Or.inl ⟨by rfl, ?_⟩) (by assumption) ?_
          rotate_left
          · intro w hSw
            try dsimp only at hSw
            go_simp
            try with_reducible rfl
          simp only [Act.put, List.getElem_toArray, List.getElem_cons_zero, List.getElem_cons_succ, List.setIfInBounds_toArray, List.set_cons_zero, List.set_cons_succ]
          refine wpAnyH_take (i := 9) (v := ?_) rfl (by kernel_rfl) (by kernel_rfl) (by kernel_rfl) (fun _ _ _ h => h) (Or.inl ⟨by rfl, ?_⟩) (by assumption) ?_
          rotate_left
          · intro w hSw
            try dsimp only at hSw
            go_simp
            try with_reducible rfl
          simp only [Act.put, List.getElem_toArray, List.getElem_cons_zero, List.getElem_cons_succ, List.setIfInBounds_toArray, List.set_cons_zero, List.set_cons_succ]
          refine wpAnyH_take (i := 10) (v := ?_) rfl (by kernel_rfl) (by kernel_rfl) (by kernel_rfl) (fun _ _ _ h => h) (Or.inl ⟨by rfl, ?_⟩) (by assumption) ?_
          rotate_left
          · intro w hSw
            try dsimp only at hSw
            go_simp
            try with_reducible rfl
          simp only [Act.put, List.getElem_toArray, List.getElem_cons_zero, List.getElem_cons_succ, List.setIfInBounds_toArray, List.set_cons_zero, List.set_cons_succ]
          refine wpAnyH_take (i := 11) (v := ?_) rfl (by kernel_rfl) (by kernel_rfl) (by kernel_rfl) (fun _ _ _ h => h) (Or.inl ⟨by rfl, ?_⟩) (by assumption) ?_
          rotate_left
          · intro w hSw
            try dsimp only at hSw
            go_simp
            try with_reducible rfl
          simp only [Act.put, List.getElem_toArray, List.getElem_cons_zero, List.getElem_cons_succ, List.setIfInBounds_toArray, List.set_cons_zero, List.set_cons_succ]
          refine wpAnyH_take (i := 12) (v := ?_) rfl (by kernel_rfl) (by kernel_rfl) (by kernel_rfl) (fun _ _ _ h => h) (Or.inl ⟨by rfl, ?_⟩) (by assumption) ?_
          rotate_left
          · intro w hSw
            try dsimp only at hSw
            go_simp
            try with_reducible rfl
          simp only [Act.put, List.getElem_toArray, List.getElem_cons_zero, List.getElem_cons_succ, List.setIfInBounds_toArray, List.set_cons_zero, List.set_cons_succ]
          refine wpAnyH_take (i := 13) (v := ?_) rfl (by kernel_rfl) (by kernel_rfl) (by kernel_rfl) (fun _ _ _ h => h) (Or.inl ⟨by rfl, ?_⟩) (by assumption) ?_
          rotate_left
          · intro w hSw
            try dsimp only at hSw
            go_simp
            try with_reducible rfl
          simp only [Act.put, List.getElem_toArray, List.getElem_cons_zero, List.getElem_cons_succ, List.setIfInBounds_toArray, List.set_cons_zero, List.set_cons_succ]
          refine wpAnyH_take (i := 14) (v := ?_) rfl (by kernel_rfl) (by kernel_rfl) (by kernel_rfl) (fun _ _ _ h => h) (Or.inl ⟨by rfl, ?_⟩) (by assumption) ?_
          rotate_left
          · intro w hSw
            try dsimp only at hSw
            go_simp
            try with_reducible rfl
          simp only [Act.put, List.getElem_toArray, List.getElem_cons_zero, List.getElem_cons_succ, List.setIfInBounds_toArray, List.set_cons_zero, List.set_cons_succ]
          refine wpAnyH_take (i := 15) (v := ?_) rfl (by kernel_rfl) (by kernel_rfl) (by kernel_rfl) (fun _ _ _ h => h) (Or.inl ⟨by rfl, ?_⟩) (by assumption) ?_
          rotate_left
          · intro w hSw
            try dsimp only at hSw
            go_simp
            try with_reducible rfl
          simp only [Act.put, List.getElem_toArray, List.getElem_cons_zero, List.getElem_cons_succ, List.setIfInBounds_toArray, List.set_cons_zero, List.set_cons_succ]
          refine wpAnyH_take (i := 16) (v := ?_) rfl (by kernel_rfl) (by kernel_rfl) (by kernel_rfl) (fun _ _ _ h => h) (Or.inl ⟨by rfl, ?_⟩) (by assumption) ?_
          rotate_left
          · intro w hSw
            try dsimp only at hSw
            go_simp
            try with_reducible rfl
          simp only [Act.put, List.getElem_toArray, List.getElem_cons_zero, List.getElem_cons_succ, List.setIfInBounds_toArray, List.set_cons_zero, List.set_cons_succ]
          refine wpAnyH_take (i := 17) (v := ?_) rfl (by kernel_rfl) (by kernel_rfl) (by kernel_rfl) (fun _ _ _ h => h) (Or.inl ⟨by rfl, ?_⟩) (by assumption) ?_
          rotate_left
          · intro w hSw
            try dsimp only at hSw
            go_simp
            try with_reducible rfl
          simp only [Act.put, List.getElem_toArray, List.getElem_cons_zero, List.getElem_cons_succ, List.setIfInBounds_toArray, List.set_cons_zero, List.set_cons_succ]
          refine wpAnyH_take (i := 18) (v := ?_) rfl (by kernel_rfl) (by kernel_rfl) (by kernel_rfl) (fun _ _ _ h => h) (Or.inl ⟨by rfl, ?_⟩) (by assumption) ?_
          rotate_left
          · intro w hSw
            try dsimp only at hSw
            go_simp
            try with_reducible rfl
          simp only [Act.put, List.getElem_toArray, List.getElem_cons_zero, List.getElem_cons_succ, List.setIfInBounds_toArray, List.set_cons_zero, List.set_cons_succ]
          refine wpAnyH_take (i := 19) (v := ?_) rfl (by kernel_rfl) (by kernel_rfl) (by kernel_rfl) (fun _ _ _ h => h) (Or.inl ⟨by rfl, ?_⟩) (by assumption) ?_
          rotate_left
          · intro w hSw
            try dsimp only at hSw
            go_simp
            try with_reducible rfl
          simp only [Act.put, List.getElem_toArray, List.getElem_cons_zero, List.getElem_cons_succ, List.setIfInBounds_toArray, List.set_cons_zero, List.set_cons_succ]
          refine wpAnyH_take (i := 20) (v := ?_) rfl (by kernel_rfl) (by kernel_rfl) (by kernel_rfl) (fun _ _ _ h => h) (Or.inl ⟨by rfl, ?_⟩) (by assumption) ?_
          rotate_left
          · intro w hSw
            try dsimp only at hSw
            go_simp
            try with_reducible rfl
          simp only [Act.put, List.getElem_toArray, List.getElem_cons_zero, List.getElem_cons_succ, List.setIfInBounds_toArray, List.set_cons_zero, List.set_cons_succ]
          refine wpAnyH_take (i := 21) (v := ?_) rfl (by kernel_rfl) (by kernel_rfl) (by kernel_rfl) (fun _ _ _ h => h) (Or.inl ⟨by rfl, ?_⟩) (by assumption) ?_
          rotate_left
          · intro w hSw
            try dsimp only at hSw
            go_simp
            try with_reducible rfl
          simp only [Act.put, List.getElem_toArray, List.getElem_cons_zero, List.getElem_cons_succ, List.setIfInBounds_toArray, List.set_cons_zero, List.set_cons_succ]
          refine wpAnyH_take (i := 22) (v := ?_) rfl (by kernel_rfl) (by kernel_rfl) (by kernel_rfl) (fun _ _ _ h => h) (Or.inl ⟨by rfl, ?_⟩) (by assumption) ?_
          rotate_left
          · intro w hSw
            try dsimp only at hSw
            go_simp
            try with_reducible rfl
          simp only [Act.put, List.getElem_toArray, List.getElem_cons_zero, List.getElem_cons_succ, List.setIfInBounds_toArray, List.set_cons_zero, List.set_cons_succ]
          refine wpAnyH_take (i := 23) (v := ?_) rfl (by kernel_rfl) (by kernel_rfl) (by kernel_rfl) (fun _ _ _ h => h) (Or.inl ⟨by rfl, ?_⟩) (by assumption) ?_
          rotate_left
          · intro w hSw
            try dsimp only at hSw
            go_simp
            try with_reducible rfl
          simp only [Act.put, List.getElem_toArray, List.getElem_cons_zero, List.getElem_cons_succ, List.setIfInBounds_toArray, List.set_cons_zero, List.set_cons_succ]
          refine wpAnyH_done (by kernel_rfl) ?_ _
          go_wp2
          go_roundw
          case rel => exact ⟨j + 1, _, by omega, by go_num, hbF.out.1, by rw [take_snoc HX.out]; exact hbF.out.2.1, hbF.out.2.2⟩
          case measure => simp [intOf]; omega
        · have hjm : j = m := by omega
          subst hjm
          obtain ⟨a8, c8, rfl, -⟩ := own_slice hown
          have f8 : wr.cell? ⟨F, 8, none⟩ = some (.slice a8 j c8) := hbox.at_ 8
          have hp2 : ¬ (j : Int) < (j : Int) := by omega
          clear hp hbox hown honly hbo
          go_wp2
          go_ret
          exact ⟨ret_bool (by simp), hbr⟩
end Go.Proofs.YtbkgophgclpijaaDoor
