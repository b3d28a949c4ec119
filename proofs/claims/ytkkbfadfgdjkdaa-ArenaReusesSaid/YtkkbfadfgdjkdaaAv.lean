/- ArenaReuses: the walk. -/
import Derived.Test.YtkkbfadfgdjkdaaAx
namespace Go.Proofs.Ytkkbfadfgdjkdaa
open Go Go.RowKit

set_option maxHeartbeats 8000000 in
set_option maxRecDepth 100000 in
theorem reuses_law (a : Option Addr) (n cap : Nat) (l : List Bool) (more0 : Int) (w : World) (hN : Bools w a n l) :
    Calls Try.prog 6 #[.slice a n cap, .int .i64 more0] w (BelT w) := by
  obtain ⟨more, hmo, hx1, hx2, hx3, hx4⟩ := rem_nat more0 20 (by omega)
  have hx1 : (more0.tmod 20 + 20).tmod 20 = (more : Int) := hx1
  have hx2 : (more0.tmod 20 + 20) % 20 = (more : Int) := hx2
  have hx3 : 0 < more0.tmod 20 + 20 := hx3
  have hx4 : more0.tmod 20 < 20 := hx4
  have HN := Veil.mk hN
  have HFT : Veil (∀ w, Calls Try.prog 8 #[] w fun e w' => e = .returned (.bool true) ∧ Below w.heap.size w w') := ⟨fit_any⟩
  obtain ⟨i0, hi, hz0, hz1, hz2⟩ := info_parts Try.infoI
  clear hN
  by_cases hbig : 100 < n
  · have hbig' : (100 : Int) < (n : Int) := by omega
    go_enter Try.func6, Try.ntmps6
    go_wp2_with (first | (go_at_call 8; ((with_reducible refine (HFT.out _).mono ?_); rintro e9 w1 ⟨rfl, hb1⟩; have HB1 := Veil.mk hb1; clear hb1)))
    go_ret
    exact ⟨rfl, HB1.out⟩
  have hbig' : ¬ (100 : Int) < (n : Int) := by omega
  go_enter Try.func6, Try.ntmps6
  go_upto_region 6 with (first | (go_at_call 8; ((with_reducible refine (HFT.out _).mono ?_); rintro e9 w1 ⟨rfl, hb1⟩; have HB1 := Veil.mk hb1; clear hb1)))
  clear hx1 hx2 hx3 hx4
  have HN1 : Veil (Bools w1 a n l) := ⟨HN.out.on HB1.out⟩
  obtain ⟨A, hA⟩ : ∃ A, w1.heap.size = A := ⟨_, rfl⟩
  have HNW : Veil (Calls Try.prog 9 #[] w1 fun e w' => e = .returned (.pointer (some ⟨A, 0, none⟩)) ∧ Below A w1 w' ∧ A < w'.heap.size ∧ ArAt w' A A (.slice none 0 0) (.slice none 0 0) (.slice none 0 0) emptyD) := ⟨by rw [← hA]; exact new_any w1⟩
  go_upto_region 8 with (first | (go_at_call 9; ((with_reducible refine HNW.out.mono ?_); rintro e w2 ⟨rfl, hb2, hs2, ha2⟩)))
  have HS2 := Veil.mk (And.intro (new_sys ha2 noTo noEn) hb2)
  clear ha2 hb2 HNW
  go_loopw [23] (fun i wr => ∃ (k : Nat) (nbs : List Nat) (cv fv rv : Value), k ≤ n ∧ i = .int .i64 (k : Int) ∧ nbs.length = k ∧ Sys A A (dN nbs []) noTo noEn cv fv rv wr ∧ Below A w1 wr) (fun i _ => n - (intOf i).toNat)
  case atStart => exact ⟨0, [], _, _, _, Nat.zero_le _, rfl, rfl, HS2.out.1, HS2.out.2⟩
  case round =>
    obtain ⟨k, nbs, cv, fv, rv, hk, rfl, hnl, hs, hb⟩ := hrel
    have hk0 : (0 : Int) ≤ (k : Int) := by omega
    by_cases hlt : k < n
    · have hlt' : (k : Int) < (n : Int) := by omega
      obtain ⟨nb, hnb⟩ : ∃ nb, wr.heap.size = nb := ⟨_, rfl⟩
      have bx := Box.new wr 30 #[.slice none 0 0, .slice none 0 0, .slice none 0 0, .int .i64 0]
      have bb : Below wr.heap.size wr (wr.alloc (.cells #[.slice none 0 0, .slice none 0 0, .slice none 0 0, .int .i64 0] 30)) := (Below.refl _ _).alloc (Nat.le_refl _) _
      obtain ⟨w3, hw3⟩ : ∃ w3, wr.alloc (.cells #[.slice none 0 0, .slice none 0 0, .slice none 0 0, .int .i64 0] 30) = w3 := ⟨_, rfl⟩
      rw [hw3, hnb] at bx
      rw [hw3] at bb
      have s3 := hs.below bb
      have hAw : A ≤ wr.heap.size := by have := hb.size; omega
      have HM : Veil (Calls Try.prog 10 #[.pointer (some ⟨A, 0, none⟩), nodeV nb] (wr.alloc (.cells #[.slice none 0 0, .slice none 0 0, .slice none 0 0, .int .i64 0] 30)) fun e w' => e = .returned (.int .i64 ((nbs.length + 1 : Nat) : Int)) ∧ ∃ cv' fv' rv', SysPost A A (dN (nbs ++ [nb]) []) noTo noEn cv fv rv w3 cv' fv' rv' w') := ⟨by
        rw [hw3]
        have h := sys_make s3 nb (node_new bx) (by omega) (freeOk_nil rfl) (by show nbs.length < 4194304; omega) (by show (nbs.map some).length < 1000000; rw [List.length_map]; omega) (by show 0 < 1000000; omega)
        rw [dN_mk2] at h
        exact h⟩
      have HB := Veil.mk (And.intro (hb.trans (bb.mono hAw)) (And.intro s3 hnl))
      clear hs hb bx bb hw3 s3 HS2
      go_wp2_with (first | (go_at_call 10; ((with_reducible refine HM.out.mono ?_); rintro e w4 ⟨rfl, cv4, fv4, rv4, hp4⟩)))
      go_round
      case rel => exact ⟨k + 1, nbs ++ [nb], cv4, fv4, rv4, by omega, by go_num, by rw [List.length_append, HB.out.2.2]; rfl, hp4.sys, HB.out.1.trans (hp4.below HB.out.2.1)⟩
      case measure => simp [intOf]; omega
    · obtain rfl : k = n := by omega
      have hlt' : ¬ (k : Int) < (k : Int) := by omega
      have HS3 := Veil.mk (And.intro hs hb)
      have hAwr : A ≤ wr.heap.size := by have := hb.size; omega
      clear hs hb HS2
      go_upto_region 13 with (fail)
      go_loopw [6, 33] (fun lv i wr => ∃ (j : Nat) (cv fv rv : Value), j ≤ k ∧ i = .int .i64 (j : Int) ∧ Sys A A (dN nbs (intsOf (nosL l true j))) noTo noEn cv fv rv wr ∧ Below A w1 wr ∧ wr.ownsRow A 3 1 lv (nosL l false j).length (numsV (nosL l false j)) ∧ ∀ b, lv.ownBlock = some b → ¬ AFoot A cv fv rv b) (fun _ i _ => k - (intOf i).toNat)
      case atStart => exact ⟨0, cv, fv, rv, Nat.zero_le _, rfl, HS3.out.1, HS3.out.2, ⟨rfl, .inl ⟨rfl, rfl⟩⟩, fun b hb => by cases hb⟩
      case round =>
        obtain ⟨j, cv2, fv2, rv2, hj, rfl, hs, hb, hrow, hap⟩ := hrel
        have hj0 : (0 : Int) ≤ (j : Int) := by omega
        have hAwq : A ≤ wr.heap.size := by have := hb.size; omega
        have hlen := nosL_len l false j
        have hlen2 := nosL_len l true j
        by_cases hjt : j < k
        · have hjt' : (j : Int) < (k : Int) := by omega
          have hjb : (j : Int) < 1000 := by omega
          have hbq : Below w1.heap.size w1 wr := by rw [hA]; exact hb
          obtain ⟨b, o, rfl, -, hc⟩ := (HN1.out.on hbq).2 (by omega)
          have hcj := hc j hjt
          obtain ⟨f, hf⟩ : ∃ f, l[j]?.getD false = f := ⟨_, rfl⟩
          rw [hf] at hcj
          have HT1 := Veil.mk (nosL_succ l true j f hf)
          have HT2 := Veil.mk (nosL_succ l false j f hf)
          clear hc hf hbq
          cases f with
          | true =>
            have HR := Veil.mk (And.intro hs (And.intro hb (And.intro hrow hap)))
            have bx := Box.new wr 3 #[.int .i64 ((j : Int) + 1)]
            have bb : Below wr.heap.size wr (wr.alloc (.cells #[.int .i64 ((j : Int) + 1)] 3)) := (Below.refl _ _).alloc (Nat.le_refl _) _
            obtain ⟨w4, hw4⟩ : ∃ w4, wr.alloc (.cells #[.int .i64 ((j : Int) + 1)] 3) = w4 := ⟨_, rfl⟩
            rw [hw4] at bx bb
            have s4 := hs.below bb
            have HPU : Veil (Calls Try.prog 11 #[.pointer (some ⟨A, 0, none⟩), .slice (some ⟨wr.heap.size, 0, none⟩) 1 1] (wr.alloc (.cells #[.int .i64 ((j : Int) + 1)] 3)) fun e w' => e = .returned (.tuple #[]) ∧ ∃ cv' fv' rv', SysPost A A (dN nbs (intsOf (nosL l true (j + 1)))) noTo noEn cv2 fv2 rv2 w4 cv' fv' rv' w') := ⟨by
              rw [hw4]
              have h := sys_push s4 wr.heap.size ((j : Int) + 1) (bx.at_ 0) (by show ((nosL l true j).map _).length < 1000000; rw [List.length_map]; omega)
              have e : (dN nbs (intsOf (nosL l true j))).pushed ((j : Int) + 1) = dN nbs (intsOf (nosL l true (j + 1))) := by
                unfold AD.pushed
                rw [HT1.out, if_pos rfl]
                unfold intsOf
                rw [List.map_append]
                rfl
              rw [e] at h
              exact h⟩
            have HB4 := Veil.mk (And.intro bb s4)
            clear hs hb hrow hap bx bb hw4 s4
            go_wp2_with (first | (go_at_call 11; ((with_reducible refine HPU.out.mono ?_); rintro e w5 ⟨rfl, cv5, fv5, rv5, hp5⟩)))
            obtain ⟨hs, hb, hrow, hap⟩ := HR.out
            have e2 : nosL l false (j + 1) = nosL l false j := by rw [HT2.out, if_neg (by decide)]
            have hrow4 := own_below hrow HB4.out.1
            have hrow5 := own_touch hrow4 hp5.touch (fun b hb9 => hap b hb9)
            go_round
            case rel => exact ⟨j + 1, cv5, fv5, rv5, by omega, by go_num, hp5.sys, (hb.trans (HB4.out.1.mono hAwq)).trans (hp5.below HB4.out.2), by rw [e2]; exact hrow5, fun b hb9 hf9 => by
              rcases hp5.own b hf9 with h9 | h9
              · exact hap b hb9 h9
              · have := (own_lt hrow4 b hb9).2
                omega⟩
            case measure => simp [intOf]; omega
          | false =>
            have HR := Veil.mk (And.intro hs (And.intro hb hap))
            have e1 : nosL l true (j + 1) = nosL l true j := by rw [HT1.out, if_neg (by decide)]
            have e2 : nosL l false (j + 1) = nosL l false j ++ [j + 1] := by rw [HT2.out, if_pos rfl]
            have HE := Veil.mk (And.intro e1 e2)
            clear hs hb hap e1 e2
            go_wp2_with (at_builtin; refine wpList_append_lies _ rfl _ _ 22 rfl A 3 i0 (.int .i64 0) 1 8 Try.underlying22 hi hz0 hz1 hz2 rfl (by decide) _ _ _ rfl (hrow.alloc _) ⟨wr.heap.size, 0, none⟩ 1 1 [.int .i64 ((j : Int) + 1)] rfl rfl (news_at _ _ rfl _ _) (by simp [Value.oneCell']) (by decide) (by unfold maxLen; omega) (by omega) (by simp; omega) _ rfl ?_; intro g2 cap2 w5 hown2 hgrow2 hblk2 hg2; refine Hid.out ?_)
            obtain ⟨hs, hb, hap⟩ := HR.out
            have hblk3 : u6.ownBlock = some g2 ∨ g2 = (wr.alloc (.cells #[.int .i64 ((j : Int) + 1)] 3)).heap.size := hblk2
            have bb : Below wr.heap.size wr (wr.alloc (.cells #[.int .i64 ((j : Int) + 1)] 3)) := (Below.refl _ _).alloc (Nat.le_refl _) _
            have ht2 : Touch (fun b => u6.ownBlock = some b) wr w5 := (Touch.of_below bb).trans (Touch.of_grown hgrow2 (fun b hb => hb))
            have s5 := hs.touch0 ht2 (fun b hb9 e => hap b e hb9) (fun b hl e => hl.ne (own_lab hrow b e) (by decide) rfl)
            have hb5 : Below A w1 w5 := hb.trans (ht2.below hAwq (fun b hb9 => (own_lt hrow b hb9).1))
            have hrow5 : w5.ownsRow A 3 1 (.slice (some ⟨g2, 0, none⟩) ((nosL l false j).length + 1) cap2) (nosL l false (j + 1)).length (numsV (nosL l false (j + 1))) := by
              have e : numsV (nosL l false j ++ [j + 1]) = numsV (nosL l false j) ++ [.int .i64 ((j : Int) + 1)] := List.map_append
              rw [HE.out.2, List.length_append, e]
              exact hown2
            have hap5 : ∀ b, (Value.slice (some ⟨g2, 0, none⟩) ((nosL l false j).length + 1) cap2).ownBlock = some b → ¬ AFoot A cv2 fv2 rv2 b := fun b hb9 hf9 => by
              injection hb9 with hb9
              have hb9 : g2 = b := hb9
              subst hb9
              rcases hblk3 with h9 | h9
              · exact hap g2 h9 hf9
              · have := (AFoot.lt hs.ar hf9).2
                rw [World.size_alloc] at h9
                omega
            have HF := Veil.mk (show ∃ (j' : Nat) (cv fv rv : Value), j' ≤ k ∧ Value.int .i64 ((j : Int) + 1) = .int .i64 (j' : Int) ∧ Sys A A (dN nbs (intsOf (nosL l true j'))) noTo noEn cv fv rv w5 ∧ Below A w1 w5 ∧ w5.ownsRow A 3 1 (.slice (some ⟨g2, 0, none⟩) ((nosL l false j).length + 1) cap2) (nosL l false j').length (numsV (nosL l false j')) ∧ ∀ b, (Value.slice (some ⟨g2, 0, none⟩) ((nosL l false j).length + 1) cap2).ownBlock = some b → ¬ AFoot A cv fv rv b from
              ⟨j + 1, cv2, fv2, rv2, by omega, by go_num, by rw [HE.out.1]; exact s5, hb5, hrow5, hap5⟩)
            clear hs hb hap s5 hb5 hrow5 hap5 ht2 bb hblk3 hblk2 hgrow2 hown2 hrow
            refine Lib.hid ?_
            go_wp2
            go_round
            case rel => exact HF.out
            case measure => simp [intOf]; omega
        · obtain rfl : j = k := by omega
          have hjt' : ¬ (j : Int) < (j : Int) := by omega
          have hfr : Veil (∀ r ∈ nosL l false j, 1 ≤ r ∧ r ≤ j) := ⟨fun r hr => by
            obtain ⟨i, h1, rfl, -⟩ := nosL_mem.1 hr
            omega⟩
          obtain ⟨fa, fc, rfl, -⟩ := ints_of_row hrow rfl
          have hj100 : j ≤ 100 := by omega
          have HCOL := Veil.mk (again_collect A j l nbs hnl hj100 fa fc w1 wr cv2 fv2 rv2 hs hb hrow hap)
          have HNS : Veil (∀ (a b : Option Addr) (n ca cb : Nat) (L : List Int) (w : World), Ints w a n L → Ints w b n L → n ≤ 1000000 → Calls Try.prog 14 #[.slice a n ca, .slice b n cb] w fun e w' => e = .returned (.bool true) ∧ Below w.heap.size w w') := ⟨nums_same⟩
          have HMK : Veil (∀ i w, Again A j (nosL l false j) fa fc w1 i w → i ≤ 1000 → Calls Try.prog 10 #[.pointer (some ⟨A, 0, none⟩), nodeV w.heap.size] (w.alloc (.cells #[.slice none 0 0, .slice none 0 0, .slice none 0 0, .int .i64 0] 30)) fun e w' => e = .returned (.int .i64 (wantN j (nosL l false j) i : Int)) ∧ Again A j (nosL l false j) fa fc w1 (i + 1) w') := ⟨fun i w h hi => again_make A j (nosL l false j) fa fc w1 i w h hj100 hfr.out hlen hi⟩
          have HCO : Veil (∀ i w, Again A j (nosL l false j) fa fc w1 i w → Calls Try.prog 13 #[.pointer (some ⟨A, 0, none⟩)] w fun e w' => e = .returned (.int .i64 ((j - (nosL l false j).length + i : Nat) : Int)) ∧ w' = w) := ⟨fun i w h => h.count⟩
          clear hs hb hrow hap hnl HS3 hAwr hfr hlen2
          obtain ⟨fr, hfr0⟩ : ∃ fr, nosL l false j = fr := ⟨_, rfl⟩
          rw [hfr0] at HCOL HMK HCO hlen ⊢
          obtain ⟨m, hm⟩ : ∃ m, fr.length = m := ⟨_, rfl⟩
          have HAG : Veil (∀ i w, Again A j fr fa fc w1 i w → Below A w1 w ∧ (0 < m → ∃ b o, fa = some ⟨b, o, none⟩ ∧ b < w.heap.size ∧ ∀ (i x : Nat), fr[i]? = some x → w.cell? ⟨b, o + i, none⟩ = some (.int .i64 (x : Int)))) := ⟨fun i w h => by
            have := h.read
            rwa [hm] at this⟩
          have HWT : Veil (∀ k : Nat, ¬ k < m → ((wantN j fr k : Nat) : Int) = (j : Int) + 1 + (k : Int) - (m : Int)) := ⟨fun k hk => by
            unfold wantN
            rw [List.getElem?_eq_none (by omega)]
            show ((j + 1 + k - fr.length : Nat) : Int) = _
            omega⟩
          have HWR : Veil (∀ k : Nat, k < m → ∃ x : Nat, fr[k]? = some x ∧ wantN j fr k = x) := ⟨fun k hk => ⟨fr[k]'(by omega), List.getElem?_eq_getElem (by omega), by unfold wantN; rw [List.getElem?_eq_getElem (by omega)]; rfl⟩⟩
          rw [hm] at HCOL HCO hlen ⊢
          have hmi : (m : Int) ≤ (j : Int) := by omega
          have hm0 : (0 : Int) ≤ (m : Int) := by omega
          have hmore0 : (0 : Int) ≤ (more : Int) := by omega
          have hmore : (more : Int) < 20 := by omega
          have HM9 := Veil.mk hm
          clear hm
          go_upto_region 22 with (first | (go_at_call 12; ((with_reducible refine HCOL.out.mono ?_); rintro e w5 ⟨a1, c1, rfl, hi1, hi2, hg0⟩)) | (go_at_call 14; ((with_reducible refine (HNS.out _ _ _ _ _ _ _ hi1 hi2 (by omega)).mono ?_); rintro e w6 ⟨rfl, hb6⟩; replace hg0 := hg0.below_any hb6; clear hi1 hi2 hb6)))
          go_loopw [59] (fun i wr => ∃ k : Nat, k ≤ m + more ∧ i = .int .i64 (k : Int) ∧ Again A j fr fa fc w1 k wr) (fun i _ => m + more - (intOf i).toNat)
          case atStart => exact ⟨0, Nat.zero_le _, rfl, hg0⟩
          case round =>
            obtain ⟨k, hk9, rfl, hg⟩ := hrel
            have hk0' : (0 : Int) ≤ (k : Int) := by omega
            by_cases hkt : k < m + more
            · have hkt' : (k : Int) < (m : Int) + (more : Int) := by omega
              have hkb : (k : Int) < 1000 := by omega
              have HM := Veil.mk (HMK.out k wr hg (by omega))
              by_cases hkm : k < m
              · have hkm' : (k : Int) < (m : Int) := by omega
                obtain ⟨-, hrd⟩ := HAG.out k wr hg
                obtain ⟨b, o, rfl, -, hc⟩ := hrd (by omega)
                obtain ⟨x, hx1, hx2⟩ := HWR.out k hkm
                have hck := hc k x hx1
                rw [hx2] at HM
                have q0 : ((x : Int) != (x : Int)) = false := by simp
                clear hc hrd hx1 hx2 hg
                go_wp2_with (first | (go_at_call 10; ((with_reducible refine HM.out.mono ?_); rintro e w7 ⟨rfl, hg7⟩)))
                go_round
                case rel => exact ⟨k + 1, by omega, by go_num, hg7⟩
                case measure => simp [intOf]; omega
              · have hkm' : ¬ (k : Int) < (m : Int) := by omega
                rw [HWT.out k hkm] at HM
                have q0 : (((j : Int) + 1 + (k : Int) - (m : Int)) != ((j : Int) + 1 + (k : Int) - (m : Int))) = false := by simp
                clear hg
                go_wp2_with (first | (go_at_call 10; ((with_reducible refine HM.out.mono ?_); rintro e w7 ⟨rfl, hg7⟩)))
                go_round
                case rel => exact ⟨k + 1, by omega, by go_num, hg7⟩
                case measure => simp [intOf]; omega
            · obtain rfl : k = m + more := by omega
              have hkt' : ¬ ((m + more : Nat) : Int) < (m : Int) + (more : Int) := by omega
              have HC := Veil.mk (HCO.out _ wr hg)
              rw [show ((j - m + (m + more) : Nat) : Int) = (j : Int) + (more : Int) by omega] at HC
              have q0 : (((j : Int) + (more : Int)) == ((j : Int) + (more : Int))) = true := by simp
              have HBL := Veil.mk hg.below
              clear hg
              go_wp2_with (first | (go_at_call 13; ((with_reducible refine HC.out.mono ?_); rintro e w7 ⟨rfl, rfl⟩)))
              go_ret
              exact ⟨rfl, HB1.out.trans (HBL.out.mono (by rw [← hA]; exact HB1.out.size))⟩
end Go.Proofs.Ytkkbfadfgdjkdaa
