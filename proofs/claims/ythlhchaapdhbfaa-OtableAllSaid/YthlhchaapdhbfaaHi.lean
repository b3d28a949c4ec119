/- OtableAll: the law's walk. -/
import Derived.Test.YthlhchaapdhbfaaHj
namespace Go.Proofs.Ythlhchaapdhbfaa
open Go Go.RowKit
attribute [local go_sem] Oper.semAt_some

set_option maxHeartbeats 4000000 in
set_option maxRecDepth 100000 in
theorem all_any (a : Option Addr) (n cap : Nat) (L : List CallD) (stop : Int) (w : World) (h : CallsAt w a n L) :
    Calls Try.prog 9 #[.slice a n cap, .int .i64 stop] w fun e w' => e = .returned (.bool true) ∧ Below w.heap.size w w' := by
  have HN := Veil.mk h.1
  have HC := Veil.mk h
  have HF := Veil.mk fit_any
  obtain ⟨r, hr⟩ : ∃ r, decide (Light L) = r := ⟨_, rfl⟩
  have HL : Veil (∀ w', Below w.heap.size w w' → Calls Try.prog 33 #[.slice a n cap] w' fun e w2 => e = .returned (.bool r) ∧ Below w'.heap.size w' w2) := ⟨fun w' hb => by
    have := light_any a n cap L w' (h.on hb)
    rw [hr] at this
    exact this⟩
  have HR := Veil.mk hr
  clear h hr
  obtain ⟨bs, hbs⟩ : ∃ b, w.heap.size = b := ⟨_, rfl⟩
  obtain ⟨br, hbr⟩ : ∃ b, w.heap.size + 1 = b := ⟨_, rfl⟩
  obtain ⟨W0, hW0⟩ : ∃ W, (w.alloc (.cells #[.int .i64 stop] 3)).alloc (.cells #[.bool false] 4) = W := ⟨_, rfl⟩
  have hb0 : Below w.heap.size w W0 := by rw [← hW0]; exact ((Below.refl _ _).alloc (Nat.le_refl _) _).alloc (by simp) _
  have bS : Box W0 bs 3 #[.int .i64 stop] := by rw [← hW0, ← hbs]; exact (Box.new w _ _).more _
  have bR : Box W0 br 4 #[.bool false] := by
    rw [← hW0, ← hbr]
    have := Box.new (w.alloc (.cells #[.int .i64 stop] 3)) 4 #[.bool false]
    rwa [World.size_alloc] at this
  have HBX := Veil.mk (And.intro bS (And.intro bR hb0))
  have HW0 := Veil.mk (And.intro hW0 (And.intro hbs hbr))
  clear bS bR hb0 hW0 hbs hbr
  refine (callsIn_wide (n := 6)).1 (callsIn_of_wp_marks Try.func9 rfl trivial (wpIn_wide.2 ?_) rfl)
  simp only [Try.ntmps9, List.size_toArray, List.length_cons, List.length_nil, Nat.reduceAdd, Nat.reduceSub, Array.replicate_succ, Array.replicate_zero, List.push_toArray, List.append_toArray, List.nil_append, List.cons_append]
  go_upto_region 1 with (fail)
  rw [HW0.out.1, HW0.out.2.2, HW0.out.2.1]
  go_upto_region 3 with (first | (go_at_call 32; ((with_reducible refine (HF.out _).mono ?_); rintro e w1 ⟨rfl, hb1⟩)))
  have HB1 := Veil.mk (HBX.out.2.2.trans (hb1.mono HBX.out.2.2.size))
  have bS1 := HBX.out.1.on hb1 HBX.out.1.lt
  have bR1 := HBX.out.2.1.on hb1 HBX.out.2.1.lt
  clear hb1
  have HB11 := Veil.mk (And.intro bS1 bR1)
  clear bS1 bR1
  cases r with
  | false =>
    go_upto_region 4 with (first | (go_at_call 33; ((with_reducible refine (HL.out _ HB1.out).mono ?_); rintro e w2 ⟨rfl, hb2⟩)))
    have x0 := (HB11.out.2.on hb2 HB11.out.2.lt).at_ 0
    have xf := (HB11.out.2.on hb2 HB11.out.2.lt).free 0
    have hx := (HB11.out.2.on hb2 HB11.out.2.lt).put 0 (.bool true)
    have hbb : Below w.heap.size w (w2.setCell ⟨br, 0, none⟩ (.bool true)) := (HB1.out.trans (hb2.mono HB1.out.size)).setCell (p := ⟨br, 0, none⟩) (by have := HW0.out.2.2; show w.heap.size ≤ br; omega) _
    have HX := Veil.mk (And.intro hx hbb)
    clear hx hbb
    go_wp2
    exact fin_all (br := br) rfl (HX.out.1.at_ 0) HX.out.2
  | true =>
    have HLL : Veil (Light L) := ⟨of_decide_eq_true HR.out⟩
    have HN4 : Veil (n ≤ 400) := ⟨by have := HLL.out.1; rw [HN.out] at this; exact this⟩
    go_upto_region 5 with (first | (go_at_call 33; ((with_reducible refine (HL.out _ HB1.out).mono ?_); rintro e w2 ⟨rfl, hb2⟩)))
    have hb12 : Below w.heap.size w w2 := HB1.out.trans (hb2.mono HB1.out.size)
    have HB2 := Veil.mk hb12
    have HX2 := Veil.mk (And.intro (HB11.out.1.on hb2 HB11.out.1.lt) (HB11.out.2.on hb2 HB11.out.2.lt))
    clear hb2 hb12 HB11
    go_upto_region 6 with (first | (go_at_call 34; ((with_reducible refine (new_tf (B := w2.heap.size) (Nat.le_refl _)).mono ?_); rintro e w3 ⟨rfl, hTf, hb3⟩)))
    have hBS := bs_new hTf
    have hbW : Below w2.heap.size w2 ((w3.alloc (.cells #[noRow, .int .i64 0] 70)).alloc (.cells #[.pointer (some ⟨w2.heap.size, 0, none⟩), .pointer (some ⟨w3.heap.size, 0, none⟩), noRow, noRow] 74)) := hb3.trans ((((Below.refl w3.heap.size w3).alloc (Nat.le_refl _) _).alloc (by simp) _).mono hb3.size)
    generalize (w3.alloc (.cells #[noRow, .int .i64 0] 70)).alloc (.cells #[.pointer (some ⟨w2.heap.size, 0, none⟩), .pointer (some ⟨w3.heap.size, 0, none⟩), noRow, noRow] 74) = W at hBS hbW ⊢
    obtain ⟨gb, hgb⟩ : ∃ g, w3.heap.size + 1 = g := ⟨_, rfl⟩
    rw [hgb] at hBS ⊢
    clear hgb
    obtain ⟨gm, hgm⟩ : ∃ g, w3.heap.size = g := ⟨_, rfl⟩
    rw [hgm] at hBS
    have HBS := Veil.mk hBS
    have HBW := Veil.mk hbW
    clear hTf hb3 hBS hbW hgm
    obtain ⟨t, ht⟩ : ∃ t, w2.heap.size = t := ⟨_, rfl⟩
    have HBS2 : Veil (BS W w2.heap.size gb t gm (fun k => k = w2.heap.size) ([], []) [] 0 noRow noRow noRow []) := ⟨by have := HBS.out; rwa [show w2.heap.size = t from ht] at this ⊢⟩
    clear HBS ht
    generalize (fun k => k = w2.heap.size) = F0 at HBS2
    go_wp2
    go_loopw [27] (fun i wr => AllL w2 gb t gm n i wr) (fun i _ => n - (intOf i).toNat)
    case atStart => exact ⟨0, F0, _, [], 0, _, Nat.zero_le _, rfl, HBS2.out, by simp, Int.le_refl _, Int.le_refl _, HBW.out⟩
    case round =>
      obtain ⟨p, F, O, l, cl, vl, hp, rfl, hB, hl, hc0, hc1, hb⟩ := hrel
      clear HBS2 HBW
      by_cases hlt : p < n
      · have hlt' : (p : Int) < (n : Int) := by omega
        have hp0 : (0 : Int) ≤ (p : Int) := by omega
        obtain ⟨b, o, rfl, hbl, hc⟩ := HC.out.2 (by omega)
        obtain ⟨c, hcp⟩ : ∃ c, L[p]? = some c := ⟨_, List.getElem?_eq_getElem (by rw [HN.out]; exact hlt)⟩
        have hca := (hc p c hcp).on (HB2.out.trans (hb.mono HB2.out.size)) hbl
        obtain ⟨c0, c1, c2, c3, c4, c5, hltc, hnum⟩ := hca
        have hlen := HLL.out.2 c (List.mem_of_getElem? hcp)
        have HB := Veil.mk hb
        have hBB := HN4.out
        have HNU := Veil.mk hnum
        have HLT := Veil.mk hltc
        have HX := Veil.mk hB
        clear hc hcp hb hnum hltc hB
        go_upto_region 9 with (fail)
        have bx := Box.new wr 79 (callC c)
        have lx : Below wr.heap.size wr (wr.alloc (.cells (callC c) 79)) := (Below.refl _ _).alloc (Nat.le_refl _) _
        have hBA := HX.out.on lx
        have hnA := HNU.out.on lx
        have hbA := HB.out.trans (lx.mono HB.out.size)
        generalize wr.alloc (.cells (callC c) 79) = A at bx hBA hnA hbA ⊢
        obtain ⟨gx, hgx⟩ : ∃ g, wr.heap.size = g := ⟨_, rfl⟩
        rw [hgx] at bx ⊢
        have x0 : A.cell? ⟨gx, 0, none⟩ = some (.int .i64 c.kind) := bx.at_ 0
        have x1 : A.cell? ⟨gx, 1, none⟩ = some (.int .i64 c.kk) := bx.at_ 1
        have x2 : A.cell? ⟨gx, 2, none⟩ = some (.int .i64 c.kn) := bx.at_ 2
        have x3 : A.cell? ⟨gx, 3, none⟩ = some (.slice c.a c.len c.cap) := bx.at_ 3
        have x4 : A.cell? ⟨gx, 4, none⟩ = some (.int .i64 c.val) := bx.at_ 4
        have x5 : A.cell? ⟨gx, 5, none⟩ = some (.int .i64 c.n) := bx.at_ 5
        obtain ⟨q, hq7, hqt, hqk, h7, h8⟩ := rem_nat c.kind 7 (by omega)
        rw [show ((7 : Nat) : Int) = 7 from rfl] at hqt hqk h7 h8
        have HBA := Veil.mk hbA
        have HBA2 := Veil.mk hBA
        clear c0 c1 c2 c3 c4 c5 bx lx hbA hgx
        by_cases h4 : q < 4
        · have h4' : (q : Int) < 4 := by omega
          have HPL := Veil.mk (play04 w2.heap.size gb t gm F O l cl vl noRow noRow [] (by omega) (by simp) hc0 (by omega) c q h4 hqk h7 h8 hlen HLT.out A hnA hBA)
          clear hBA hnA hqk
          go_wp2_with (first | (go_at_call 35; ((with_reducible refine HPL.out.mono ?_); rintro e w5 ⟨rfl, F5, O5, l5, cl5, vl5, hB5, hll5, hc5, hcc5, hb5⟩; have HB5 := Veil.mk hB5; have HBB5 := Veil.mk hb5; clear hB5 hb5)))
          go_roundw
          case rel => exact ⟨p + 1, F5, O5, l5, cl5, vl5, by omega, by go_num, HB5.out, by omega, by omega, by omega, HBA.out.trans HBB5.out⟩
          case measure => simp [intOf]; omega
        · have h4' : ¬ (q : Int) < 4 := by omega
          clear hBA hnA hqk
          go_wp2
          go_roundw
          case rel => exact ⟨p + 1, F, O, l, cl, vl, by omega, by go_num, HBA2.out, by omega, by omega, by omega, HBA.out⟩
          case measure => simp [intOf]; omega
      · have hlt' : ¬ (p : Int) < (n : Int) := by omega
        have HX := Veil.mk hB
        have HB := Veil.mk hb
        have hBB := HN4.out
        clear hB hb
        go_upto_region 14 with (fail)
        obtain ⟨Wa, rfl⟩ : ∃ W, W = wr := ⟨_, rfl⟩
        obtain ⟨bw, hbw⟩ : ∃ b, Wa.heap.size = b := ⟨_, rfl⟩
        obtain ⟨va, vca, rfl, hvc, hvg, hvm⟩ := slice_own HX.out.rt.own
        have lw1 : Below Wa.heap.size Wa (Wa.alloc (.cells #[noRow] 68)) := (Below.refl _ _).alloc (Nat.le_refl _) _
        have bw1 : Box (Wa.alloc (.cells #[noRow] 68)) bw 68 #[noRow] := by rw [← hbw]; exact Box.new Wa _ _
        have hX1 := HX.out.on lw1
        rw [hbw]
        generalize Wa.alloc (.cells #[noRow] 68) = A at lw1 bw1 hX1 ⊢
        have x1 : A.cell? ⟨gb, 1, none⟩ = some (.pointer (some ⟨gm, 0, none⟩)) := hX1.box.at_ 1
        have x2 : A.cell? ⟨gm, 0, none⟩ = some (.slice va l.length vca) := hX1.rt.box.at_ 0
        have HL0 := Veil.mk (show WantL Wa l bw (.int .i64 (0 : Int)) A from ⟨0, [], noRow, Nat.zero_le _, rfl, rfl, bw1, nil_own _ _ _ _, lw1⟩)
        have HBW := Veil.mk hbw
        clear lw1 bw1 hX1 hbw
        go_wp2
        clear x1 x2
        obtain ⟨iE, hiE, hiE0, hiE1, hiE2⟩ := info_parts Try.infoE
        have HHI := Veil.mk (And.intro hiE (And.intro hiE0 (And.intro hiE1 hiE2)))
        clear hiE hiE0 hiE1 hiE2
        go_loopw [53] (fun i wr => WantL Wa l bw i wr) (fun i _ => l.length - (intOf i).toNat)
        case atStart => exact HL0.out
        case round =>
          obtain ⟨p, lw, vw, hp, rfl, hlw, hbx, how, hbl⟩ := hrel
          clear HL0
          by_cases hlt : p < l.length
          · have hlt' : (p : Int) < (l.length : Int) := by omega
            have hp0 : (0 : Int) ≤ (p : Int) := by omega
            obtain ⟨r, rfl⟩ := hvg (by omega)
            obtain ⟨x, hx⟩ : ∃ x, l[p]? = some x := ⟨_, List.getElem?_eq_getElem hlt⟩
            obtain ⟨k0, k1, k2, v0, v1, v2, kf, kg⟩ := (HX.out.rt.on hbl).at_ p x hx
            have HXP := Veil.mk hx
            have HLW := Veil.mk hlw
            have hll : lw.length ≤ p := by rw [hlw]; exact pres_le l p
            have HP := Veil.mk (And.intro hbx (And.intro how hbl))
            clear hbx how hbl hx hlw
            go_upto_region 17 with (fail)
            have bx := Box.new wr 84 #[.int .i64 x.key.1, .int .i64 x.key.2.1, .string x.key.2.2, .int .i64 x.val.1, .int .i64 x.val.2.1, .string x.val.2.2, .int .i64 x.fl, .bool x.gone]
            have lx : Below wr.heap.size wr (wr.alloc (.cells #[.int .i64 x.key.1, .int .i64 x.key.2.1, .string x.key.2.2, .int .i64 x.val.1, .int .i64 x.val.2.1, .string x.val.2.2, .int .i64 x.fl, .bool x.gone] 84)) := (Below.refl _ _).alloc (Nat.le_refl _) _
            have hbx := HP.out.1.on lx HP.out.1.lt
            have how := own_touch HP.out.2.1 (Touch.of_below (S := fun _ => False) lx) (fun _ _ h => h)
            have hbl := HP.out.2.2.trans (lx.mono HP.out.2.2.size)
            generalize wr.alloc (.cells #[.int .i64 x.key.1, .int .i64 x.key.2.1, .string x.key.2.2, .int .i64 x.val.1, .int .i64 x.val.2.1, .string x.val.2.2, .int .i64 x.fl, .bool x.gone] 84) = A2 at bx hbx how hbl ⊢
            obtain ⟨gx, hgx⟩ : ∃ g, wr.heap.size = g := ⟨_, rfl⟩
            rw [hgx] at bx ⊢
            clear lx hgx k0 k1 k2 v0 v1 v2 kf kg HP
            have y7 : A2.cell? ⟨gx, 7, none⟩ = some (.bool x.gone) := bx.at_ 7
            have HPT := Veil.mk (pres_take HXP.out)
            cases hg : x.gone with
            | true =>
              rw [hg] at y7 HPT
              have HR := Veil.mk (show WantL Wa l bw (.int .i64 ((p + 1 : Nat) : Int)) A2 from ⟨p + 1, lw, vw, by omega, rfl, by rw [HPT.out, HLW.out]; simp, hbx, how, hbl⟩)
              clear bx hbx how hbl hg
              go_wp2
              go_roundw
              case rel => exact HR.out
              case measure => simp [intOf]; omega
            | false =>
              rw [hg] at y7 HPT bx
              have y0 : A2.cell? ⟨gx, 0, none⟩ = some (.int .i64 x.key.1) := bx.at_ 0
              have y1 : A2.cell? ⟨gx, 1, none⟩ = some (.int .i64 x.key.2.1) := bx.at_ 1
              have y2 : A2.cell? ⟨gx, 2, none⟩ = some (.string x.key.2.2) := bx.at_ 2
              have y3 : A2.cell? ⟨gx, 3, none⟩ = some (.int .i64 x.val.1) := bx.at_ 3
              have y4 : A2.cell? ⟨gx, 4, none⟩ = some (.int .i64 x.val.2.1) := bx.at_ 4
              have y5 : A2.cell? ⟨gx, 5, none⟩ = some (.string x.val.2.2) := bx.at_ 5
              have y6 : A2.cell? ⟨gx, 6, none⟩ = some (.int .i64 x.fl) := bx.at_ 6
              obtain ⟨wa, wc, rfl, hwc, hwg, hwm⟩ := slice_own how
              have z0 : A2.cell? ⟨bw, 0, none⟩ = some (.slice wa lw.length wc) := hbx.at_ 0
              have zf := hbx.free 0
              have hap := hbx.apart how (by decide)
              obtain ⟨hiE, hiE0, hiE1, hiE2⟩ := HHI.out
              have hBs : Wa.heap.size ≤ A2.heap.size := hbl.size
              have HXX : Veil ({ x with gone := false } = x) := ⟨by rw [← hg]⟩
              clear hg hwg
              go_wp2_with (at_builtin; refine wpList_append_lies _ rfl _ _ 68 rfl Wa.heap.size 84 iE (.agg #[.int .i64 0, .int .i64 0, .string ⟨#[]⟩, .int .i64 0, .int .i64 0, .string ⟨#[]⟩, .int .i64 0, .bool false]) 8 80 Try.underlying68 hiE hiE0 hiE1 hiE2 rfl (by decide) _ _ _ rfl (how.alloc _) ⟨A2.heap.size, 0, none⟩ 1 1 [.int .i64 x.key.1, .int .i64 x.key.2.1, .string x.key.2.2, .int .i64 x.val.1, .int .i64 x.val.2.1, .string x.val.2.2, .int .i64 x.fl, .bool false] rfl rfl (news_at _ _ rfl _ _) (by simp [Value.oneCell']) (by decide) (by unfold maxLen; omega) (by omega) (by simp; omega) _ rfl ?_; intro g cap' w3 hown' hgrow3 hblk hg3; have hx3 : Box w3 bw _ _ := (hbx.more _).grown hgrow3 hap; have e12 : w3.cell? ⟨bw, 0, none⟩ = some (.slice wa lw.length wc) := hx3.at_ 0; have e13 := hx3.free 0; refine Hid.out ?_)
              have tg : Touch (fun k => (Value.slice wa lw.length wc).ownBlock = some k) A2 w3 := (Touch.of_below ((Below.refl A2.heap.size A2).alloc (Nat.le_refl _) (.cells #[.int .i64 x.key.1, .int .i64 x.key.2.1, .string x.key.2.2, .int .i64 x.val.1, .int .i64 x.val.2.1, .string x.val.2.2, .int .i64 x.fl, .bool false] 84))).trans (Touch.of_grown hgrow3 (fun k hk => hk))
              have tp : Touch (fun k => k = bw) w3 (w3.setCell ⟨bw, 0, none⟩ (.slice (some ⟨g, 0, none⟩) (lw.length + 1) cap')) := Touch.put (S := fun k => k = bw) rfl _ _
              have hb3 : Below Wa.heap.size Wa (w3.setCell ⟨bw, 0, none⟩ (.slice (some ⟨g, 0, none⟩) (lw.length + 1) cap')) := (hbl.trans (tg.below hBs (fun k hk => (own_lt how k hk).1))).trans (tp.below (Nat.le_trans hBs tg.size) (fun k hk => by rw [hk, ← HBW.out]; exact Nat.le_refl _))
              have ho3 := own_touch hown' tp (fun k hk e => ((own_lab hown' k hk).ne hx3.lab (by decide)) e)
              have hlast : reFlat lw ++ [.int .i64 x.key.1, .int .i64 x.key.2.1, .string x.key.2.2, .int .i64 x.val.1, .int .i64 x.val.2.1, .string x.val.2.2, .int .i64 x.fl, .bool false] = reFlat (lw ++ [{ x with gone := false }]) := by rw [reFlat_snoc]; rfl
              rw [hlast] at ho3
              have HR := Veil.mk (show WantL Wa l bw (.int .i64 ((p + 1 : Nat) : Int)) (w3.setCell ⟨bw, 0, none⟩ (.slice (some ⟨g, 0, none⟩) (lw.length + 1) cap')) from ⟨p + 1, lw ++ [{ x with gone := false }], _, by omega, rfl, by rw [HPT.out, HLW.out, HXX.out]; rfl, hx3.put 0 _, by rw [List.length_append]; exact ho3, hb3⟩)
              clear tg tp hb3 ho3 hgrow3 hown' hx3 bx hbx how hbl hap hblk hg3 hlast
              refine Lib.hid ?_
              go_wp2
              go_roundw
              case rel => exact HR.out
              case measure => simp [intOf]; omega
          · have hlt' : ¬ (p : Int) < (l.length : Int) := by omega
            have HP := Veil.mk (And.intro hbx (And.intro how (And.intro hbl (And.intro hlw hp))))
            clear hbx how hbl hlw
            go_upto_region 20 with (fail)
            obtain ⟨va2, vca2, rfl, hwc, hwg, hwm⟩ := slice_own HP.out.2.1
            have hEQ : lw = pres l := by
              have h := HP.out.2.2.2.1
              rwa [List.take_of_length_le (by omega)] at h
            subst hEQ
            obtain ⟨bi, hbi⟩ : ∃ b, wr.heap.size = b := ⟨_, rfl⟩
            have l1 : Below wr.heap.size wr (wr.alloc (.cells #[.int .i64 0] 3)) := (Below.refl _ _).alloc (Nat.le_refl _) _
            have b1 : Box (wr.alloc (.cells #[.int .i64 0] 3)) bi 3 #[.int .i64 0] := by rw [← hbi]; exact Box.new wr _ _
            have bw3 := HP.out.1.on l1 HP.out.1.lt
            have ow3 := own_touch HP.out.2.1 (Touch.of_below (S := fun _ => False) l1) (fun _ _ h => h)
            have bl3 := HP.out.2.2.1.trans (l1.mono HP.out.2.2.1.size)
            have hbiW : Wa.heap.size ≤ bi := by rw [← hbi]; exact HP.out.2.2.1.size
            have hbiO : ∀ k, (Value.slice va2 (pres l).length vca2).ownBlock = some k → k < bi := fun k hk => by rw [← hbi]; exact (own_lt HP.out.2.1 k hk).2
            have hbwi : bw < bi := by rw [← hbi]; exact HP.out.1.lt
            clear HP
            go_upto_region 21 with (fail)
            generalize wr.alloc (.cells #[.int .i64 0] 3) = A3 at l1 b1 bw3 ow3 bl3 ⊢
            clear l1 hbi
            have hX3 := HX.out.on bl3
            have x0 : A3.cell? ⟨gb, 0, none⟩ = some (.pointer (some ⟨t, 0, none⟩)) := hX3.box.at_ 0
            have HX3 := Veil.mk (And.intro hX3 (And.intro b1 (And.intro bw3 (And.intro ow3 bl3))))
            have HBI := Veil.mk (And.intro hbiW (And.intro hbiO hbwi))
            clear hX3 b1 bw3 ow3 bl3 hbiW hbiO hbwi
            have HAF := Veil.mk (all_fn t A3)
            go_wp2_with (first | (go_at_call 36; ((with_reducible refine HAF.out.mono ?_); rintro e w7 ⟨rfl, rfl⟩)))
            clear x0 HAF hlt'
            obtain ⟨hX3, b1, bw3, ow3, bl3⟩ := HX3.out
            obtain ⟨hbiW, hbiO, hbwi⟩ := HBI.out
            have hTa := HX.out.tf
            have hFl : ∀ k, F k → w2.heap.size ≤ k ∧ k < Wa.heap.size := fun k hk => hTa.lt k hk
            have hA3 : bi < A3.heap.size := b1.lt
            have l4 : Below A3.heap.size A3 (A3.alloc (.cells #[.pointer (some ⟨t, 0, none⟩)] 65)) := (Below.refl _ _).alloc (Nat.le_refl _) _
            have b4 : Box (A3.alloc (.cells #[.pointer (some ⟨t, 0, none⟩)] 65)) A3.heap.size 65 #[.pointer (some ⟨t, 0, none⟩)] := Box.new A3 _ _
            have hX4 := hX3.on l4
            have b14 := b1.on l4 b1.lt
            have bw4 := bw3.on l4 bw3.lt
            have ow4 := own_touch ow3 (Touch.of_below (S := fun _ => False) l4) (fun _ _ h => h)
            have hwA : Below w2.heap.size w2 (A3.alloc (.cells #[.pointer (some ⟨t, 0, none⟩)] 65)) := (HB.out.trans (bl3.mono HB.out.size)).trans (l4.mono (Nat.le_trans HB.out.size bl3.size))
            have bs4 := HX2.out.1.on hwA HX2.out.1.lt
            have br4 := HX2.out.2.on hwA HX2.out.2.lt
            have hwB := HB2.out.trans (hwA.mono HB2.out.size)
            have sz4 : A3.heap.size + 1 = (A3.alloc (.cells #[.pointer (some ⟨t, 0, none⟩)] 65)).heap.size := by simp
            obtain ⟨bt, hbt⟩ : ∃ b, A3.heap.size = b := ⟨_, rfl⟩
            rw [hbt] at b4 hA3 sz4 ⊢
            generalize A3.alloc (.cells #[.pointer (some ⟨t, 0, none⟩)] 65) = A4 at b4 hX4 b14 bw4 ow4 hwA bs4 br4 hwB sz4 ⊢
            have hRG : RgI w gb t gm Wa.heap.size bi bs br bw stop (.slice va2 (pres l).length vca2) (pres l) 0 A4 := ⟨b14, bs4, br4, bw4, hX4.box, ow4, hwB⟩
            have hgF : ¬ F gb ∧ gb < A4.heap.size := ⟨hX4.tf.not_lab hX4.box.lab (by decide), hX4.box.lt⟩
            have hbsl := HX2.out.1.lt
            have hbrl := HX2.out.2.lt
            have hw2s := HB2.out.size
            have hWas := HB.out.size
            have hbwe := HBW.out
            have hO1 : O.1.length ≤ l.length := by rw [hX4.live]; exact liveR_le l
            have hO1' : O.1.length = (pres l).length := by rw [hX4.live, liveR_pres, List.length_map]
            have hO2 : O.2 = [] := List.Perm.eq_nil hX4.curs
            have hT4 := hX4.tf
            have HRG := Veil.mk hRG
            have HTT : Veil (∀ W, Below A4.heap.size A4 W → Tf w2.heap.size t F O W ∧ Box W bt 65 #[.pointer (some ⟨t, 0, none⟩)]) := ⟨fun W hb => ⟨hT4.on hb, b4.on hb b4.lt⟩⟩
            have HLV := Veil.mk hX4.live
            clear b4 hX4 b14 bw4 ow4 hwA bs4 br4 hwB hX3 b1 bw3 ow3 bl3 l4 hTa hT4 hRG
            refine wpIn_wide.1 (wpIn_rangeFunc_tab (n := 6) (by omega) (gf := 67) (lb := #[.pointer (some ⟨bt, 0, none⟩)]) rfl (enters_of Try.func67 (by kernel_rfl) rfl) (encs := fun x : En => #[valV x.1, valV x.2.1]) (F := F) (S := fun xs => xs = O.1) (Sp := fun pre => pre <+: O.1) (Pt := AllP w2.heap.size t O) ?hF ?hseq
              (fun _ _ _ _ h ht hl => h.touch ht hl) (fun _ => rfl) (fun k => k = bi) ?hBx (fun pre W => RgI w gb t gm Wa.heap.size bi bs br bw stop (.slice va2 (pres l).length vca2) (pres l) pre.length W) (fun c xs W => c = .exit 4 ∧ ∃ pre x, xs = pre ++ [x] ∧ (pre.length : Int) = stop ∧ RgI w gb t gm Wa.heap.size bi bs br bw stop (.slice va2 (pres l).length vca2) (pres l) pre.length W)
              ?hI ?hIx HRG.out AxD (fun _ _ _ _ _ h ht hl => h.touch ht hl) ?assign ?body ?done ?stop)
            case hF => exact fun k hk => by have := hFl k hk; omega
            case hBx => exact fun k hk => ⟨by rw [hk]; omega, fun h => by have := hFl k h; omega⟩
            case hI => exact fun s A B h ht => h.touch (lo := w2.heap.size) ht hFl ⟨by omega, by omega, by omega⟩ ⟨by omega, by omega, by omega, by omega⟩ (by omega) (fun k hk => by have := hbiO k hk; omega) hgF
            case hIx =>
              intro c s A B h ht
              obtain ⟨h1, pre, x, h2, h3, h4⟩ := h
              exact ⟨h1, pre, x, h2, h3, h4.touch (lo := w2.heap.size) ht hFl ⟨by omega, by omega, by omega⟩ ⟨by omega, by omega, by omega, by omega⟩ (by omega) (fun k hk => by have := hbiO k hk; omega) hgF⟩
            case hseq =>
              intro W hb
              obtain ⟨h1, h2⟩ := HTT.out W hb
              exact all_stops 5 (by omega) w2.heap.size t bt F O (by omega) (by rw [hO2]; simp) W h1 h2
            case assign =>
              intro k pre x W K hI hK
              have HI2 := Veil.mk hI
              clear hI
              gi_wp2
              have hal := ((Below.refl W.heap.size W).alloc (Nat.le_refl _) (.cells #[.int .i64 x.1.1, .int .i64 x.1.2.1, .string x.1.2.2] 82)).alloc (by simp) (.cells #[.int .i64 x.2.1.1, .int .i64 x.2.1.2.1, .string x.2.1.2.2] 82)
              have b5 := (Box.new W 82 #[.int .i64 x.1.1, .int .i64 x.1.2.1, .string x.1.2.2]).more (.cells #[.int .i64 x.2.1.1, .int .i64 x.2.1.2.1, .string x.2.1.2.2] 82)
              have b6 := Box.new (W.alloc (.cells #[.int .i64 x.1.1, .int .i64 x.1.2.1, .string x.1.2.2] 82)) 82 #[.int .i64 x.2.1.1, .int .i64 x.2.1.2.1, .string x.2.1.2.2]
              rw [World.size_alloc] at b6
              exact hK _ _ (Touch.of_below hal) (HI2.out.on hal) ⟨_, _, b5, b6, rfl⟩
            case body =>
              rintro k pre x a' W hI ⟨b, c, hb, hc, rfl⟩ hsp
              simp only [List.setIfInBounds_toArray, List.set_cons_zero, List.set_cons_succ]
              have i0 : W.cell? ⟨bi, 0, none⟩ = some (.int .i64 (pre.length : Int)) := hI.bI.at_ 0
              have if0 := hI.bI.free 0
              have s0 : W.cell? ⟨bs, 0, none⟩ = some (.int .i64 stop) := hI.bS.at_ 0
              have HI2 := Veil.mk hI
              by_cases hst : (pre.length : Int) = stop
              · have hst' : ((pre.length : Int) == stop) = true := beq_iff_eq.2 hst
                have HST := Veil.mk hst
                clear hI hb hc hst
                gi_wp2
                exact ⟨Touch.refl _ _, rfl, pre, x, rfl, HST.out, HI2.out⟩
              · have hst' : ((pre.length : Int) == stop) = false := beq_eq_false_iff_ne.2 hst
                obtain ⟨e, he, hk1, hk2⟩ : ∃ e : Re, (pres l)[pre.length]? = some e ∧ e.key = x.1 ∧ e.val = x.2.1 := by
                  obtain ⟨r', hr'⟩ := hsp
                  have h1 : O.1[pre.length]? = some x := by rw [← hr']; simp
                  rw [HLV.out, liveR_pres, List.getElem?_map] at h1
                  obtain ⟨e, h2, h3⟩ := Option.map_eq_some_iff.1 h1
                  exact ⟨e, h2, by rw [← h3], by rw [← h3]⟩
                have hlt3 := (List.getElem?_eq_some_iff.1 he).1
                obtain ⟨rw_, rfl⟩ := hwg (by omega)
                obtain ⟨k0, k1, k2, v0, v1, v2, _, _⟩ := RgI.ent hI.ow pre.length e he
                rw [hk1] at k0 k1 k2
                rw [hk2] at v0 v1 v2
                have w0 : W.cell? ⟨bw, 0, none⟩ = some (.slice (some ⟨rw_, 0, none⟩) (pres l).length vca2) := hI.bW.at_ 0
                have d0 : W.cell? ⟨b, 0, none⟩ = some (.int .i64 x.1.1) := hb.at_ 0
                have d1 : W.cell? ⟨b, 1, none⟩ = some (.int .i64 x.1.2.1) := hb.at_ 1
                have d2 : W.cell? ⟨b, 2, none⟩ = some (.string x.1.2.2) := hb.at_ 2
                have f0 : W.cell? ⟨c, 0, none⟩ = some (.int .i64 x.2.1.1) := hc.at_ 0
                have f1 : W.cell? ⟨c, 1, none⟩ = some (.int .i64 x.2.1.2.1) := hc.at_ 1
                have f2 : W.cell? ⟨c, 2, none⟩ = some (.string x.2.1.2.2) := hc.at_ 2
                have hli : ((pre.length : Int) == ((pres l).length : Int)) = false := beq_eq_false_iff_ne.2 (by omega)
                have hli0 : (0 : Int) ≤ (pre.length : Int) := by omega
                have hli1 : (pre.length : Int) < ((pres l).length : Int) := by omega
                have hle9 : (pre.length : Int) < 9000 := by have := pres_le l l.length; rw [List.take_length] at this; omega
                clear hb hc hst hI he hk1 hk2 hsp
                gi_wp2
                refine wpIn_region_quiet_r (by kernel_rfl) (by kernel_rfl) (by kernel_rfl) ?_
                repeat (gi_big_quiet_step (fail))
                refine wpQuietIn_nil ?_
                rintro wz ⟨nq, rfl⟩
                gi_wp2
                have hx := (HI2.out.on (below_drewN (Below.refl W.heap.size W) nq)).step (by omega) (by omega)
                refine ⟨(Touch.of_below (below_drewN (Below.refl W.heap.size W) nq)).trans (Touch.put (S := fun k => k = bi) rfl _ _), ?_⟩
                show RgI w gb t gm Wa.heap.size bi bs br bw stop _ (pres l) (pre ++ [x]).length _
                rw [List.length_append]
                exact hx
            case done =>
              intro D pre W hD hS hI hP hK
              have hlen : (pre.length : Int) = ((pres l).length : Int) := by rw [hS, hO1']
              have HLEN := Veil.mk hlen
              clear hlen
              have HM := Veil.mk hI
              have hbr : br ≠ bi ∧ br ≠ bw ∧ br ≠ bs ∧ br ≠ gb := ⟨fun e => hI.bR.lab.ne hI.bI.lab (by decide) e, fun e => hI.bR.lab.ne hI.bW.lab (by decide) e, fun e => hI.bR.lab.ne hI.bS.lab (by decide) e, fun e => hI.bR.lab.ne hI.bG.lab (by decide) e⟩
              obtain ⟨n1, n2, n3, n4⟩ := hbr
              obtain ⟨F9, L9, hT9, hp9⟩ := hP
              have hL9 : L9 = [] := by rw [hO2] at hp9; exact hp9.eq_nil
              rw [hL9] at hT9
              obtain ⟨sto, hsto, hcs⟩ := stoq_tf hT9 (by show O.1.length < _; omega) (by simp)
              have hsto' : (sto : Int) ≤ 5 * ((pres l).length : Int) + 16 := by
                have h1 : sto ≤ 2 * O.1.length + 8 + 0 := hsto
                omega
              have e1 : IntKind.i64.wrap (5 * ((pres l).length : Int)) = 5 * ((pres l).length : Int) := IntWalk.i64_in _ (by omega)
              have e2 : IntKind.i64.wrap (5 * ((pres l).length : Int) + 16) = 5 * ((pres l).length : Int) + 16 := IntWalk.i64_in _ (by omega)
              have HCS := Veil.mk hcs
              have e3 : decide ((sto : Int) ≤ 5 * ((pres l).length : Int) + 16) = true := decide_eq_true hsto'
              have i0 : W.cell? ⟨bi, 0, none⟩ = some (.int .i64 (pre.length : Int)) := hI.bI.at_ 0
              have s0 : W.cell? ⟨bs, 0, none⟩ = some (.int .i64 stop) := hI.bS.at_ 0
              have w0 : W.cell? ⟨bw, 0, none⟩ = some (.slice va2 (pres l).length vca2) := hI.bW.at_ 0
              have g0 : W.cell? ⟨gb, 0, none⟩ = some (.pointer (some ⟨t, 0, none⟩)) := hI.bG.at_ 0
              have r0 : W.cell? ⟨br, 0, none⟩ = some (.bool false) := hI.bR.at_ 0
              have rf := hI.bR.free 0
              rw [HLEN.out] at i0
              clear hI hT9 hp9 hL9 hcs hsto
              go_wp2
              refine wp_region_chain (qKd gb t va2 (pres l).length vca2 ((pres l).length : Int) stop sto) (QPh W br) qSl (curV' _ qSl) (by kernel_rfl) rfl rfl (puts_cur _ _) ⟨1, rfl⟩ ?_ (by kernel_rfl) ?_
              · refine Steps.cons rfl (fun bb aa w' hbs hb0 hbp hI K hK => ?_) ?_
                · obtain ⟨us, hus, ha, hI⟩ := hI
                  obtain ⟨u0, u1, u2, u3, u4, u5, u6, u7, u8, u9, u10, u11, u12, u13, u14, u15, u16, u17, u18, u19, u20, u21, rfl⟩ := len22 hus
                  have p3 := hI.before 3 0 rfl (by kernel_rfl) hb0
                  have p4 := hI.before 4 3 rfl (by kernel_rfl) p3
                  have p8 := hI.before 8 4 rfl (by kernel_rfl) p4
                  have p9 := hI.before 9 8 rfl (by kernel_rfl) p8
                  have p20 := hI.before 20 9 rfl (by kernel_rfl) p9
                  have p21 := hI.before 21 20 rfl (by kernel_rfl) p20
                  have HL21 := Veil.mk p21
                  clear p21
                  clear p20
                  clear p9
                  clear p8
                  clear p4
                  clear p3
                  obtain ⟨nd, rfl⟩ := hI.ph.low HL21.out
                  have HI := Veil.mk hI
                  clear hI
                  rw [ha]
                  simp only [puts, setAll, List.setIfInBounds_toArray, List.set_cons_zero, List.set_cons_succ]
                  clear ha
                  go_simp
                  exact hK _ _ (chain_step HI.out hus hbs 0 _ (by show 0 < 22; decide) rfl hbp (val_of rfl rfl) (HI.out.ph.step 0 _ (by decide)) (by simp only [puts, setAll, List.set_cons_zero, List.set_cons_succ, List.setIfInBounds_toArray]))
                refine Steps.cons rfl (fun bb aa w' hbs hb0 hbp hI K hK => ?_) ?_
                · obtain ⟨us, hus, ha, hI⟩ := hI
                  obtain ⟨u0, u1, u2, u3, u4, u5, u6, u7, u8, u9, u10, u11, u12, u13, u14, u15, u16, u17, u18, u19, u20, u21, rfl⟩ := len22 hus
                  have p2 := hI.before 2 1 rfl (by kernel_rfl) hb0
                  have p3 := hI.before 3 2 rfl (by kernel_rfl) p2
                  have p4 := hI.before 4 3 rfl (by kernel_rfl) p3
                  have p8 := hI.before 8 4 rfl (by kernel_rfl) p4
                  have p9 := hI.before 9 8 rfl (by kernel_rfl) p8
                  have p20 := hI.before 20 9 rfl (by kernel_rfl) p9
                  have p21 := hI.before 21 20 rfl (by kernel_rfl) p20
                  have HL21 := Veil.mk p21
                  clear p21
                  clear p20
                  clear p9
                  clear p8
                  clear p4
                  clear p3
                  clear p2
                  obtain ⟨nd, rfl⟩ := hI.ph.low HL21.out
                  have HI := Veil.mk hI
                  clear hI
                  rw [ha]
                  simp only [puts, setAll, List.setIfInBounds_toArray, List.set_cons_zero, List.set_cons_succ]
                  clear ha
                  go_simp
                  exact hK _ _ (chain_step HI.out hus hbs 1 _ (by show 1 < 22; decide) rfl hbp (val_of rfl rfl) (HI.out.ph.step 1 _ (by decide)) (by simp only [puts, setAll, List.set_cons_zero, List.set_cons_succ, List.setIfInBounds_toArray]))
                refine Steps.cons rfl (fun bb aa w' hbs hb0 hbp hI K hK => ?_) ?_
                · obtain ⟨us, hus, ha, hI⟩ := hI
                  obtain ⟨u0, u1, u2, u3, u4, u5, u6, u7, u8, u9, u10, u11, u12, u13, u14, u15, u16, u17, u18, u19, u20, u21, rfl⟩ := len22 hus
                  have e1 : u1 = .slice va2 (pres l).length vca2 := hI.val 1 _ rfl (gen_after 1 (by kernel_rfl) hbp)
                  subst e1
                  have p3 := hI.before 3 2 rfl (by kernel_rfl) hb0
                  have p4 := hI.before 4 3 rfl (by kernel_rfl) p3
                  have p8 := hI.before 8 4 rfl (by kernel_rfl) p4
                  have p9 := hI.before 9 8 rfl (by kernel_rfl) p8
                  have p20 := hI.before 20 9 rfl (by kernel_rfl) p9
                  have p21 := hI.before 21 20 rfl (by kernel_rfl) p20
                  have HL21 := Veil.mk p21
                  clear p21
                  clear p20
                  clear p9
                  clear p8
                  clear p4
                  clear p3
                  obtain ⟨nd, rfl⟩ := hI.ph.low HL21.out
                  have HI := Veil.mk hI
                  clear hI
                  rw [ha]
                  simp only [puts, setAll, List.setIfInBounds_toArray, List.set_cons_zero, List.set_cons_succ]
                  clear ha
                  go_simp
                  exact hK _ _ (chain_step HI.out hus hbs 2 _ (by show 2 < 22; decide) rfl hbp (val_of rfl rfl) (HI.out.ph.step 2 _ (by decide)) (by simp only [puts, setAll, List.set_cons_zero, List.set_cons_succ, List.setIfInBounds_toArray]))
                refine Steps.cons rfl (fun bb aa w' hbs hb0 hbp hI K hK => ?_) ?_
                · obtain ⟨us, hus, ha, hI⟩ := hI
                  obtain ⟨u0, u1, u2, u3, u4, u5, u6, u7, u8, u9, u10, u11, u12, u13, u14, u15, u16, u17, u18, u19, u20, u21, rfl⟩ := len22 hus
                  have e0 : u0 = .int .i64 ((pres l).length : Int) := hI.val 0 _ rfl (gen_after 0 (by kernel_rfl) hbp)
                  subst e0
                  have e2 : u2 = .int .i64 ((pres l).length : Int) := hI.val 2 _ rfl (gen_after 2 (by kernel_rfl) hbp)
                  subst e2
                  have p4 := hI.before 4 3 rfl (by kernel_rfl) hb0
                  have p8 := hI.before 8 4 rfl (by kernel_rfl) p4
                  have p9 := hI.before 9 8 rfl (by kernel_rfl) p8
                  have p20 := hI.before 20 9 rfl (by kernel_rfl) p9
                  have p21 := hI.before 21 20 rfl (by kernel_rfl) p20
                  have HL21 := Veil.mk p21
                  clear p21
                  clear p20
                  clear p9
                  clear p8
                  clear p4
                  obtain ⟨nd, rfl⟩ := hI.ph.low HL21.out
                  have HI := Veil.mk hI
                  clear hI
                  rw [ha]
                  simp only [puts, setAll, List.setIfInBounds_toArray, List.set_cons_zero, List.set_cons_succ]
                  clear ha
                  go_simp
                  exact hK _ _ (chain_step HI.out hus hbs 3 _ (by show 3 < 22; decide) rfl hbp (val_of rfl rfl) (HI.out.ph.step 3 _ (by decide)) (by simp only [puts, setAll, List.set_cons_zero, List.set_cons_succ, List.setIfInBounds_toArray]))
                refine Steps.cons rfl (fun bb aa w' hbs hb0 hbp hI K hK => ?_) ?_
                · obtain ⟨us, hus, ha, hI⟩ := hI
                  obtain ⟨u0, u1, u2, u3, u4, u5, u6, u7, u8, u9, u10, u11, u12, u13, u14, u15, u16, u17, u18, u19, u20, u21, rfl⟩ := len22 hus
                  have e3 : u3 = .bool true := hI.val 3 _ rfl (gen_after 3 (by kernel_rfl) hbp)
                  subst e3
                  have p8 := hI.before 8 4 rfl (by kernel_rfl) hb0
                  have p9 := hI.before 9 8 rfl (by kernel_rfl) p8
                  have p20 := hI.before 20 9 rfl (by kernel_rfl) p9
                  have p21 := hI.before 21 20 rfl (by kernel_rfl) p20
                  have HL21 := Veil.mk p21
                  clear p21
                  clear p20
                  clear p9
                  clear p8
                  obtain ⟨nd, rfl⟩ := hI.ph.low HL21.out
                  have HI := Veil.mk hI
                  clear hI
                  rw [ha]
                  simp only [puts, setAll, List.setIfInBounds_toArray, List.set_cons_zero, List.set_cons_succ]
                  clear ha
                  go_simp
                  exact hK _ _ (chain_step HI.out hus hbs 4 _ (by show 4 < 22; decide) rfl hbp (val_of rfl rfl) (HI.out.ph.step 4 _ (by decide)) (by simp only [puts, setAll, List.set_cons_zero, List.set_cons_succ, List.setIfInBounds_toArray]))
                refine Steps.gen (fun bb aa w' hbs hb0 hbp hI K hK => ?_) ?_
                · obtain ⟨us, hus, ha, hI⟩ := hI
                  obtain ⟨u0, u1, u2, u3, u4, u5, u6, u7, u8, u9, u10, u11, u12, u13, u14, u15, u16, u17, u18, u19, u20, u21, rfl⟩ := len22 hus
                  have e4 : u4 = .bool true := hI.val 4 _ rfl (gen_after 4 (by kernel_rfl) hbp)
                  subst e4
                  have p7 := hI.before 7 5 rfl (by kernel_rfl) hb0
                  have p8 := hI.before 8 7 rfl (by kernel_rfl) p7
                  have p9 := hI.before 9 8 rfl (by kernel_rfl) p8
                  have p20 := hI.before 20 9 rfl (by kernel_rfl) p9
                  have p21 := hI.before 21 20 rfl (by kernel_rfl) p20
                  have HL21 := Veil.mk p21
                  clear p21
                  clear p20
                  clear p9
                  clear p8
                  clear p7
                  obtain ⟨nd, rfl⟩ := hI.ph.low HL21.out
                  have HI := Veil.mk hI
                  clear hI
                  rw [ha]
                  simp only [puts, setAll, List.setIfInBounds_toArray, List.set_cons_zero, List.set_cons_succ]
                  clear ha
                  refine ite_no rfl ?_
                  go_simp
                  exact hK _ _ (chain_step HI.out hus hbs 5 _ (by show 5 < 22; decide) rfl hbp (val_of rfl rfl) (HI.out.ph.step 5 _ (by decide)) (by simp only [puts, setAll, List.set_cons_zero, List.set_cons_succ, List.setIfInBounds_toArray]))
                refine Steps.gen (fun bb aa w' hbs hb0 hbp hI K hK => ?_) ?_
                · obtain ⟨us, hus, ha, hI⟩ := hI
                  obtain ⟨u0, u1, u2, u3, u4, u5, u6, u7, u8, u9, u10, u11, u12, u13, u14, u15, u16, u17, u18, u19, u20, u21, rfl⟩ := len22 hus
                  have e4 : u4 = .bool true := hI.val 4 _ rfl (gen_after 4 (by kernel_rfl) hbp)
                  subst e4
                  have p7 := hI.before 7 6 rfl (by kernel_rfl) hb0
                  have p8 := hI.before 8 7 rfl (by kernel_rfl) p7
                  have p9 := hI.before 9 8 rfl (by kernel_rfl) p8
                  have p20 := hI.before 20 9 rfl (by kernel_rfl) p9
                  have p21 := hI.before 21 20 rfl (by kernel_rfl) p20
                  have HL21 := Veil.mk p21
                  clear p21
                  clear p20
                  clear p9
                  clear p8
                  clear p7
                  obtain ⟨nd, rfl⟩ := hI.ph.low HL21.out
                  have HI := Veil.mk hI
                  clear hI
                  rw [ha]
                  simp only [puts, setAll, List.setIfInBounds_toArray, List.set_cons_zero, List.set_cons_succ]
                  clear ha
                  refine ite_no rfl ?_
                  go_simp
                  exact hK _ _ (chain_step HI.out hus hbs 6 _ (by show 6 < 22; decide) rfl hbp (val_of rfl rfl) (HI.out.ph.step 6 _ (by decide)) (by simp only [puts, setAll, List.set_cons_zero, List.set_cons_succ, List.setIfInBounds_toArray]))
                refine Steps.gen (fun bb aa w' hbs hb0 hbp hI K hK => ?_) ?_
                · obtain ⟨us, hus, ha, hI⟩ := hI
                  obtain ⟨u0, u1, u2, u3, u4, u5, u6, u7, u8, u9, u10, u11, u12, u13, u14, u15, u16, u17, u18, u19, u20, u21, rfl⟩ := len22 hus
                  have e4 : u4 = .bool true := hI.val 4 _ rfl (gen_after 4 (by kernel_rfl) hbp)
                  subst e4
                  have p8 := hI.before 8 7 rfl (by kernel_rfl) hb0
                  have p9 := hI.before 9 8 rfl (by kernel_rfl) p8
                  have p20 := hI.before 20 9 rfl (by kernel_rfl) p9
                  have p21 := hI.before 21 20 rfl (by kernel_rfl) p20
                  have HL21 := Veil.mk p21
                  clear p21
                  clear p20
                  clear p9
                  clear p8
                  obtain ⟨nd, rfl⟩ := hI.ph.low HL21.out
                  have HI := Veil.mk hI
                  clear hI
                  rw [ha]
                  simp only [puts, setAll, List.setIfInBounds_toArray, List.set_cons_zero, List.set_cons_succ]
                  clear ha
                  refine ite_no rfl ?_
                  go_simp
                  exact hK _ _ (chain_step HI.out hus hbs 7 _ (by show 7 < 22; decide) rfl hbp (val_of rfl rfl) (HI.out.ph.step 7 _ (by decide)) (by simp only [puts, setAll, List.set_cons_zero, List.set_cons_succ, List.setIfInBounds_toArray]))
                refine Steps.cons rfl (fun bb aa w' hbs hb0 hbp hI K hK => ?_) ?_
                · obtain ⟨us, hus, ha, hI⟩ := hI
                  obtain ⟨u0, u1, u2, u3, u4, u5, u6, u7, u8, u9, u10, u11, u12, u13, u14, u15, u16, u17, u18, u19, u20, u21, rfl⟩ := len22 hus
                  have e4 : u4 = .bool true := hI.val 4 _ rfl (gen_after 4 (by kernel_rfl) hbp)
                  subst e4
                  have p9 := hI.before 9 8 rfl (by kernel_rfl) hb0
                  have p20 := hI.before 20 9 rfl (by kernel_rfl) p9
                  have p21 := hI.before 21 20 rfl (by kernel_rfl) p20
                  have HL21 := Veil.mk p21
                  clear p21
                  clear p20
                  clear p9
                  obtain ⟨nd, rfl⟩ := hI.ph.low HL21.out
                  have HI := Veil.mk hI
                  clear hI
                  rw [ha]
                  simp only [puts, setAll, List.setIfInBounds_toArray, List.set_cons_zero, List.set_cons_succ]
                  clear ha
                  go_simp
                  exact hK _ _ (chain_step HI.out hus hbs 8 _ (by show 8 < 22; decide) rfl hbp (val_of rfl rfl) (HI.out.ph.step 8 _ (by decide)) (by simp only [puts, setAll, List.set_cons_zero, List.set_cons_succ, List.setIfInBounds_toArray]))
                refine Steps.cons rfl (fun bb aa w' hbs hb0 hbp hI K hK => ?_) ?_
                · obtain ⟨us, hus, ha, hI⟩ := hI
                  obtain ⟨u0, u1, u2, u3, u4, u5, u6, u7, u8, u9, u10, u11, u12, u13, u14, u15, u16, u17, u18, u19, u20, u21, rfl⟩ := len22 hus
                  have e8 : u8 = .bool true := hI.val 8 _ rfl (gen_after 8 (by kernel_rfl) hbp)
                  subst e8
                  have p20 := hI.before 20 9 rfl (by kernel_rfl) hb0
                  have p21 := hI.before 21 20 rfl (by kernel_rfl) p20
                  have HL21 := Veil.mk p21
                  clear p21
                  clear p20
                  obtain ⟨nd, rfl⟩ := hI.ph.low HL21.out
                  have HI := Veil.mk hI
                  clear hI
                  rw [ha]
                  simp only [puts, setAll, List.setIfInBounds_toArray, List.set_cons_zero, List.set_cons_succ]
                  clear ha
                  go_simp
                  exact hK _ _ (chain_step HI.out hus hbs 9 _ (by show 9 < 22; decide) rfl hbp (val_of rfl rfl) (HI.out.ph.step 9 _ (by decide)) (by simp only [puts, setAll, List.set_cons_zero, List.set_cons_succ, List.setIfInBounds_toArray]))
                refine Steps.gen (fun bb aa w' hbs hb0 hbp hI K hK => ?_) ?_
                · obtain ⟨us, hus, ha, hI⟩ := hI
                  obtain ⟨u0, u1, u2, u3, u4, u5, u6, u7, u8, u9, u10, u11, u12, u13, u14, u15, u16, u17, u18, u19, u20, u21, rfl⟩ := len22 hus
                  have e9 : u9 = .bool true := hI.val 9 _ rfl (gen_after 9 (by kernel_rfl) hbp)
                  subst e9
                  have p11 := hI.before 11 10 rfl (by kernel_rfl) hb0
                  have p12 := hI.before 12 11 rfl (by kernel_rfl) p11
                  have p13 := hI.before 13 12 rfl (by kernel_rfl) p12
                  have p14 := hI.before 14 13 rfl (by kernel_rfl) p13
                  have p19 := hI.before 19 14 rfl (by kernel_rfl) p14
                  have p20 := hI.before 20 19 rfl (by kernel_rfl) p19
                  have p21 := hI.before 21 20 rfl (by kernel_rfl) p20
                  have HL21 := Veil.mk p21
                  clear p21
                  clear p20
                  clear p19
                  clear p14
                  clear p13
                  clear p12
                  clear p11
                  obtain ⟨nd, rfl⟩ := hI.ph.low HL21.out
                  have HI := Veil.mk hI
                  clear hI
                  rw [ha]
                  simp only [puts, setAll, List.setIfInBounds_toArray, List.set_cons_zero, List.set_cons_succ]
                  clear ha
                  refine ite_yes rfl ?_
                  go_simp
                  exact hK _ _ (chain_step HI.out hus hbs 10 _ (by show 10 < 22; decide) rfl hbp (val_of rfl rfl) (HI.out.ph.step 10 _ (by decide)) (by simp only [puts, setAll, List.set_cons_zero, List.set_cons_succ, List.setIfInBounds_toArray]))
                refine Steps.gen (fun bb aa w' hbs hb0 hbp hI K hK => ?_) ?_
                · obtain ⟨us, hus, ha, hI⟩ := hI
                  obtain ⟨u0, u1, u2, u3, u4, u5, u6, u7, u8, u9, u10, u11, u12, u13, u14, u15, u16, u17, u18, u19, u20, u21, rfl⟩ := len22 hus
                  have e9 : u9 = .bool true := hI.val 9 _ rfl (gen_after 9 (by kernel_rfl) hbp)
                  subst e9
                  have e10 : u10 = .pointer (some ⟨gb, 0, none⟩) := hI.val 10 _ rfl (gen_after 10 (by kernel_rfl) hbp)
                  subst e10
                  have p12 := hI.before 12 11 rfl (by kernel_rfl) hb0
                  have p13 := hI.before 13 12 rfl (by kernel_rfl) p12
                  have p14 := hI.before 14 13 rfl (by kernel_rfl) p13
                  have p19 := hI.before 19 14 rfl (by kernel_rfl) p14
                  have p20 := hI.before 20 19 rfl (by kernel_rfl) p19
                  have p21 := hI.before 21 20 rfl (by kernel_rfl) p20
                  have HL21 := Veil.mk p21
                  clear p21
                  clear p20
                  clear p19
                  clear p14
                  clear p13
                  clear p12
                  obtain ⟨nd, rfl⟩ := hI.ph.low HL21.out
                  have HI := Veil.mk hI
                  clear hI
                  rw [ha]
                  simp only [puts, setAll, List.setIfInBounds_toArray, List.set_cons_zero, List.set_cons_succ]
                  clear ha
                  refine ite_yes rfl ?_
                  go_simp
                  exact hK _ _ (chain_step HI.out hus hbs 11 _ (by show 11 < 22; decide) rfl hbp (val_of rfl rfl) (HI.out.ph.step 11 _ (by decide)) (by simp only [puts, setAll, List.set_cons_zero, List.set_cons_succ, List.setIfInBounds_toArray]))
                refine Steps.gen (fun bb aa w' hbs hb0 hbp hI K hK => ?_) ?_
                · obtain ⟨us, hus, ha, hI⟩ := hI
                  obtain ⟨u0, u1, u2, u3, u4, u5, u6, u7, u8, u9, u10, u11, u12, u13, u14, u15, u16, u17, u18, u19, u20, u21, rfl⟩ := len22 hus
                  have e9 : u9 = .bool true := hI.val 9 _ rfl (gen_after 9 (by kernel_rfl) hbp)
                  subst e9
                  have e11 : u11 = .pointer (some ⟨gb, 0, none⟩) := hI.val 11 _ rfl (gen_after 11 (by kernel_rfl) hbp)
                  subst e11
                  have p13 := hI.before 13 12 rfl (by kernel_rfl) hb0
                  have p14 := hI.before 14 13 rfl (by kernel_rfl) p13
                  have p19 := hI.before 19 14 rfl (by kernel_rfl) p14
                  have p20 := hI.before 20 19 rfl (by kernel_rfl) p19
                  have p21 := hI.before 21 20 rfl (by kernel_rfl) p20
                  have HL21 := Veil.mk p21
                  clear p21
                  clear p20
                  clear p19
                  clear p14
                  clear p13
                  obtain ⟨nd, rfl⟩ := hI.ph.low HL21.out
                  have HI := Veil.mk hI
                  clear hI
                  rw [ha]
                  simp only [puts, setAll, List.setIfInBounds_toArray, List.set_cons_zero, List.set_cons_succ]
                  clear ha
                  refine ite_yes rfl ?_
                  go_simp
                  exact hK _ _ (chain_step HI.out hus hbs 12 _ (by show 12 < 22; decide) rfl hbp (val_of rfl rfl) (HI.out.ph.step 12 _ (by decide)) (by simp only [puts, setAll, List.set_cons_zero, List.set_cons_succ, List.setIfInBounds_toArray]))
                refine Steps.gen (fun bb aa w' hbs hb0 hbp hI K hK => ?_) ?_
                · obtain ⟨us, hus, ha, hI⟩ := hI
                  obtain ⟨u0, u1, u2, u3, u4, u5, u6, u7, u8, u9, u10, u11, u12, u13, u14, u15, u16, u17, u18, u19, u20, u21, rfl⟩ := len22 hus
                  have e9 : u9 = .bool true := hI.val 9 _ rfl (gen_after 9 (by kernel_rfl) hbp)
                  subst e9
                  have e12 : u12 = .pointer (some ⟨gb, 0, none⟩) := hI.val 12 _ rfl (gen_after 12 (by kernel_rfl) hbp)
                  subst e12
                  have p14 := hI.before 14 13 rfl (by kernel_rfl) hb0
                  have p19 := hI.before 19 14 rfl (by kernel_rfl) p14
                  have p20 := hI.before 20 19 rfl (by kernel_rfl) p19
                  have p21 := hI.before 21 20 rfl (by kernel_rfl) p20
                  have HL21 := Veil.mk p21
                  clear p21
                  clear p20
                  clear p19
                  clear p14
                  obtain ⟨nd, rfl⟩ := hI.ph.low HL21.out
                  have HI := Veil.mk hI
                  clear hI
                  rw [ha]
                  simp only [puts, setAll, List.setIfInBounds_toArray, List.set_cons_zero, List.set_cons_succ]
                  clear ha
                  refine ite_yes rfl ?_
                  go_simp
                  exact hK _ _ (chain_step HI.out hus hbs 13 _ (by show 13 < 22; decide) rfl hbp (val_of rfl rfl) (HI.out.ph.step 13 _ (by decide)) (by simp only [puts, setAll, List.set_cons_zero, List.set_cons_succ, List.setIfInBounds_toArray]))
                refine Steps.gen (fun bb aa w' hbs hb0 hbp hI K hK => ?_) ?_
                · obtain ⟨us, hus, ha, hI⟩ := hI
                  obtain ⟨u0, u1, u2, u3, u4, u5, u6, u7, u8, u9, u10, u11, u12, u13, u14, u15, u16, u17, u18, u19, u20, u21, rfl⟩ := len22 hus
                  have e9 : u9 = .bool true := hI.val 9 _ rfl (gen_after 9 (by kernel_rfl) hbp)
                  subst e9
                  have e13 : u13 = .pointer (some ⟨t, 0, none⟩) := hI.val 13 _ rfl (gen_after 13 (by kernel_rfl) hbp)
                  subst e13
                  have p19 := hI.before 19 14 rfl (by kernel_rfl) hb0
                  have p20 := hI.before 20 19 rfl (by kernel_rfl) p19
                  have p21 := hI.before 21 20 rfl (by kernel_rfl) p20
                  have HL21 := Veil.mk p21
                  clear p21
                  clear p20
                  clear p19
                  obtain ⟨nd, rfl⟩ := hI.ph.low HL21.out
                  have HI := Veil.mk hI
                  clear hI
                  rw [ha]
                  simp only [puts, setAll, List.setIfInBounds_toArray, List.set_cons_zero, List.set_cons_succ]
                  clear ha
                  refine ite_yes rfl ?_
                  go_simp
                  refine (HCS.out nd).mono ?_
                  rintro e w2 ⟨rfl, m, rfl⟩
                  go_simp
                  exact hK _ _ (chain_step HI.out hus hbs 14 _ (by show 14 < 22; decide) rfl hbp (val_of rfl rfl) (HI.out.ph.draw 14 _ m (by decide) HL21.out) (by simp only [puts, setAll, List.set_cons_zero, List.set_cons_succ, List.setIfInBounds_toArray]))
                refine Steps.gen (fun bb aa w' hbs hb0 hbp hI K hK => ?_) ?_
                · obtain ⟨us, hus, ha, hI⟩ := hI
                  obtain ⟨u0, u1, u2, u3, u4, u5, u6, u7, u8, u9, u10, u11, u12, u13, u14, u15, u16, u17, u18, u19, u20, u21, rfl⟩ := len22 hus
                  have e9 : u9 = .bool true := hI.val 9 _ rfl (gen_after 9 (by kernel_rfl) hbp)
                  subst e9
                  have p16 := hI.before 16 15 rfl (by kernel_rfl) hb0
                  have p17 := hI.before 17 16 rfl (by kernel_rfl) p16
                  have p18 := hI.before 18 17 rfl (by kernel_rfl) p17
                  have p19 := hI.before 19 18 rfl (by kernel_rfl) p18
                  have p20 := hI.before 20 19 rfl (by kernel_rfl) p19
                  have p21 := hI.before 21 20 rfl (by kernel_rfl) p20
                  have HL21 := Veil.mk p21
                  clear p21
                  clear p20
                  clear p19
                  clear p18
                  clear p17
                  clear p16
                  obtain ⟨nd, rfl⟩ := hI.ph.low HL21.out
                  have HI := Veil.mk hI
                  clear hI
                  rw [ha]
                  simp only [puts, setAll, List.setIfInBounds_toArray, List.set_cons_zero, List.set_cons_succ]
                  clear ha
                  refine ite_yes rfl ?_
                  go_simp
                  exact hK _ _ (chain_step HI.out hus hbs 15 _ (by show 15 < 22; decide) rfl hbp (val_of rfl rfl) (HI.out.ph.step 15 _ (by decide)) (by simp only [puts, setAll, List.set_cons_zero, List.set_cons_succ, List.setIfInBounds_toArray]))
                refine Steps.gen (fun bb aa w' hbs hb0 hbp hI K hK => ?_) ?_
                · obtain ⟨us, hus, ha, hI⟩ := hI
                  obtain ⟨u0, u1, u2, u3, u4, u5, u6, u7, u8, u9, u10, u11, u12, u13, u14, u15, u16, u17, u18, u19, u20, u21, rfl⟩ := len22 hus
                  have e9 : u9 = .bool true := hI.val 9 _ rfl (gen_after 9 (by kernel_rfl) hbp)
                  subst e9
                  have e15 : u15 = .slice va2 (pres l).length vca2 := hI.val 15 _ rfl (gen_after 15 (by kernel_rfl) hbp)
                  subst e15
                  have p17 := hI.before 17 16 rfl (by kernel_rfl) hb0
                  have p18 := hI.before 18 17 rfl (by kernel_rfl) p17
                  have p19 := hI.before 19 18 rfl (by kernel_rfl) p18
                  have p20 := hI.before 20 19 rfl (by kernel_rfl) p19
                  have p21 := hI.before 21 20 rfl (by kernel_rfl) p20
                  have HL21 := Veil.mk p21
                  clear p21
                  clear p20
                  clear p19
                  clear p18
                  clear p17
                  obtain ⟨nd, rfl⟩ := hI.ph.low HL21.out
                  have HI := Veil.mk hI
                  clear hI
                  rw [ha]
                  simp only [puts, setAll, List.setIfInBounds_toArray, List.set_cons_zero, List.set_cons_succ]
                  clear ha
                  refine ite_yes rfl ?_
                  go_simp
                  exact hK _ _ (chain_step HI.out hus hbs 16 _ (by show 16 < 22; decide) rfl hbp (val_of rfl rfl) (HI.out.ph.step 16 _ (by decide)) (by simp only [puts, setAll, List.set_cons_zero, List.set_cons_succ, List.setIfInBounds_toArray]))
                refine Steps.gen (fun bb aa w' hbs hb0 hbp hI K hK => ?_) ?_
                · obtain ⟨us, hus, ha, hI⟩ := hI
                  obtain ⟨u0, u1, u2, u3, u4, u5, u6, u7, u8, u9, u10, u11, u12, u13, u14, u15, u16, u17, u18, u19, u20, u21, rfl⟩ := len22 hus
                  have e9 : u9 = .bool true := hI.val 9 _ rfl (gen_after 9 (by kernel_rfl) hbp)
                  subst e9
                  have e16 : u16 = .int .i64 ((pres l).length : Int) := hI.val 16 _ rfl (gen_after 16 (by kernel_rfl) hbp)
                  subst e16
                  have p18 := hI.before 18 17 rfl (by kernel_rfl) hb0
                  have p19 := hI.before 19 18 rfl (by kernel_rfl) p18
                  have p20 := hI.before 20 19 rfl (by kernel_rfl) p19
                  have p21 := hI.before 21 20 rfl (by kernel_rfl) p20
                  have HL21 := Veil.mk p21
                  clear p21
                  clear p20
                  clear p19
                  clear p18
                  obtain ⟨nd, rfl⟩ := hI.ph.low HL21.out
                  have HI := Veil.mk hI
                  clear hI
                  rw [ha]
                  simp only [puts, setAll, List.setIfInBounds_toArray, List.set_cons_zero, List.set_cons_succ]
                  clear ha
                  refine ite_yes rfl ?_
                  go_simp
                  exact hK _ _ (chain_step HI.out hus hbs 17 _ (by show 17 < 22; decide) rfl hbp (val_of rfl rfl) (HI.out.ph.step 17 _ (by decide)) (by simp only [puts, setAll, List.set_cons_zero, List.set_cons_succ, List.setIfInBounds_toArray]))
                refine Steps.gen (fun bb aa w' hbs hb0 hbp hI K hK => ?_) ?_
                · obtain ⟨us, hus, ha, hI⟩ := hI
                  obtain ⟨u0, u1, u2, u3, u4, u5, u6, u7, u8, u9, u10, u11, u12, u13, u14, u15, u16, u17, u18, u19, u20, u21, rfl⟩ := len22 hus
                  have e9 : u9 = .bool true := hI.val 9 _ rfl (gen_after 9 (by kernel_rfl) hbp)
                  subst e9
                  have e17 : u17 = .int .i64 (5 * ((pres l).length : Int)) := hI.val 17 _ rfl (gen_after 17 (by kernel_rfl) hbp)
                  subst e17
                  have p19 := hI.before 19 18 rfl (by kernel_rfl) hb0
                  have p20 := hI.before 20 19 rfl (by kernel_rfl) p19
                  have p21 := hI.before 21 20 rfl (by kernel_rfl) p20
                  have HL21 := Veil.mk p21
                  clear p21
                  clear p20
                  clear p19
                  obtain ⟨nd, rfl⟩ := hI.ph.low HL21.out
                  have HI := Veil.mk hI
                  clear hI
                  rw [ha]
                  simp only [puts, setAll, List.setIfInBounds_toArray, List.set_cons_zero, List.set_cons_succ]
                  clear ha
                  refine ite_yes rfl ?_
                  go_simp
                  exact hK _ _ (chain_step HI.out hus hbs 18 _ (by show 18 < 22; decide) rfl hbp (val_of rfl rfl) (HI.out.ph.step 18 _ (by decide)) (by simp only [puts, setAll, List.set_cons_zero, List.set_cons_succ, List.setIfInBounds_toArray]))
                refine Steps.gen (fun bb aa w' hbs hb0 hbp hI K hK => ?_) ?_
                · obtain ⟨us, hus, ha, hI⟩ := hI
                  obtain ⟨u0, u1, u2, u3, u4, u5, u6, u7, u8, u9, u10, u11, u12, u13, u14, u15, u16, u17, u18, u19, u20, u21, rfl⟩ := len22 hus
                  have e9 : u9 = .bool true := hI.val 9 _ rfl (gen_after 9 (by kernel_rfl) hbp)
                  subst e9
                  have e14 : u14 = .int .i64 (sto : Int) := hI.val 14 _ rfl (gen_after 14 (by kernel_rfl) hbp)
                  subst e14
                  have e18 : u18 = .int .i64 (5 * ((pres l).length : Int) + 16) := hI.val 18 _ rfl (gen_after 18 (by kernel_rfl) hbp)
                  subst e18
                  have p20 := hI.before 20 19 rfl (by kernel_rfl) hb0
                  have p21 := hI.before 21 20 rfl (by kernel_rfl) p20
                  have HL21 := Veil.mk p21
                  clear p21
                  clear p20
                  obtain ⟨nd, rfl⟩ := hI.ph.low HL21.out
                  have HI := Veil.mk hI
                  clear hI
                  rw [ha]
                  simp only [puts, setAll, List.setIfInBounds_toArray, List.set_cons_zero, List.set_cons_succ]
                  clear ha
                  refine ite_yes rfl ?_
                  go_simp
                  exact hK _ _ (chain_step HI.out hus hbs 19 _ (by show 19 < 22; decide) rfl hbp (val_of rfl rfl) (HI.out.ph.step 19 _ (by decide)) (by simp only [puts, setAll, List.set_cons_zero, List.set_cons_succ, List.setIfInBounds_toArray]))
                refine Steps.cons rfl (fun bb aa w' hbs hb0 hbp hI K hK => ?_) ?_
                · obtain ⟨us, hus, ha, hI⟩ := hI
                  obtain ⟨u0, u1, u2, u3, u4, u5, u6, u7, u8, u9, u10, u11, u12, u13, u14, u15, u16, u17, u18, u19, u20, u21, rfl⟩ := len22 hus
                  have e9 : u9 = .bool true := hI.val 9 _ rfl (gen_after 9 (by kernel_rfl) hbp)
                  subst e9
                  have e19 : u19 = .bool true := hI.val 19 _ rfl (gen_after 19 (by kernel_rfl) hbp)
                  subst e19
                  have p21 := hI.before 21 20 rfl (by kernel_rfl) hb0
                  have HL21 := Veil.mk p21
                  clear p21
                  obtain ⟨nd, rfl⟩ := hI.ph.low HL21.out
                  have HI := Veil.mk hI
                  clear hI
                  rw [ha]
                  simp only [puts, setAll, List.setIfInBounds_toArray, List.set_cons_zero, List.set_cons_succ]
                  clear ha
                  go_simp
                  exact hK _ _ (chain_step HI.out hus hbs 20 _ (by show 20 < 22; decide) rfl hbp (val_of rfl rfl) (HI.out.ph.step 20 _ (by decide)) (by simp only [puts, setAll, List.set_cons_zero, List.set_cons_succ, List.setIfInBounds_toArray]))
                refine Steps.cons rfl (fun bb aa w' hbs hb0 hbp hI K hK => ?_) ?_
                · obtain ⟨us, hus, ha, hI⟩ := hI
                  obtain ⟨u0, u1, u2, u3, u4, u5, u6, u7, u8, u9, u10, u11, u12, u13, u14, u15, u16, u17, u18, u19, u20, u21, rfl⟩ := len22 hus
                  have e20 : u20 = .bool true := hI.val 20 _ rfl (gen_after 20 (by kernel_rfl) hbp)
                  subst e20
                  obtain ⟨nd, rfl⟩ := hI.ph.low hb0
                  have HI := Veil.mk hI
                  clear hI
                  rw [ha]
                  simp only [puts, setAll, List.setIfInBounds_toArray, List.set_cons_zero, List.set_cons_succ]
                  clear ha
                  go_simp
                  exact hK _ _ (chain_step HI.out hus hbs 21 undef (by show 21 < 22; decide) rfl hbp (none_of rfl) (HI.out.ph.sto _) (by simp only [puts, setAll, List.set_cons_zero, List.set_cons_succ, List.setIfInBounds_toArray]))
                exact Steps.nil
              · intro us w5 hus d hd hJ
                obtain ⟨u0, u1, u2, u3, u4, u5, u6, u7, u8, u9, u10, u11, u12, u13, u14, u15, u16, u17, u18, u19, u20, u21, rfl⟩ := len22 hus
                obtain ⟨nz, rfl⟩ := hJ.ph.done (hd 21 (by show 21 < 22; decide))
                clear hJ hd
                simp only [puts, setAll, List.setIfInBounds_toArray, List.set_cons_zero, List.set_cons_succ]
                clear i0 s0 w0 g0 r0 rf HCS e1 e2 e3 n1 n2 n3 n4
                have hM1 := HM.out.on (below_drewN (Below.refl W.heap.size W) nz)
                have hx := (hM1.bR.put 0 (.bool true)).at_ 0
                have hK2 := (KeepsOthers.setCell (W.drewN nz) ⟨br, 0, none⟩ (.bool true)).same D _ (show (W.drewN nz).heap[D]? = _ from hK) rfl
                have hbq : Below w.heap.size w ((W.drewN nz).setCell ⟨br, 0, none⟩ (.bool true)) := hM1.bel.setCell (p := ⟨br, 0, none⟩) (by have := HW0.out.2.2; show w.heap.size ≤ br; omega) _
                have HZ := Veil.mk (And.intro hx (And.intro hK2 (And.intro (show w.heap.size ≤ D by omega) hbq)))
                clear hM1 hx hK2 hbq hK
                go_wp2
                exact fin_all2 (br := br) rfl HZ.out.1 HZ.out.2.1 HZ.out.2.2.1 HZ.out.2.2.2
            case stop =>
              intro D c pre2 W hD hS hI hP hK
              obtain ⟨rfl, pre, x, rfl, hst, hI⟩ := hI
              have hlt8 : pre.length < (pres l).length := by
                obtain ⟨r', hr'⟩ := hS
                have h1 : O.1.length = pre.length + 1 + r'.length := by rw [← hr']; simp; omega
                omega
              have hli : (stop == ((pres l).length : Int)) = false := beq_eq_false_iff_ne.2 (by omega)
              have HM := Veil.mk hI
              have hbr : br ≠ bi ∧ br ≠ bw ∧ br ≠ bs ∧ br ≠ gb := ⟨fun e => hI.bR.lab.ne hI.bI.lab (by decide) e, fun e => hI.bR.lab.ne hI.bW.lab (by decide) e, fun e => hI.bR.lab.ne hI.bS.lab (by decide) e, fun e => hI.bR.lab.ne hI.bG.lab (by decide) e⟩
              obtain ⟨n1, n2, n3, n4⟩ := hbr
              obtain ⟨F9, L9, hT9, hp9⟩ := hP
              have hL9 : L9 = [] := by rw [hO2] at hp9; exact hp9.eq_nil
              rw [hL9] at hT9
              obtain ⟨sto, hsto, hcs⟩ := stoq_tf hT9 (by show O.1.length < _; omega) (by simp)
              have hsto' : (sto : Int) ≤ 5 * ((pres l).length : Int) + 16 := by
                have h1 : sto ≤ 2 * O.1.length + 8 + 0 := hsto
                omega
              have e1 : IntKind.i64.wrap (5 * ((pres l).length : Int)) = 5 * ((pres l).length : Int) := IntWalk.i64_in _ (by omega)
              have e2 : IntKind.i64.wrap (5 * ((pres l).length : Int) + 16) = 5 * ((pres l).length : Int) + 16 := IntWalk.i64_in _ (by omega)
              have HCS := Veil.mk hcs
              have e3 : decide ((sto : Int) ≤ 5 * ((pres l).length : Int) + 16) = true := decide_eq_true hsto'
              have i0 : W.cell? ⟨bi, 0, none⟩ = some (.int .i64 (pre.length : Int)) := hI.bI.at_ 0
              have s0 : W.cell? ⟨bs, 0, none⟩ = some (.int .i64 stop) := hI.bS.at_ 0
              have w0 : W.cell? ⟨bw, 0, none⟩ = some (.slice va2 (pres l).length vca2) := hI.bW.at_ 0
              have g0 : W.cell? ⟨gb, 0, none⟩ = some (.pointer (some ⟨t, 0, none⟩)) := hI.bG.at_ 0
              have r0 : W.cell? ⟨br, 0, none⟩ = some (.bool false) := hI.bR.at_ 0
              have rf := hI.bR.free 0
              rw [hst] at i0
              clear hst
              clear hI hT9 hp9 hL9 hcs hsto
              refine wpIn_wide.2 ?_
              go_wp2
              refine wp_region_chain (qKs gb t va2 (pres l).length vca2 stop stop sto) (QPh W br) qSl (curV' _ qSl) (by kernel_rfl) rfl rfl (puts_cur _ _) ⟨1, rfl⟩ ?_ (by kernel_rfl) ?_
              · refine Steps.cons rfl (fun bb aa w' hbs hb0 hbp hI K hK => ?_) ?_
                · obtain ⟨us, hus, ha, hI⟩ := hI
                  obtain ⟨u0, u1, u2, u3, u4, u5, u6, u7, u8, u9, u10, u11, u12, u13, u14, u15, u16, u17, u18, u19, u20, u21, rfl⟩ := len22 hus
                  have p3 := hI.before 3 0 rfl (by kernel_rfl) hb0
                  have p4 := hI.before 4 3 rfl (by kernel_rfl) p3
                  have p8 := hI.before 8 4 rfl (by kernel_rfl) p4
                  have p9 := hI.before 9 8 rfl (by kernel_rfl) p8
                  have p20 := hI.before 20 9 rfl (by kernel_rfl) p9
                  have p21 := hI.before 21 20 rfl (by kernel_rfl) p20
                  have HL21 := Veil.mk p21
                  clear p21
                  clear p20
                  clear p9
                  clear p8
                  clear p4
                  clear p3
                  obtain ⟨nd, rfl⟩ := hI.ph.low HL21.out
                  have HI := Veil.mk hI
                  clear hI
                  rw [ha]
                  simp only [puts, setAll, List.setIfInBounds_toArray, List.set_cons_zero, List.set_cons_succ]
                  clear ha
                  go_simp
                  exact hK _ _ (chain_step HI.out hus hbs 0 _ (by show 0 < 22; decide) rfl hbp (val_of rfl rfl) (HI.out.ph.step 0 _ (by decide)) (by simp only [puts, setAll, List.set_cons_zero, List.set_cons_succ, List.setIfInBounds_toArray]))
                refine Steps.cons rfl (fun bb aa w' hbs hb0 hbp hI K hK => ?_) ?_
                · obtain ⟨us, hus, ha, hI⟩ := hI
                  obtain ⟨u0, u1, u2, u3, u4, u5, u6, u7, u8, u9, u10, u11, u12, u13, u14, u15, u16, u17, u18, u19, u20, u21, rfl⟩ := len22 hus
                  have p2 := hI.before 2 1 rfl (by kernel_rfl) hb0
                  have p3 := hI.before 3 2 rfl (by kernel_rfl) p2
                  have p4 := hI.before 4 3 rfl (by kernel_rfl) p3
                  have p8 := hI.before 8 4 rfl (by kernel_rfl) p4
                  have p9 := hI.before 9 8 rfl (by kernel_rfl) p8
                  have p20 := hI.before 20 9 rfl (by kernel_rfl) p9
                  have p21 := hI.before 21 20 rfl (by kernel_rfl) p20
                  have HL21 := Veil.mk p21
                  clear p21
                  clear p20
                  clear p9
                  clear p8
                  clear p4
                  clear p3
                  clear p2
                  obtain ⟨nd, rfl⟩ := hI.ph.low HL21.out
                  have HI := Veil.mk hI
                  clear hI
                  rw [ha]
                  simp only [puts, setAll, List.setIfInBounds_toArray, List.set_cons_zero, List.set_cons_succ]
                  clear ha
                  go_simp
                  exact hK _ _ (chain_step HI.out hus hbs 1 _ (by show 1 < 22; decide) rfl hbp (val_of rfl rfl) (HI.out.ph.step 1 _ (by decide)) (by simp only [puts, setAll, List.set_cons_zero, List.set_cons_succ, List.setIfInBounds_toArray]))
                refine Steps.cons rfl (fun bb aa w' hbs hb0 hbp hI K hK => ?_) ?_
                · obtain ⟨us, hus, ha, hI⟩ := hI
                  obtain ⟨u0, u1, u2, u3, u4, u5, u6, u7, u8, u9, u10, u11, u12, u13, u14, u15, u16, u17, u18, u19, u20, u21, rfl⟩ := len22 hus
                  have e1 : u1 = .slice va2 (pres l).length vca2 := hI.val 1 _ rfl (gen_after 1 (by kernel_rfl) hbp)
                  subst e1
                  have p3 := hI.before 3 2 rfl (by kernel_rfl) hb0
                  have p4 := hI.before 4 3 rfl (by kernel_rfl) p3
                  have p8 := hI.before 8 4 rfl (by kernel_rfl) p4
                  have p9 := hI.before 9 8 rfl (by kernel_rfl) p8
                  have p20 := hI.before 20 9 rfl (by kernel_rfl) p9
                  have p21 := hI.before 21 20 rfl (by kernel_rfl) p20
                  have HL21 := Veil.mk p21
                  clear p21
                  clear p20
                  clear p9
                  clear p8
                  clear p4
                  clear p3
                  obtain ⟨nd, rfl⟩ := hI.ph.low HL21.out
                  have HI := Veil.mk hI
                  clear hI
                  rw [ha]
                  simp only [puts, setAll, List.setIfInBounds_toArray, List.set_cons_zero, List.set_cons_succ]
                  clear ha
                  go_simp
                  exact hK _ _ (chain_step HI.out hus hbs 2 _ (by show 2 < 22; decide) rfl hbp (val_of rfl rfl) (HI.out.ph.step 2 _ (by decide)) (by simp only [puts, setAll, List.set_cons_zero, List.set_cons_succ, List.setIfInBounds_toArray]))
                refine Steps.cons rfl (fun bb aa w' hbs hb0 hbp hI K hK => ?_) ?_
                · obtain ⟨us, hus, ha, hI⟩ := hI
                  obtain ⟨u0, u1, u2, u3, u4, u5, u6, u7, u8, u9, u10, u11, u12, u13, u14, u15, u16, u17, u18, u19, u20, u21, rfl⟩ := len22 hus
                  have e0 : u0 = .int .i64 stop := hI.val 0 _ rfl (gen_after 0 (by kernel_rfl) hbp)
                  subst e0
                  have e2 : u2 = .int .i64 ((pres l).length : Int) := hI.val 2 _ rfl (gen_after 2 (by kernel_rfl) hbp)
                  subst e2
                  have p4 := hI.before 4 3 rfl (by kernel_rfl) hb0
                  have p8 := hI.before 8 4 rfl (by kernel_rfl) p4
                  have p9 := hI.before 9 8 rfl (by kernel_rfl) p8
                  have p20 := hI.before 20 9 rfl (by kernel_rfl) p9
                  have p21 := hI.before 21 20 rfl (by kernel_rfl) p20
                  have HL21 := Veil.mk p21
                  clear p21
                  clear p20
                  clear p9
                  clear p8
                  clear p4
                  obtain ⟨nd, rfl⟩ := hI.ph.low HL21.out
                  have HI := Veil.mk hI
                  clear hI
                  rw [ha]
                  simp only [puts, setAll, List.setIfInBounds_toArray, List.set_cons_zero, List.set_cons_succ]
                  clear ha
                  go_simp
                  exact hK _ _ (chain_step HI.out hus hbs 3 _ (by show 3 < 22; decide) rfl hbp (val_of rfl rfl) (HI.out.ph.step 3 _ (by decide)) (by simp only [puts, setAll, List.set_cons_zero, List.set_cons_succ, List.setIfInBounds_toArray]))
                refine Steps.cons rfl (fun bb aa w' hbs hb0 hbp hI K hK => ?_) ?_
                · obtain ⟨us, hus, ha, hI⟩ := hI
                  obtain ⟨u0, u1, u2, u3, u4, u5, u6, u7, u8, u9, u10, u11, u12, u13, u14, u15, u16, u17, u18, u19, u20, u21, rfl⟩ := len22 hus
                  have e3 : u3 = .bool false := hI.val 3 _ rfl (gen_after 3 (by kernel_rfl) hbp)
                  subst e3
                  have p8 := hI.before 8 4 rfl (by kernel_rfl) hb0
                  have p9 := hI.before 9 8 rfl (by kernel_rfl) p8
                  have p20 := hI.before 20 9 rfl (by kernel_rfl) p9
                  have p21 := hI.before 21 20 rfl (by kernel_rfl) p20
                  have HL21 := Veil.mk p21
                  clear p21
                  clear p20
                  clear p9
                  clear p8
                  obtain ⟨nd, rfl⟩ := hI.ph.low HL21.out
                  have HI := Veil.mk hI
                  clear hI
                  rw [ha]
                  simp only [puts, setAll, List.setIfInBounds_toArray, List.set_cons_zero, List.set_cons_succ]
                  clear ha
                  go_simp
                  exact hK _ _ (chain_step HI.out hus hbs 4 _ (by show 4 < 22; decide) rfl hbp (val_of rfl rfl) (HI.out.ph.step 4 _ (by decide)) (by simp only [puts, setAll, List.set_cons_zero, List.set_cons_succ, List.setIfInBounds_toArray]))
                refine Steps.gen (fun bb aa w' hbs hb0 hbp hI K hK => ?_) ?_
                · obtain ⟨us, hus, ha, hI⟩ := hI
                  obtain ⟨u0, u1, u2, u3, u4, u5, u6, u7, u8, u9, u10, u11, u12, u13, u14, u15, u16, u17, u18, u19, u20, u21, rfl⟩ := len22 hus
                  have e4 : u4 = .bool false := hI.val 4 _ rfl (gen_after 4 (by kernel_rfl) hbp)
                  subst e4
                  have p7 := hI.before 7 5 rfl (by kernel_rfl) hb0
                  have p8 := hI.before 8 7 rfl (by kernel_rfl) p7
                  have p9 := hI.before 9 8 rfl (by kernel_rfl) p8
                  have p20 := hI.before 20 9 rfl (by kernel_rfl) p9
                  have p21 := hI.before 21 20 rfl (by kernel_rfl) p20
                  have HL21 := Veil.mk p21
                  clear p21
                  clear p20
                  clear p9
                  clear p8
                  clear p7
                  obtain ⟨nd, rfl⟩ := hI.ph.low HL21.out
                  have HI := Veil.mk hI
                  clear hI
                  rw [ha]
                  simp only [puts, setAll, List.setIfInBounds_toArray, List.set_cons_zero, List.set_cons_succ]
                  clear ha
                  refine ite_yes rfl ?_
                  go_simp
                  exact hK _ _ (chain_step HI.out hus hbs 5 _ (by show 5 < 22; decide) rfl hbp (val_of rfl rfl) (HI.out.ph.step 5 _ (by decide)) (by simp only [puts, setAll, List.set_cons_zero, List.set_cons_succ, List.setIfInBounds_toArray]))
                refine Steps.gen (fun bb aa w' hbs hb0 hbp hI K hK => ?_) ?_
                · obtain ⟨us, hus, ha, hI⟩ := hI
                  obtain ⟨u0, u1, u2, u3, u4, u5, u6, u7, u8, u9, u10, u11, u12, u13, u14, u15, u16, u17, u18, u19, u20, u21, rfl⟩ := len22 hus
                  have e4 : u4 = .bool false := hI.val 4 _ rfl (gen_after 4 (by kernel_rfl) hbp)
                  subst e4
                  have p7 := hI.before 7 6 rfl (by kernel_rfl) hb0
                  have p8 := hI.before 8 7 rfl (by kernel_rfl) p7
                  have p9 := hI.before 9 8 rfl (by kernel_rfl) p8
                  have p20 := hI.before 20 9 rfl (by kernel_rfl) p9
                  have p21 := hI.before 21 20 rfl (by kernel_rfl) p20
                  have HL21 := Veil.mk p21
                  clear p21
                  clear p20
                  clear p9
                  clear p8
                  clear p7
                  obtain ⟨nd, rfl⟩ := hI.ph.low HL21.out
                  have HI := Veil.mk hI
                  clear hI
                  rw [ha]
                  simp only [puts, setAll, List.setIfInBounds_toArray, List.set_cons_zero, List.set_cons_succ]
                  clear ha
                  refine ite_yes rfl ?_
                  go_simp
                  exact hK _ _ (chain_step HI.out hus hbs 6 _ (by show 6 < 22; decide) rfl hbp (val_of rfl rfl) (HI.out.ph.step 6 _ (by decide)) (by simp only [puts, setAll, List.set_cons_zero, List.set_cons_succ, List.setIfInBounds_toArray]))
                refine Steps.gen (fun bb aa w' hbs hb0 hbp hI K hK => ?_) ?_
                · obtain ⟨us, hus, ha, hI⟩ := hI
                  obtain ⟨u0, u1, u2, u3, u4, u5, u6, u7, u8, u9, u10, u11, u12, u13, u14, u15, u16, u17, u18, u19, u20, u21, rfl⟩ := len22 hus
                  have e4 : u4 = .bool false := hI.val 4 _ rfl (gen_after 4 (by kernel_rfl) hbp)
                  subst e4
                  have e5 : u5 = .int .i64 stop := hI.val 5 _ rfl (gen_after 5 (by kernel_rfl) hbp)
                  subst e5
                  have e6 : u6 = .int .i64 stop := hI.val 6 _ rfl (gen_after 6 (by kernel_rfl) hbp)
                  subst e6
                  have p8 := hI.before 8 7 rfl (by kernel_rfl) hb0
                  have p9 := hI.before 9 8 rfl (by kernel_rfl) p8
                  have p20 := hI.before 20 9 rfl (by kernel_rfl) p9
                  have p21 := hI.before 21 20 rfl (by kernel_rfl) p20
                  have HL21 := Veil.mk p21
                  clear p21
                  clear p20
                  clear p9
                  clear p8
                  obtain ⟨nd, rfl⟩ := hI.ph.low HL21.out
                  have HI := Veil.mk hI
                  clear hI
                  rw [ha]
                  simp only [puts, setAll, List.setIfInBounds_toArray, List.set_cons_zero, List.set_cons_succ]
                  clear ha
                  refine ite_yes rfl ?_
                  go_simp
                  exact hK _ _ (chain_step HI.out hus hbs 7 _ (by show 7 < 22; decide) rfl hbp (val_of rfl rfl) (HI.out.ph.step 7 _ (by decide)) (by simp only [puts, setAll, List.set_cons_zero, List.set_cons_succ, List.setIfInBounds_toArray]))
                refine Steps.cons rfl (fun bb aa w' hbs hb0 hbp hI K hK => ?_) ?_
                · obtain ⟨us, hus, ha, hI⟩ := hI
                  obtain ⟨u0, u1, u2, u3, u4, u5, u6, u7, u8, u9, u10, u11, u12, u13, u14, u15, u16, u17, u18, u19, u20, u21, rfl⟩ := len22 hus
                  have e4 : u4 = .bool false := hI.val 4 _ rfl (gen_after 4 (by kernel_rfl) hbp)
                  subst e4
                  have e7 : u7 = .bool true := hI.val 7 _ rfl (gen_after 7 (by kernel_rfl) hbp)
                  subst e7
                  have p9 := hI.before 9 8 rfl (by kernel_rfl) hb0
                  have p20 := hI.before 20 9 rfl (by kernel_rfl) p9
                  have p21 := hI.before 21 20 rfl (by kernel_rfl) p20
                  have HL21 := Veil.mk p21
                  clear p21
                  clear p20
                  clear p9
                  obtain ⟨nd, rfl⟩ := hI.ph.low HL21.out
                  have HI := Veil.mk hI
                  clear hI
                  rw [ha]
                  simp only [puts, setAll, List.setIfInBounds_toArray, List.set_cons_zero, List.set_cons_succ]
                  clear ha
                  go_simp
                  exact hK _ _ (chain_step HI.out hus hbs 8 _ (by show 8 < 22; decide) rfl hbp (val_of rfl rfl) (HI.out.ph.step 8 _ (by decide)) (by simp only [puts, setAll, List.set_cons_zero, List.set_cons_succ, List.setIfInBounds_toArray]))
                refine Steps.cons rfl (fun bb aa w' hbs hb0 hbp hI K hK => ?_) ?_
                · obtain ⟨us, hus, ha, hI⟩ := hI
                  obtain ⟨u0, u1, u2, u3, u4, u5, u6, u7, u8, u9, u10, u11, u12, u13, u14, u15, u16, u17, u18, u19, u20, u21, rfl⟩ := len22 hus
                  have e8 : u8 = .bool true := hI.val 8 _ rfl (gen_after 8 (by kernel_rfl) hbp)
                  subst e8
                  have p20 := hI.before 20 9 rfl (by kernel_rfl) hb0
                  have p21 := hI.before 21 20 rfl (by kernel_rfl) p20
                  have HL21 := Veil.mk p21
                  clear p21
                  clear p20
                  obtain ⟨nd, rfl⟩ := hI.ph.low HL21.out
                  have HI := Veil.mk hI
                  clear hI
                  rw [ha]
                  simp only [puts, setAll, List.setIfInBounds_toArray, List.set_cons_zero, List.set_cons_succ]
                  clear ha
                  go_simp
                  exact hK _ _ (chain_step HI.out hus hbs 9 _ (by show 9 < 22; decide) rfl hbp (val_of rfl rfl) (HI.out.ph.step 9 _ (by decide)) (by simp only [puts, setAll, List.set_cons_zero, List.set_cons_succ, List.setIfInBounds_toArray]))
                refine Steps.gen (fun bb aa w' hbs hb0 hbp hI K hK => ?_) ?_
                · obtain ⟨us, hus, ha, hI⟩ := hI
                  obtain ⟨u0, u1, u2, u3, u4, u5, u6, u7, u8, u9, u10, u11, u12, u13, u14, u15, u16, u17, u18, u19, u20, u21, rfl⟩ := len22 hus
                  have e9 : u9 = .bool true := hI.val 9 _ rfl (gen_after 9 (by kernel_rfl) hbp)
                  subst e9
                  have p11 := hI.before 11 10 rfl (by kernel_rfl) hb0
                  have p12 := hI.before 12 11 rfl (by kernel_rfl) p11
                  have p13 := hI.before 13 12 rfl (by kernel_rfl) p12
                  have p14 := hI.before 14 13 rfl (by kernel_rfl) p13
                  have p19 := hI.before 19 14 rfl (by kernel_rfl) p14
                  have p20 := hI.before 20 19 rfl (by kernel_rfl) p19
                  have p21 := hI.before 21 20 rfl (by kernel_rfl) p20
                  have HL21 := Veil.mk p21
                  clear p21
                  clear p20
                  clear p19
                  clear p14
                  clear p13
                  clear p12
                  clear p11
                  obtain ⟨nd, rfl⟩ := hI.ph.low HL21.out
                  have HI := Veil.mk hI
                  clear hI
                  rw [ha]
                  simp only [puts, setAll, List.setIfInBounds_toArray, List.set_cons_zero, List.set_cons_succ]
                  clear ha
                  refine ite_yes rfl ?_
                  go_simp
                  exact hK _ _ (chain_step HI.out hus hbs 10 _ (by show 10 < 22; decide) rfl hbp (val_of rfl rfl) (HI.out.ph.step 10 _ (by decide)) (by simp only [puts, setAll, List.set_cons_zero, List.set_cons_succ, List.setIfInBounds_toArray]))
                refine Steps.gen (fun bb aa w' hbs hb0 hbp hI K hK => ?_) ?_
                · obtain ⟨us, hus, ha, hI⟩ := hI
                  obtain ⟨u0, u1, u2, u3, u4, u5, u6, u7, u8, u9, u10, u11, u12, u13, u14, u15, u16, u17, u18, u19, u20, u21, rfl⟩ := len22 hus
                  have e9 : u9 = .bool true := hI.val 9 _ rfl (gen_after 9 (by kernel_rfl) hbp)
                  subst e9
                  have e10 : u10 = .pointer (some ⟨gb, 0, none⟩) := hI.val 10 _ rfl (gen_after 10 (by kernel_rfl) hbp)
                  subst e10
                  have p12 := hI.before 12 11 rfl (by kernel_rfl) hb0
                  have p13 := hI.before 13 12 rfl (by kernel_rfl) p12
                  have p14 := hI.before 14 13 rfl (by kernel_rfl) p13
                  have p19 := hI.before 19 14 rfl (by kernel_rfl) p14
                  have p20 := hI.before 20 19 rfl (by kernel_rfl) p19
                  have p21 := hI.before 21 20 rfl (by kernel_rfl) p20
                  have HL21 := Veil.mk p21
                  clear p21
                  clear p20
                  clear p19
                  clear p14
                  clear p13
                  clear p12
                  obtain ⟨nd, rfl⟩ := hI.ph.low HL21.out
                  have HI := Veil.mk hI
                  clear hI
                  rw [ha]
                  simp only [puts, setAll, List.setIfInBounds_toArray, List.set_cons_zero, List.set_cons_succ]
                  clear ha
                  refine ite_yes rfl ?_
                  go_simp
                  exact hK _ _ (chain_step HI.out hus hbs 11 _ (by show 11 < 22; decide) rfl hbp (val_of rfl rfl) (HI.out.ph.step 11 _ (by decide)) (by simp only [puts, setAll, List.set_cons_zero, List.set_cons_succ, List.setIfInBounds_toArray]))
                refine Steps.gen (fun bb aa w' hbs hb0 hbp hI K hK => ?_) ?_
                · obtain ⟨us, hus, ha, hI⟩ := hI
                  obtain ⟨u0, u1, u2, u3, u4, u5, u6, u7, u8, u9, u10, u11, u12, u13, u14, u15, u16, u17, u18, u19, u20, u21, rfl⟩ := len22 hus
                  have e9 : u9 = .bool true := hI.val 9 _ rfl (gen_after 9 (by kernel_rfl) hbp)
                  subst e9
                  have e11 : u11 = .pointer (some ⟨gb, 0, none⟩) := hI.val 11 _ rfl (gen_after 11 (by kernel_rfl) hbp)
                  subst e11
                  have p13 := hI.before 13 12 rfl (by kernel_rfl) hb0
                  have p14 := hI.before 14 13 rfl (by kernel_rfl) p13
                  have p19 := hI.before 19 14 rfl (by kernel_rfl) p14
                  have p20 := hI.before 20 19 rfl (by kernel_rfl) p19
                  have p21 := hI.before 21 20 rfl (by kernel_rfl) p20
                  have HL21 := Veil.mk p21
                  clear p21
                  clear p20
                  clear p19
                  clear p14
                  clear p13
                  obtain ⟨nd, rfl⟩ := hI.ph.low HL21.out
                  have HI := Veil.mk hI
                  clear hI
                  rw [ha]
                  simp only [puts, setAll, List.setIfInBounds_toArray, List.set_cons_zero, List.set_cons_succ]
                  clear ha
                  refine ite_yes rfl ?_
                  go_simp
                  exact hK _ _ (chain_step HI.out hus hbs 12 _ (by show 12 < 22; decide) rfl hbp (val_of rfl rfl) (HI.out.ph.step 12 _ (by decide)) (by simp only [puts, setAll, List.set_cons_zero, List.set_cons_succ, List.setIfInBounds_toArray]))
                refine Steps.gen (fun bb aa w' hbs hb0 hbp hI K hK => ?_) ?_
                · obtain ⟨us, hus, ha, hI⟩ := hI
                  obtain ⟨u0, u1, u2, u3, u4, u5, u6, u7, u8, u9, u10, u11, u12, u13, u14, u15, u16, u17, u18, u19, u20, u21, rfl⟩ := len22 hus
                  have e9 : u9 = .bool true := hI.val 9 _ rfl (gen_after 9 (by kernel_rfl) hbp)
                  subst e9
                  have e12 : u12 = .pointer (some ⟨gb, 0, none⟩) := hI.val 12 _ rfl (gen_after 12 (by kernel_rfl) hbp)
                  subst e12
                  have p14 := hI.before 14 13 rfl (by kernel_rfl) hb0
                  have p19 := hI.before 19 14 rfl (by kernel_rfl) p14
                  have p20 := hI.before 20 19 rfl (by kernel_rfl) p19
                  have p21 := hI.before 21 20 rfl (by kernel_rfl) p20
                  have HL21 := Veil.mk p21
                  clear p21
                  clear p20
                  clear p19
                  clear p14
                  obtain ⟨nd, rfl⟩ := hI.ph.low HL21.out
                  have HI := Veil.mk hI
                  clear hI
                  rw [ha]
                  simp only [puts, setAll, List.setIfInBounds_toArray, List.set_cons_zero, List.set_cons_succ]
                  clear ha
                  refine ite_yes rfl ?_
                  go_simp
                  exact hK _ _ (chain_step HI.out hus hbs 13 _ (by show 13 < 22; decide) rfl hbp (val_of rfl rfl) (HI.out.ph.step 13 _ (by decide)) (by simp only [puts, setAll, List.set_cons_zero, List.set_cons_succ, List.setIfInBounds_toArray]))
                refine Steps.gen (fun bb aa w' hbs hb0 hbp hI K hK => ?_) ?_
                · obtain ⟨us, hus, ha, hI⟩ := hI
                  obtain ⟨u0, u1, u2, u3, u4, u5, u6, u7, u8, u9, u10, u11, u12, u13, u14, u15, u16, u17, u18, u19, u20, u21, rfl⟩ := len22 hus
                  have e9 : u9 = .bool true := hI.val 9 _ rfl (gen_after 9 (by kernel_rfl) hbp)
                  subst e9
                  have e13 : u13 = .pointer (some ⟨t, 0, none⟩) := hI.val 13 _ rfl (gen_after 13 (by kernel_rfl) hbp)
                  subst e13
                  have p19 := hI.before 19 14 rfl (by kernel_rfl) hb0
                  have p20 := hI.before 20 19 rfl (by kernel_rfl) p19
                  have p21 := hI.before 21 20 rfl (by kernel_rfl) p20
                  have HL21 := Veil.mk p21
                  clear p21
                  clear p20
                  clear p19
                  obtain ⟨nd, rfl⟩ := hI.ph.low HL21.out
                  have HI := Veil.mk hI
                  clear hI
                  rw [ha]
                  simp only [puts, setAll, List.setIfInBounds_toArray, List.set_cons_zero, List.set_cons_succ]
                  clear ha
                  refine ite_yes rfl ?_
                  go_simp
                  refine (HCS.out nd).mono ?_
                  rintro e w2 ⟨rfl, m, rfl⟩
                  go_simp
                  exact hK _ _ (chain_step HI.out hus hbs 14 _ (by show 14 < 22; decide) rfl hbp (val_of rfl rfl) (HI.out.ph.draw 14 _ m (by decide) HL21.out) (by simp only [puts, setAll, List.set_cons_zero, List.set_cons_succ, List.setIfInBounds_toArray]))
                refine Steps.gen (fun bb aa w' hbs hb0 hbp hI K hK => ?_) ?_
                · obtain ⟨us, hus, ha, hI⟩ := hI
                  obtain ⟨u0, u1, u2, u3, u4, u5, u6, u7, u8, u9, u10, u11, u12, u13, u14, u15, u16, u17, u18, u19, u20, u21, rfl⟩ := len22 hus
                  have e9 : u9 = .bool true := hI.val 9 _ rfl (gen_after 9 (by kernel_rfl) hbp)
                  subst e9
                  have p16 := hI.before 16 15 rfl (by kernel_rfl) hb0
                  have p17 := hI.before 17 16 rfl (by kernel_rfl) p16
                  have p18 := hI.before 18 17 rfl (by kernel_rfl) p17
                  have p19 := hI.before 19 18 rfl (by kernel_rfl) p18
                  have p20 := hI.before 20 19 rfl (by kernel_rfl) p19
                  have p21 := hI.before 21 20 rfl (by kernel_rfl) p20
                  have HL21 := Veil.mk p21
                  clear p21
                  clear p20
                  clear p19
                  clear p18
                  clear p17
                  clear p16
                  obtain ⟨nd, rfl⟩ := hI.ph.low HL21.out
                  have HI := Veil.mk hI
                  clear hI
                  rw [ha]
                  simp only [puts, setAll, List.setIfInBounds_toArray, List.set_cons_zero, List.set_cons_succ]
                  clear ha
                  refine ite_yes rfl ?_
                  go_simp
                  exact hK _ _ (chain_step HI.out hus hbs 15 _ (by show 15 < 22; decide) rfl hbp (val_of rfl rfl) (HI.out.ph.step 15 _ (by decide)) (by simp only [puts, setAll, List.set_cons_zero, List.set_cons_succ, List.setIfInBounds_toArray]))
                refine Steps.gen (fun bb aa w' hbs hb0 hbp hI K hK => ?_) ?_
                · obtain ⟨us, hus, ha, hI⟩ := hI
                  obtain ⟨u0, u1, u2, u3, u4, u5, u6, u7, u8, u9, u10, u11, u12, u13, u14, u15, u16, u17, u18, u19, u20, u21, rfl⟩ := len22 hus
                  have e9 : u9 = .bool true := hI.val 9 _ rfl (gen_after 9 (by kernel_rfl) hbp)
                  subst e9
                  have e15 : u15 = .slice va2 (pres l).length vca2 := hI.val 15 _ rfl (gen_after 15 (by kernel_rfl) hbp)
                  subst e15
                  have p17 := hI.before 17 16 rfl (by kernel_rfl) hb0
                  have p18 := hI.before 18 17 rfl (by kernel_rfl) p17
                  have p19 := hI.before 19 18 rfl (by kernel_rfl) p18
                  have p20 := hI.before 20 19 rfl (by kernel_rfl) p19
                  have p21 := hI.before 21 20 rfl (by kernel_rfl) p20
                  have HL21 := Veil.mk p21
                  clear p21
                  clear p20
                  clear p19
                  clear p18
                  clear p17
                  obtain ⟨nd, rfl⟩ := hI.ph.low HL21.out
                  have HI := Veil.mk hI
                  clear hI
                  rw [ha]
                  simp only [puts, setAll, List.setIfInBounds_toArray, List.set_cons_zero, List.set_cons_succ]
                  clear ha
                  refine ite_yes rfl ?_
                  go_simp
                  exact hK _ _ (chain_step HI.out hus hbs 16 _ (by show 16 < 22; decide) rfl hbp (val_of rfl rfl) (HI.out.ph.step 16 _ (by decide)) (by simp only [puts, setAll, List.set_cons_zero, List.set_cons_succ, List.setIfInBounds_toArray]))
                refine Steps.gen (fun bb aa w' hbs hb0 hbp hI K hK => ?_) ?_
                · obtain ⟨us, hus, ha, hI⟩ := hI
                  obtain ⟨u0, u1, u2, u3, u4, u5, u6, u7, u8, u9, u10, u11, u12, u13, u14, u15, u16, u17, u18, u19, u20, u21, rfl⟩ := len22 hus
                  have e9 : u9 = .bool true := hI.val 9 _ rfl (gen_after 9 (by kernel_rfl) hbp)
                  subst e9
                  have e16 : u16 = .int .i64 ((pres l).length : Int) := hI.val 16 _ rfl (gen_after 16 (by kernel_rfl) hbp)
                  subst e16
                  have p18 := hI.before 18 17 rfl (by kernel_rfl) hb0
                  have p19 := hI.before 19 18 rfl (by kernel_rfl) p18
                  have p20 := hI.before 20 19 rfl (by kernel_rfl) p19
                  have p21 := hI.before 21 20 rfl (by kernel_rfl) p20
                  have HL21 := Veil.mk p21
                  clear p21
                  clear p20
                  clear p19
                  clear p18
                  obtain ⟨nd, rfl⟩ := hI.ph.low HL21.out
                  have HI := Veil.mk hI
                  clear hI
                  rw [ha]
                  simp only [puts, setAll, List.setIfInBounds_toArray, List.set_cons_zero, List.set_cons_succ]
                  clear ha
                  refine ite_yes rfl ?_
                  go_simp
                  exact hK _ _ (chain_step HI.out hus hbs 17 _ (by show 17 < 22; decide) rfl hbp (val_of rfl rfl) (HI.out.ph.step 17 _ (by decide)) (by simp only [puts, setAll, List.set_cons_zero, List.set_cons_succ, List.setIfInBounds_toArray]))
                refine Steps.gen (fun bb aa w' hbs hb0 hbp hI K hK => ?_) ?_
                · obtain ⟨us, hus, ha, hI⟩ := hI
                  obtain ⟨u0, u1, u2, u3, u4, u5, u6, u7, u8, u9, u10, u11, u12, u13, u14, u15, u16, u17, u18, u19, u20, u21, rfl⟩ := len22 hus
                  have e9 : u9 = .bool true := hI.val 9 _ rfl (gen_after 9 (by kernel_rfl) hbp)
                  subst e9
                  have e17 : u17 = .int .i64 (5 * ((pres l).length : Int)) := hI.val 17 _ rfl (gen_after 17 (by kernel_rfl) hbp)
                  subst e17
                  have p19 := hI.before 19 18 rfl (by kernel_rfl) hb0
                  have p20 := hI.before 20 19 rfl (by kernel_rfl) p19
                  have p21 := hI.before 21 20 rfl (by kernel_rfl) p20
                  have HL21 := Veil.mk p21
                  clear p21
                  clear p20
                  clear p19
                  obtain ⟨nd, rfl⟩ := hI.ph.low HL21.out
                  have HI := Veil.mk hI
                  clear hI
                  rw [ha]
                  simp only [puts, setAll, List.setIfInBounds_toArray, List.set_cons_zero, List.set_cons_succ]
                  clear ha
                  refine ite_yes rfl ?_
                  go_simp
                  exact hK _ _ (chain_step HI.out hus hbs 18 _ (by show 18 < 22; decide) rfl hbp (val_of rfl rfl) (HI.out.ph.step 18 _ (by decide)) (by simp only [puts, setAll, List.set_cons_zero, List.set_cons_succ, List.setIfInBounds_toArray]))
                refine Steps.gen (fun bb aa w' hbs hb0 hbp hI K hK => ?_) ?_
                · obtain ⟨us, hus, ha, hI⟩ := hI
                  obtain ⟨u0, u1, u2, u3, u4, u5, u6, u7, u8, u9, u10, u11, u12, u13, u14, u15, u16, u17, u18, u19, u20, u21, rfl⟩ := len22 hus
                  have e9 : u9 = .bool true := hI.val 9 _ rfl (gen_after 9 (by kernel_rfl) hbp)
                  subst e9
                  have e14 : u14 = .int .i64 (sto : Int) := hI.val 14 _ rfl (gen_after 14 (by kernel_rfl) hbp)
                  subst e14
                  have e18 : u18 = .int .i64 (5 * ((pres l).length : Int) + 16) := hI.val 18 _ rfl (gen_after 18 (by kernel_rfl) hbp)
                  subst e18
                  have p20 := hI.before 20 19 rfl (by kernel_rfl) hb0
                  have p21 := hI.before 21 20 rfl (by kernel_rfl) p20
                  have HL21 := Veil.mk p21
                  clear p21
                  clear p20
                  obtain ⟨nd, rfl⟩ := hI.ph.low HL21.out
                  have HI := Veil.mk hI
                  clear hI
                  rw [ha]
                  simp only [puts, setAll, List.setIfInBounds_toArray, List.set_cons_zero, List.set_cons_succ]
                  clear ha
                  refine ite_yes rfl ?_
                  go_simp
                  exact hK _ _ (chain_step HI.out hus hbs 19 _ (by show 19 < 22; decide) rfl hbp (val_of rfl rfl) (HI.out.ph.step 19 _ (by decide)) (by simp only [puts, setAll, List.set_cons_zero, List.set_cons_succ, List.setIfInBounds_toArray]))
                refine Steps.cons rfl (fun bb aa w' hbs hb0 hbp hI K hK => ?_) ?_
                · obtain ⟨us, hus, ha, hI⟩ := hI
                  obtain ⟨u0, u1, u2, u3, u4, u5, u6, u7, u8, u9, u10, u11, u12, u13, u14, u15, u16, u17, u18, u19, u20, u21, rfl⟩ := len22 hus
                  have e9 : u9 = .bool true := hI.val 9 _ rfl (gen_after 9 (by kernel_rfl) hbp)
                  subst e9
                  have e19 : u19 = .bool true := hI.val 19 _ rfl (gen_after 19 (by kernel_rfl) hbp)
                  subst e19
                  have p21 := hI.before 21 20 rfl (by kernel_rfl) hb0
                  have HL21 := Veil.mk p21
                  clear p21
                  obtain ⟨nd, rfl⟩ := hI.ph.low HL21.out
                  have HI := Veil.mk hI
                  clear hI
                  rw [ha]
                  simp only [puts, setAll, List.setIfInBounds_toArray, List.set_cons_zero, List.set_cons_succ]
                  clear ha
                  go_simp
                  exact hK _ _ (chain_step HI.out hus hbs 20 _ (by show 20 < 22; decide) rfl hbp (val_of rfl rfl) (HI.out.ph.step 20 _ (by decide)) (by simp only [puts, setAll, List.set_cons_zero, List.set_cons_succ, List.setIfInBounds_toArray]))
                refine Steps.cons rfl (fun bb aa w' hbs hb0 hbp hI K hK => ?_) ?_
                · obtain ⟨us, hus, ha, hI⟩ := hI
                  obtain ⟨u0, u1, u2, u3, u4, u5, u6, u7, u8, u9, u10, u11, u12, u13, u14, u15, u16, u17, u18, u19, u20, u21, rfl⟩ := len22 hus
                  have e20 : u20 = .bool true := hI.val 20 _ rfl (gen_after 20 (by kernel_rfl) hbp)
                  subst e20
                  obtain ⟨nd, rfl⟩ := hI.ph.low hb0
                  have HI := Veil.mk hI
                  clear hI
                  rw [ha]
                  simp only [puts, setAll, List.setIfInBounds_toArray, List.set_cons_zero, List.set_cons_succ]
                  clear ha
                  go_simp
                  exact hK _ _ (chain_step HI.out hus hbs 21 undef (by show 21 < 22; decide) rfl hbp (none_of rfl) (HI.out.ph.sto _) (by simp only [puts, setAll, List.set_cons_zero, List.set_cons_succ, List.setIfInBounds_toArray]))
                exact Steps.nil
              · intro us w5 hus d hd hJ
                obtain ⟨u0, u1, u2, u3, u4, u5, u6, u7, u8, u9, u10, u11, u12, u13, u14, u15, u16, u17, u18, u19, u20, u21, rfl⟩ := len22 hus
                obtain ⟨nz, rfl⟩ := hJ.ph.done (hd 21 (by show 21 < 22; decide))
                clear hJ hd
                simp only [puts, setAll, List.setIfInBounds_toArray, List.set_cons_zero, List.set_cons_succ]
                clear i0 s0 w0 g0 r0 rf HCS e1 e2 e3 n1 n2 n3 n4
                have hM1 := HM.out.on (below_drewN (Below.refl W.heap.size W) nz)
                have hx := (hM1.bR.put 0 (.bool true)).at_ 0
                have hK2 := (KeepsOthers.setCell (W.drewN nz) ⟨br, 0, none⟩ (.bool true)).same D _ (show (W.drewN nz).heap[D]? = _ from hK) rfl
                have hbq : Below w.heap.size w ((W.drewN nz).setCell ⟨br, 0, none⟩ (.bool true)) := hM1.bel.setCell (p := ⟨br, 0, none⟩) (by have := HW0.out.2.2; show w.heap.size ≤ br; omega) _
                have HZ := Veil.mk (And.intro hx (And.intro hK2 (And.intro (show w.heap.size ≤ D by omega) hbq)))
                clear hM1 hx hK2 hbq hK
                go_wp2
                exact fin_all2 (br := br) rfl HZ.out.1 HZ.out.2.1 HZ.out.2.2.1 HZ.out.2.2.2
end Go.Proofs.Ythlhchaapdhbfaa
