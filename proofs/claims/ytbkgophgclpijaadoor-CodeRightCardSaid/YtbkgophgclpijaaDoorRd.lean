/- CodeRight: the walk. -/
import Derived.Test.YtbkgophgclpijaaDoorRs
namespace Go.Proofs.YtbkgophgclpijaaDoor
open Go.RowKit

theorem swI_right (n c k : Nat) (op a b : Int) : rightI n c k op a b = (swI n c k op a b && (decide (1 ≤ op) && decide (op ≤ 88))) := by
  unfold rightI swI
  by_cases g1 : op = 36 ∨ op = 37 ∨ op = 38 ∨ op = 39 ∨ op = 40 ∨ op = 41 ∨ op = 63 ∨ op = 64 ∨ op = 74
  · rw [if_pos g1, if_pos g1, show decide (1 ≤ op) = true by simp; omega, show decide (op ≤ 88) = true by simp; omega]; simp
  rw [if_neg g1, if_neg g1]
  by_cases g2 : op = 68
  · rw [if_pos g2, if_pos g2, show decide (1 ≤ op) = true by simp; omega, show decide (op ≤ 88) = true by simp; omega]; simp
  rw [if_neg g2, if_neg g2]
  by_cases g3 : op = 1 ∨ op = 14 ∨ op = 15 ∨ op = 19 ∨ op = 21 ∨ op = 23 ∨ op = 25 ∨ op = 88
  · rw [if_pos g3, if_pos g3, show decide (1 ≤ op) = true by simp; omega, show decide (op ≤ 88) = true by simp; omega]; simp
  rw [if_neg g3, if_neg g3]
  by_cases g4 : op = 50
  · rw [if_pos g4, if_pos g4, show decide (1 ≤ op) = true by simp; omega, show decide (op ≤ 88) = true by simp; omega]; simp
  rw [if_neg g4, if_neg g4]; simp

theorem run_mkVals (c : Nat) (hc : c < 4) (w : World) : (Instr.makeSlice 50 (.int .i64 (c : Int)) (.int .i64 (c : Int))).run Tryd.prog w = .ok (.slice (some ⟨w.heap.size, 0, none⟩) c c) (w.alloc (.cells (madeCells #[.int .i64 0, .int .i64 0, .string ⟨#[]⟩] (c * 3)) 27)) := by
  obtain ⟨i0, hi, hz0, hz1, hz2⟩ := info_parts Tryd.info27
  have h := run_make (P := Tryd.prog) w 50 27 i0 _ Tryd.underlying50 hi hz0 .i64 .i64 (c : Int) (c : Int) (by omega) (by omega) (by rw [hz2]; omega) (by omega)
  simp only [Int.toNat_natCast, hz1] at h
  exact h

set_option maxRecDepth 100000 in
set_option maxHeartbeats 4000000 in
theorem right_law (a : Option Addr) (n ca : Nat) (l : List (Int × Int × Int)) (x y : Int) (w : World) (hT : Tb w) (hL : Ins3 w a n l) :
    Calls Tryd.prog 9 #[.slice a n ca, .int .i64 x, .int .i64 y] w fun e w' => e = .returned (.bool true) ∧ Below w.heap.size w w' := by
  by_cases hn : 200 < n
  · have h1 : (200 : Int) < (n : Int) := by omega
    clear hL
    go_enter Tryd.func9, Tryd.ntmps9
    go_wp2_with (first | (go_at_call 29; ((with_reducible refine (fit_any _ hT).mono ?_); rintro e w1 ⟨rfl, hb1⟩)))
    go_ret
    exact ⟨rfl, hb1⟩
  have h1 : ¬ (200 : Int) < (n : Int) := by omega
  have HL := Veil.mk hL
  obtain ⟨c, hc, hx1, hx2, hx3, hx4⟩ := rem_nat x 4 (by omega)
  obtain ⟨k, hk, hy1, hy2, hy3, hy4⟩ := rem_nat y 3 (by omega)
  rw [show ((4 : Nat) : Int) = 4 from rfl] at hx1 hx2 hx3 hx4
  rw [show ((3 : Nat) : Int) = 3 from rfl] at hy1 hy2 hy3 hy4
  have hmk := run_mkVals c hc
  clear hL
  go_enter Tryd.func9, Tryd.ntmps9
  go_wp2_with (first | (go_at_call 29; ((with_reducible refine (fit_any _ hT).mono ?_); rintro e w1 ⟨rfl, hb1⟩)))
  obtain ⟨W0, hW0⟩ : ∃ W, W = (w1.alloc (.cells (madeCells #[.int .i64 0, .int .i64 0, .string ⟨#[]⟩] (c * 3)) 27)).alloc (.cells (fcells (.slice none 0 0) (.slice (some ⟨w1.heap.size, 0, none⟩) c c) (.slice none 0 0)) 53) := ⟨_, rfl⟩
  rw [← hW0]
  have hBX : Box W0 (w1.heap.size + 1) 53 (fcells (.slice none 0 0) (.slice (some ⟨w1.heap.size, 0, none⟩) c c) (.slice none 0 0)) := by rw [hW0]; have := Box.new (w1.alloc (.cells (madeCells #[.int .i64 0, .int .i64 0, .string ⟨#[]⟩] (c * 3)) 27)) 53 (fcells (.slice none 0 0) (.slice (some ⟨w1.heap.size, 0, none⟩) c c) (.slice none 0 0)); simpa using this
  have hB0 : Below w.heap.size w W0 := by rw [hW0]; exact (hb1.alloc hb1.size _).alloc (by have := hb1.size; simp; omega) _
  obtain ⟨F, hF⟩ : ∃ F, F = w1.heap.size + 1 := ⟨_, rfl⟩
  have hFlo : w.heap.size ≤ F := by have := hb1.size; omega
  rw [← hF] at hBX ⊢
  obtain ⟨v9, hv9⟩ : ∃ v, v = Value.slice (some ⟨w1.heap.size, 0, none⟩) c c := ⟨_, rfl⟩
  have HV9 := Lib.hid hv9
  rw [← hv9] at hBX ⊢
  clear hv9 hW0 hF hb1 hmk hx1 hx2 hx3 hx4 hy1 hy2 hy3 hy4
  have I63 := Tryd.info63
  go_loopw [31] (fun v wr => ∃ (i : Nat) (v10 : Value) (ps : List (Nat × Nat)), i ≤ k ∧ v = .int .i64 (i : Int) ∧ Veil (ps.length = i) ∧ Box wr F 53 (fcells (.slice none 0 0) v9 v10) ∧ wr.ownsRow w.heap.size 63 1 v10 i (ps.map fun p => Value.pointer (some ⟨p.1, 0, none⟩)) ∧ Veil (∀ p ∈ ps, Leaf wr p.1 p.2 ∧ F < p.1) ∧ Below w.heap.size w wr) (fun v _ => k - (intOf v).toNat)
  case atStart => exact ⟨0, _, [], by omega, rfl, ⟨rfl⟩, hBX, World.ownsRow_nil _ _ _ _, ⟨fun p hp => by simp at hp⟩, hB0⟩
  case round =>
    obtain ⟨i, v10, ps, hi, rfl, hps, hbox, hown, hleaf, hbw⟩ := hrel
    have hws := hbw.size
    by_cases hp : i < k
    · obtain ⟨i0, hi, hz0, hz1, hz2⟩ := info_parts I63
      have hFlt := hbox.lt
      have e10 : wr.cell? ⟨F, 10, none⟩ = some v10 := hbox.at_ 10
      have e11 := hbox.free 10
      go_wp2_with (at_builtin; refine wpList_append_lies _ rfl (.tmp 34) (.tmp 39) 51 rfl w.heap.size 63 i0 (.pointer none) 1 8 Tryd.underlying51 hi hz0 hz1 hz2 rfl (by decide) v10 i (ps.map fun p => Value.pointer (some ⟨p.1, 0, none⟩)) rfl (((hown.alloc _).alloc _).alloc _) ⟨wr.heap.size + 2, 0, none⟩ 1 1 [_] rfl rfl (one_new _ _ _ _ (by simp)) (by simp [Value.oneCell']) (by decide) (by unfold maxLen; omega) (by omega) (by simp; omega) _ rfl ?_; intro g cap' w3 hown' hgrow3 hblk hg3; have hx3 := (((hbox.more _).more _).more _).grown hgrow3 (hbox.apart hown (by decide)); have e12 : w3.cell? ⟨F, 10, none⟩ = some v10 := hx3.at_ 10; have e13 := hx3.free 10)
      have hR := round1 hFlo hbox hown hleaf.out hbw rfl hown' hgrow3
      obtain ⟨r1, r2, r3, r4⟩ := hR
      go_roundw
      case rel => exact ⟨i + 1, _, ps ++ [(wr.heap.size + 1, wr.heap.size)], by omega, by go_num, ⟨by simp [hps.out]⟩, r1, r2, ⟨r3⟩, r4⟩
      case measure => simp [intOf]; omega
    · have hik : i = k := by omega
      subst hik
      have hwlen : IntKind.i64.wrap ((n : Int) - 1) = (n : Int) - 1 := by rw [IntKind.wrap_i64]; omega
      have hp1 : ¬ (i : Int) < (i : Int) := by omega
      obtain ⟨w0, hw0⟩ : ∃ w0 : Bool, w0 = (decide (0 < n) && decide (lastOp l = 61)) := ⟨_, rfl⟩
      have HW0 := Lib.hid hw0
      clear hw0 hp
      go_upto_region 12 with (fail)
      go_cut [9] (fun s wx => s = .bool w0 ∧ wr = wx)
      case first =>
        rcases Nat.eq_zero_or_pos n with h0 | h0
        · have d1 : decide ((0 : Int) < (n : Int)) = false := by simp; omega
          have d2 : decide (0 < n) = false := by simp; omega
          have HE : Hid (w0 = false) := by show _ = _; rw [HW0.out]; simp [h0]
          clear h0
          go_wp2
          go_meet
          exact ⟨by rw [HE.out], rfl⟩
        · have d1 : decide ((0 : Int) < (n : Int)) = true := by simp; omega
          have d2 : decide (0 < n) = true := by simp; omega
          obtain ⟨bi, oi, rfl, hbi, hcell⟩ := HL.out.2 h0
          have hln := HL.out.1
          have hlast : l[n - 1]? = some (l[n - 1]?.getD (0, 0, 0)) := by
            have : n - 1 < l.length := by omega
            simp [List.getElem?_eq_getElem this]
          obtain ⟨hc1, -, -⟩ := hcell _ _ hlast
          have hop : lastOp l = (l[n - 1]?.getD (0, 0, 0)).1 := by unfold lastOp; rw [hln]
          rw [← hop] at hc1
          have hi1 : (0 : Int) ≤ (n : Int) - 1 := by omega
          have hi2 : (n : Int) - 1 < (n : Int) := by omega
          have hi3 : ((n : Int) - 1).toNat = n - 1 := by omega
          have hc2 := cell_later hbw hc1 (Nat.le_refl _)
          have HE : Hid (w0 = (lastOp l == 61)) := by show _ = _; rw [HW0.out]; simp [h0]; rfl
          clear hlast hop hcell hln hc1
          go_wp2
          go_meet
          exact ⟨by rw [HE.out], rfl⟩
      case rest =>
        obtain ⟨rfl, rfl⟩ := hcut
        go_wp2
        obtain ⟨W2, rfl⟩ : ∃ W2 : World, W2 = wr := ⟨_, rfl⟩
        have HOWN := Lib.hid hown
        have hFW2 := hbox.lt
        have I61 := Tryd.info61
        go_loopw [9, 58] (fun b9 v wr => ∃ (j : Nat) (v8 : Value), j ≤ n ∧ v = .int .i64 (j : Int) ∧ b9 = .bool (w0 && rightL n c i (l.take j)) ∧ Box wr F 53 (fcells v8 v9 v10) ∧ wr.ownsRow W2.heap.size 61 3 v8 j (flat (l.take j)) ∧ Only W2 wr F) (fun _ v _ => n - (intOf v).toNat)
        case atStart => exact ⟨0, _, by omega, rfl, by simp [rightL], hbox, by simpa [flat] using World.ownsRow_nil _ _ _ _, Only.refl _ _⟩
        case round =>
          obtain ⟨j, v8, hj, rfl, rfl, hbox2, hown2, honly⟩ := hrel
          have hbo := honly.below hFlo hbw.size
          have hbr := hbw.trans hbo
          have hws2 := honly.size
          by_cases hp : j < n
          · obtain ⟨bi, oi, rfl, hbi, hcell⟩ := HL.out.2 (by omega)
            obtain ⟨⟨op, p, q⟩, hx⟩ : ∃ z, l[j]? = some z := by
              have : j < l.length := by have := HL.out.1; omega
              exact ⟨_, List.getElem?_eq_getElem this⟩
            obtain ⟨d0, d1, d2⟩ := hcell _ _ hx
            have e0 := cell_later hbr d0 (Nat.le_refl _)
            have e1 := cell_later hbr d1 (Nat.le_refl _)
            have e2 := cell_later hbr d2 (Nat.le_refl _)
            simp only at e0 e1 e2
            have hj0 : (0 : Int) ≤ (j : Int) := by omega
            have hj1 : (j : Int) < (n : Int) := by omega
            obtain ⟨bw, hbw9⟩ : ∃ b : Bool, b = (w0 && rightL n c i (l.take j)) := ⟨_, rfl⟩
            have HBW := Lib.hid hbw9
            rw [← hbw9]
            have HX := Lib.hid hx
            clear hx d0 d1 d2 hcell hbw9 hp
            obtain ⟨i1, hi1, hy0, hy1, hy2⟩ := info_parts I61
            have hFlt := hbox2.lt
            have f8 : wr.cell? ⟨F, 8, none⟩ = some v8 := hbox2.at_ 8
            have f8' := hbox2.free 8
            go_upto_region 17 with (at_builtin; refine wpList_append_lies _ rfl (.tmp 63) (.tmp 71) 49 rfl W2.heap.size 61 i1 (.agg #[.int .i64 0, .int .i64 0, .int .i64 0]) 3 24 Tryd.underlying49 hi1 hy0 hy1 hy2 rfl (by decide) v8 j (flat (l.take j)) rfl ((hown2.alloc _).alloc _) ⟨wr.heap.size + 1, 0, none⟩ 1 1 [_, _, _] rfl rfl (three_new _ _ _ _ _ _ (by simp)) (by simp [Value.oneCell']) (by decide) (by unfold maxLen; omega) (by omega) (by simp; omega) _ rfl ?_; intro g cap' w3 hown' hgrow3 hblk hg3; have hx3 := ((hbox2.more _).more _).grown hgrow3 (hbox2.apart hown2 (by decide)); have e12 : w3.cell? ⟨F, 8, none⟩ = some v8 := hx3.at_ 8; have e13 := hx3.free 8)
            obtain ⟨r1, r2, r3, r4⟩ := round2 hbox2 hown2 honly hown' hgrow3
            obtain ⟨W4, hW4⟩ : ∃ W4, W4 = w3.setCell ⟨F, 8, none⟩ (.slice (some ⟨g, 0, none⟩) (j + 1) cap') := ⟨_, rfl⟩
            rw [← hW4] at r1 r2 r3 r4 ⊢
            rw [← take_snoc HX.out] at r2
            obtain ⟨BX, hBXe⟩ : ∃ b, b = wr.heap.size := ⟨_, rfl⟩
            rw [← hBXe] at r4 ⊢
            have c0 : W4.cell? ⟨BX, 0, none⟩ = some (.int .i64 op) := r4.at_ 0
            have c1 : W4.cell? ⟨BX, 1, none⟩ = some (.int .i64 p) := r4.at_ 1
            have c2 : W4.cell? ⟨BX, 2, none⟩ = some (.int .i64 q) := r4.at_ 2
            have HN : Hid ((w0 && rightL n c i (l.take (j + 1))) = (bw && rightI n c i op p q)) := by
              show _ = _
              rw [take_snoc HX.out, rightL_snoc, HBW.out, Bool.and_assoc]
            clear hW4 hBXe e12 e13 hx3 hown' hgrow3 hblk hg3 f8 f8' e0 e1 e2
            go_cut [12] (fun s wx => s = .bool (tgt n p) ∧ W4 = wx)
            case first =>
              by_cases h1 : -1 ≤ p
              · have hE : Hid (tgt n p = decide (p < (n : Int))) := by show _ = _; simp [tgt, h1]
                go_wp2
                go_meet
                exact ⟨by rw [hE.out], rfl⟩
              · have hE : Hid (tgt n p = false) := by show _ = _; simp [tgt, h1]
                have d1 : decide (-1 ≤ p) = false := by simpa using h1
                go_wp2
                go_meet
                exact ⟨by rw [hE.out], rfl⟩
            case rest =>
              obtain ⟨rfl, rfl⟩ := hcut
              have HFIN : Hid ((w0 && rightL n c i (l.take (j + 1))) = (bw && swI n c i op p q && (decide (1 ≤ op) && decide (op ≤ 88)))) := by
                show _ = _; rw [HN.out, swI_right]
                cases bw <;> rfl
              obtain ⟨bin, hbin⟩ : ∃ b, b = tgt n p := ⟨_, rfl⟩
              have HBIN := Lib.hid hbin
              rw [← hbin]
              clear hbin
              have HOLD := Veil.mk (And.intro r1 (And.intro r2 r3))
              have HBB := Veil.mk (And.intro hbo (And.intro hbr hbox2))
              clear r1 r2 r3 hbo hbr hbox2 hown2 honly
              go_upto_block 4 with (fail)
              go_cut [9] (fun s wx => s = .bool (bw && swI n c i op p q) ∧ W4 = wx)
              case first =>
                rename_i J K2 hJ hK2
                refine sw_ok _ _ _ _ _ _ _ _ _ _ _ _ _ _ _ _ _ _ _ _ _ _ _ _ _ _ _ _ _ _ _ _ _ _ _ _ _ _ _ _ _ _ _ _ _ _ _ _ _ _ _ _ _ _ _ _ _ _ _ _ _ _ _ _ _ _ _ _ _ _ _ _ _ _ _ _ _ _ _ _ _ _ _ _ _ _ _ _ _ _ _ _ _ _ _ _ _ _ _ _ _ _ _ _ _ _ _ _ _ _ _ _ _ _ _ _ _ _ _ _ _ _ _ _ _ _ _ _ _ _ _ _ _ _ _ _ _ _ _ _ _ _ _ _ _ _ _ _ _ _ _ _ _ _ _ _ _ _ _ _ _ _ _ _ _ _ n c i op p q bw bin BX W4 c0 c1 c2 HBIN _ _ ?_
                intros
                refine hK2 _ _ (Met.intro (hJ _ _ ?_))
                repeat apply Exists.intro
                exact ⟨⟨rfl, rfl⟩, rfl⟩
              case rest =>
                obtain ⟨rfl, rfl⟩ := hcut
                obtain ⟨sv, hsv⟩ : ∃ b, b = (bw && swI n c i op p q) := ⟨_, rfl⟩
                have HSV := Lib.hid hsv
                rw [← hsv]
                clear hsv
                have hq : (1 ≤ op ∧ op ≤ 88) ∨ (1 ≤ op ∧ ¬ op ≤ 88) ∨ ¬ 1 ≤ op := by omega
                rcases hq with ⟨x1, x2⟩ | ⟨x1, x2⟩ | x1
                case' inr.inr => have x2 : decide (1 ≤ op) = false := by simpa using x1
                all_goals
                  cases sv
                  all_goals
                    go_wp2
                    go_roundw
                    case rel => exact ⟨j + 1, _, by omega, by go_num, by rw [HFIN.out, ← HSV.out]; simp [x1, x2], HOLD.out.1, HOLD.out.2.1, HOLD.out.2.2⟩
                    case measure => simp [intOf]; omega
          · have hjn : j = n := by omega
            subst hjn
            have hln := HL.out.1
            have htk : l.take j = l := List.take_of_length_le (by omega)
            rw [htk] at hown2 ⊢
            have hFC : FuncAt wr F l j c i := funcAt_of (by omega) (by omega) hln hbox2 hown2 HV9.out HOWN.out hleaf.out hps.out hbox honly
            obtain ⟨B, hBe⟩ : ∃ B : Bool, B = (w0 && rightL j c i l) := ⟨_, rfl⟩
            have HB : Hid (rightF l c i = B) := by
              show _ = _; rw [hBe, HW0.out]; unfold rightF; rw [hln]
            rw [← hBe]
            have hr := hFC.right
            rw [HB.out] at hr
            have hg : ∀ wx, Below wr.heap.size wr wx → Calls Tryd.prog 33 #[.pointer (some ⟨F, 0, none⟩)] wx fun e w'' => e = .returned (.bool B) ∧ Below wx.heap.size wx w'' := fun wx hx => by
              have := (hFC.on hx).right
              rw [HB.out] at this
              exact this
            have HG := Veil.mk hg
            have hp1 : ¬ (j : Int) < (j : Int) := by omega
            clear hg hBe htk hln hFC hp hown2 hbox2
            cases B
            all_goals
              go_upto_region 46 with (first | (go_at_call 33; ((with_reducible refine hr.mono ?_); rintro e w5 ⟨rfl, hb5⟩)))
              go_wp2_with (first | (go_at_call 33; ((with_reducible refine (wrap_right w5 F _ (fun wx hx => HG.out wx (hb5.trans (hx.mono hb5.size)))).mono ?_); rintro e w6 ⟨rfl, hb6⟩)))
              go_ret
              exact ⟨rfl, hbr.trans ((hb5.trans (hb6.mono hb5.size)).mono (Nat.le_trans hbw.size honly.size))⟩
end Go.Proofs.YtbkgophgclpijaaDoor
