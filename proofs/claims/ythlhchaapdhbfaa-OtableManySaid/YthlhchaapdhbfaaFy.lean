/- OtableMany: the law's walk. -/
import Derived.Test.YthlhchaapdhbfaaFv
namespace Go.Proofs.Ythlhchaapdhbfaa
open Go.RowKit

abbrev v0 : Vt := (0, 0, ⟨#[]⟩)
def eM (i : Nat) : En := (kN (i : Int), v0, 0)
def eR (lo m : Nat) : List En := (List.range' lo m).map eM
def oR (lo m c : Nat) : Ob := (eR lo m, [(c, eR lo m)])
theorem eR_len (lo m : Nat) : (eR lo m).length = m := by simp [eR]
theorem eR_snoc (lo m : Nat) : eR lo (m + 1) = eR lo m ++ [eM (lo + m)] := by simp [eR, List.range'_concat]
theorem eR_cons (lo m : Nat) : eR lo (m + 1) = eM lo :: eR (lo + 1) m := by simp [eR, List.range'_succ]
theorem eR_has (lo m i : Nat) : hasK (eR lo m) (kN (i : Int)) ↔ lo ≤ i ∧ i < lo + m := by
  unfold hasK eR
  constructor
  · rintro ⟨e, he, hk⟩
    obtain ⟨j, hj, rfl⟩ := List.mem_map.1 he
    have hj2 := List.mem_range'.1 hj
    simp [eM, kN] at hk
    omega
  · rintro ⟨h1, h2⟩
    exact ⟨eM i, List.mem_map.2 ⟨i, List.mem_range'_1.2 ⟨h1, h2⟩, rfl⟩, rfl⟩
theorem keyT_n (i : Int) : keyT (kN i) = kN i := by simp [keyT]
theorem oR_put (lo m c : Nat) : putO (oR lo m c) (keyT (kN ((lo + m : Nat) : Int))) v0 0 = oR lo (m + 1) c := by
  unfold putO oR
  rw [keyT_n, if_neg (by rw [eR_has]; omega), eR_snoc]
  rfl
theorem drop_eR (lo m : Nat) : dropK (kN (lo : Int)) (eR lo (m + 1)) = eR (lo + 1) m := by
  unfold dropK
  rw [eR_cons, List.filter_cons_of_neg (by simp [eM])]
  apply List.filter_eq_self.2
  intro e he
  obtain ⟨j, hj, rfl⟩ := List.mem_map.1 he
  have := List.mem_range'_1.1 hj
  simp [eM, kN]
  omega
theorem oR_del (lo m c : Nat) : delO (oR lo (m + 1) c) (keyT (kN (lo : Int))) = oR (lo + 1) m c := by
  unfold delO oR
  rw [keyT_n, drop_eR]
  simp [drop_eR]
/-- What the second loop keeps. -/
def MoreR (B t c f m : Nat) (w : World) (i : Value) (wr : World) : Prop := ∃ j : Nat, ∃ F, j ≤ m ∧ i = .int .i64 ((f : Int) + (j : Int)) ∧ Tf B t F (eR f m, [(c, eR (f + j) (m - j))]) wr ∧ Below B w wr
/-- What the first loop keeps. -/
def ManyR (B t c keep : Nat) (w : World) (i : Value) (wr : World) (n : Nat) : Prop := ∃ k : Nat, ∃ F, k ≤ n ∧ i = .int .i64 (k : Int) ∧ Tf B t F (oR (k - keep) (k - (k - keep)) c) wr ∧ Below B w wr
set_option maxHeartbeats 4000000 in
set_option maxRecDepth 100000 in
theorem many_any (n0 keep0 : Int) (w : World) : Calls Try.prog 10 #[.int .i64 n0, .int .i64 keep0] w fun e w' => e = .returned (.bool true) ∧ Below w.heap.size w w' := by
  obtain ⟨n, hn, hx1, hx2, hx3, hx4⟩ := rem_nat n0 3000 (by omega)
  obtain ⟨q, hq, hy1, hy2, hy3, hy4⟩ := rem_nat keep0 40 (by omega)
  rw [show ((3000 : Nat) : Int) = 3000 from rfl] at hx1 hx2 hx3 hx4
  rw [show ((40 : Nat) : Int) = 40 from rfl] at hy1 hy2 hy3 hy4
  have HF := Veil.mk fit_any
  have HN := Veil.mk (@new_tf)
  have HC := Veil.mk (@cursor_tf)
  go_enter Try.func10, Try.ntmps10
  go_upto_region 3 with (first | (go_at_call 32; ((with_reducible refine (HF.out _).mono ?_); rintro e w1 ⟨rfl, hb1⟩)))
  have hB1 := hb1.size
  have HX := Veil.mk (And.intro hx1 (And.intro hx2 (And.intro hy1 hy2)))
  go_upto_region 5 with (first | (go_at_call 34; ((with_reducible refine (new_tf (B := w.heap.size) hB1).mono ?_); rintro e w2 ⟨rfl, hTf, hb2⟩)))
  clear hx1 hx2 hx3 hx4 hy1 hy2 hy3 hy4
  have hbw := hb1.trans (hb2.mono hB1)
  obtain ⟨t, ht⟩ : ∃ t, w1.heap.size = t := ⟨_, rfl⟩
  rw [ht] at hTf ⊢
  generalize (fun k => k = t) = F0 at hTf
  clear ht hb1 hb2
  go_upto_region 6 with (first | (go_at_call 38; ((with_reducible refine (cursor_tf hTf (by simp)).mono ?_); rintro e w3 ⟨rfl, F, hTf', hFs⟩)))
  obtain ⟨c, hc⟩ : ∃ c, w2.heap.size = c := ⟨_, rfl⟩
  rw [hc] at hTf' ⊢
  replace hbw := hbw.trans (Fs.below hTf hFs)
  clear hTf hFs hc
  go_wp2
  go_loopw [33] (fun i wr => ManyR w.heap.size t c (q + 1) w i wr n) (fun i _ => n - (intOf i).toNat)
  case atStart => exact ⟨0, F, Nat.zero_le _, rfl, by simpa [oR, eR] using hTf', hbw⟩
  case round =>
    obtain ⟨k, F1, hk, rfl, hT, hb⟩ := hrel
    clear hTf' hbw
    by_cases hlt : k < n
    · have hl : (oR (k - (q + 1)) (k - (k - (q + 1))) c).1.length < 40000 := by rw [show (oR (k - (q + 1)) (k - (k - (q + 1))) c).1 = eR (k - (q + 1)) (k - (k - (q + 1))) from rfl, eR_len]; omega
      have hl2 : (oR (k - (q + 1)) (k - (k - (q + 1))) c).2.length < 100000 := by simp [oR]
      have HP := Veil.mk (put_tf hT hl hl2 (kN (k : Int)) v0 0 (Nat.zero_le _))
      have HT := Veil.mk hT
      have hlt' : (k : Int) < (n : Int) := by omega
      have HB := Veil.mk hb
      clear hT hl hl2 hb
      go_upto_region 10 with (first | (go_at_call 39; ((with_reducible refine HP.out.mono ?_); rintro e w4 ⟨rfl, F2, hT2, hFs2⟩)))
      have HB2 := Veil.mk (HB.out.trans (Fs.below HT.out hFs2))
      rw [show putO (oR (k - (q + 1)) (k - (k - (q + 1))) c) (keyT (kN (k : Int))) v0 0 = oR (k - (q + 1)) (k + 1 - (k - (q + 1))) c by
        have := oR_put (k - (q + 1)) (k - (k - (q + 1))) c
        rw [show k - (q + 1) + (k - (k - (q + 1))) = k by omega, show k - (k - (q + 1)) + 1 = k + 1 - (k - (q + 1)) by omega] at this
        exact this] at hT2
      by_cases hq : q + 1 ≤ k
      · have hq' : (q : Int) + 1 ≤ (k : Int) := by omega
        have e1 : k + 1 - (k - (q + 1)) = (q + 1) + 1 := by omega
        have e2 : (k : Int) - ((q : Int) + 1) = ((k - (q + 1) : Nat) : Int) := by omega
        have e3 : IntKind.i64.wrap ((k : Int) - ((q : Int) + 1)) = ((k - (q + 1) : Nat) : Int) := by rw [e2]; exact IntWalk.i64_in _ (by omega)
        rw [e1] at hT2
        have HD := Veil.mk (del_tf hT2 (by show (eR _ _).length < _; rw [eR_len]; omega) (by simp [oR]) (kN ((k - (q + 1) : Nat) : Int)) (Nat.zero_le _))
        have HT2 := Veil.mk hT2
        clear hT2 e1
        go_upto_region 12 with (first | (go_at_call 40; ((with_reducible refine HD.out.mono ?_); rintro e w5 ⟨r, rfl, hr, F3, hT3, hFs3⟩)))
        have HR : Veil (ManyR w.heap.size t c (q + 1) w (.int .i64 ((k : Int) + 1)) w5 n) := ⟨⟨k + 1, F3, by omega, by go_num, by
          rw [oR_del] at hT3
          rw [show k + 1 - (q + 1) = k - (q + 1) + 1 by omega, show k + 1 - (k - (q + 1) + 1) = q + 1 by omega]
          exact hT3, HB2.out.trans (Fs.below HT2.out hFs3)⟩⟩
        clear hr hT3 hFs3 e2 e3
        go_wp2
        go_roundw
        case rel => exact HR.out
        case measure => simp [intOf]; omega
      · have hq' : ¬ (q : Int) + 1 ≤ (k : Int) := by omega
        have HR : Veil (ManyR w.heap.size t c (q + 1) w (.int .i64 ((k : Int) + 1)) w4 n) := ⟨⟨k + 1, F2, by omega, by go_num, by
          rw [show k + 1 - (q + 1) = k - (q + 1) by omega]
          exact hT2, HB2.out⟩⟩
        clear hT2 hFs2
        go_wp2
        go_roundw
        case rel => exact HR.out
        case measure => simp [intOf]; omega
    · have hlt' : ¬ (k : Int) < (n : Int) := by omega
      obtain rfl : k = n := by omega
      have d1 : IntKind.i64.wrap ((k : Int) - ((q : Int) + 1)) = (k : Int) - ((q : Int) + 1) := IntWalk.i64_in _ (by omega)
      go_upto_region 14 with (fail)
      have e0 : (if (k : Int) - ((q : Int) + 1) < 0 then 0 else (k : Int) - ((q : Int) + 1)) = ((k - (q + 1) : Nat) : Int) := by split <;> omega
      rw [e0]
      obtain ⟨f, hf⟩ : ∃ f, k - (q + 1) = f := ⟨_, rfl⟩
      obtain ⟨m, hm⟩ : ∃ m, k - f = m := ⟨_, rfl⟩
      rw [hf] at hT ⊢
      rw [hm] at hT
      have hkm : f + m = k := by omega
      have hmk : m ≤ 3000 := by omega
      have d2 : IntKind.i64.wrap ((k : Int) - (f : Int)) = (m : Int) := by rw [show (k : Int) - (f : Int) = (m : Int) by omega]; exact IntWalk.i64_in _ (by omega)
      have d3 : IntKind.i64.wrap (5 * (m : Int)) = 5 * (m : Int) := IntWalk.i64_in _ (by omega)
      have d4 : IntKind.i64.wrap (5 * (m : Int) + 17) = 5 * (m : Int) + 17 := IntWalk.i64_in _ (by omega)
      have d5 : ((m : Int) != (m : Int)) = false := by simp
      have HL := Veil.mk (len_tb hT.tb)
      have HS := Veil.mk (sto_tf hT (by show (eR _ _).length < _; rw [eR_len]; omega) (by simp [oR]))
      rw [show (oR f m c).1.length = m from eR_len f m, show (oR f m c).2.length = 1 from rfl] at HS
      rw [show (oR f m c).1.length = m from eR_len f m] at HL
      have HT := Veil.mk hT
      have HB := Veil.mk hb
      have HM := Veil.mk hkm
      clear hT hb e0 d1 hf hm hkm
      go_upto_region 16 with (first | (go_at_call 41; ((with_reducible refine HL.out.mono ?_); rintro e w5 ⟨rfl, rfl⟩)) | (go_at_call 37; ((with_reducible refine HS.out.mono ?_); rintro e w6 ⟨s, rfl, hs, hb6⟩; have hs' : ¬ 5 * (m : Int) + 17 < (s : Int) := by omega)))
      have HE := Veil.mk (show MoreR w.heap.size t c f m w (.int .i64 (f : Int)) w6 from ⟨0, F1, Nat.zero_le _, by simp, by simpa [oR] using HT.out.on hb6, HB.out.trans (hb6.mono HB.out.size)⟩)
      clear hs hs' hb6 d2 d3 d4 d5 HL HS
      go_wp2
      go_loopw [9] (fun i wr => MoreR w.heap.size t c f m w i wr) (fun i _ => k - (intOf i).toNat)
      case atStart => exact HE.out
      case round =>
        obtain ⟨j, F2, hj, rfl, hT, hb⟩ := hrel
        clear HE HT HB
        by_cases hjm : j < m
        · have hkm := HM.out
          have g1 : (f : Int) + (j : Int) < (k : Int) := by omega
          have HN := Veil.mk (next_tf hT (by show (eR _ _).length < _; rw [eR_len]; omega) 0 c (eM (f + j)) (eR (f + j + 1) (m - (j + 1))) (by rw [show m - j = m - (j + 1) + 1 by omega, eR_cons]; rfl))
          have HB := Veil.mk hb
          have HT := Veil.mk hT
          clear hT hb hkm
          go_upto_region 20 with (first | (go_at_call 42; ((with_reducible refine HN.out.mono ?_); rintro e w7 ⟨rfl, hT7, ht7⟩)))
          have bA := two_box w7 (#[.int .i64 (eM (f + j)).1.1, .int .i64 (eM (f + j)).1.2.1, .string (eM (f + j)).1.2.2]) (#[.int .i64 (eM (f + j)).2.1.1, .int .i64 (eM (f + j)).2.1.2.1, .string (eM (f + j)).2.1.2.2])
          have lA := two_below w7 (#[.int .i64 (eM (f + j)).1.1, .int .i64 (eM (f + j)).1.2.1, .string (eM (f + j)).1.2.2]) (#[.int .i64 (eM (f + j)).2.1.1, .int .i64 (eM (f + j)).2.1.2.1, .string (eM (f + j)).2.1.2.2])
          have HB7 := Veil.mk (HB.out.trans ((Touch.below ht7 HT.out.le (fun k hk => (HT.out.lt k hk).1)).trans (lA.mono hT7.le)))
          replace hT7 := hT7.on lA
          generalize hgA : w7.heap.size = gA at bA ⊢
          generalize (w7.alloc _).alloc _ = A at bA lA hT7 HB7 ⊢
          have c1 : A.cell? ⟨gA, 1, none⟩ = some (.int .i64 ((f : Int) + (j : Int))) := (bA.at_ 1).trans (by simp [eM])
          have HR : Veil (MoreR w.heap.size t c f m w (.int .i64 ((f : Int) + (j : Int) + 1)) A) := ⟨⟨j + 1, F2, by omega, by congr 1, hT7, HB7.out⟩⟩
          clear bA lA hT7 ht7 hgA
          go_wp2
          go_roundw
          case rel => exact HR.out
          case measure => simp [intOf]; omega
        · have hkm := HM.out
          obtain rfl : j = m := by omega
          have g1 : ¬ (f : Int) + (j : Int) < (k : Int) := by omega
          have HN := Veil.mk (end_tf hT (by show (eR _ _).length < _; rw [eR_len]; omega) (by simp) c (by simp [eR]))
          have HB := Veil.mk hb
          have HT := Veil.mk hT
          clear hT hb hkm
          go_upto_region 23 with (first | (go_at_call 42; ((with_reducible refine HN.out.mono ?_); rintro e w7 ⟨rfl, F3, L, hT7, hFs7, hp7, x7, y7, hb7⟩)))
          have lA := two_below w7 (#[.int .i64 0, .int .i64 0, .string ⟨#[]⟩]) (#[.int .i64 0, .int .i64 0, .string ⟨#[]⟩])
          have HB7 := Veil.mk (HB.out.trans ((Fs.below HT.out hFs7).trans (lA.mono hT7.le)))
          replace hb7 := hb7.on lA hb7.lt
          clear hFs7 hp7 hT7
          generalize (w7.alloc _).alloc _ = A at lA hb7 HB7 ⊢
          have HO := Veil.mk (open_shut c x7 y7 A hb7)
          clear lA hb7
          go_wp2_with (first | (go_at_call 43; ((with_reducible refine HO.out.mono ?_); rintro e w8 ⟨rfl, rfl⟩)))
          go_ret
          exact ⟨rfl, HB7.out⟩
end Go.Proofs.Ythlhchaapdhbfaa
