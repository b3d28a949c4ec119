/- ValueJoins: the walk. -/
import Derived.Test.YtbkgophgclpijaaDoorKa
import Derived.Test.YtbkgophgclpijaaDoorIc
import Derived.Test.YtbkgophgclpijaaDoorWf
import Derived.Deep.DeepCutAuto
namespace Go.Proofs.YtbkgophgclpijaaDoor
open Go Go.RowKit

theorem joinT_left {y x : Vt} (h : y.1 = 7) : joinT y x = if (textT x).2 = 0 then ((7, 0, y.2.2 ++ (textT x).1), 0) else ((0, 0, W.e0), (textT x).2) := by
  have e : textT y = (y.2.2, 0) := if_pos h
  unfold joinT
  rw [e, if_pos rfl]
theorem joinT_right {y x : Vt} (h : y.1 = 7) : joinT x y = if (textT x).2 = 0 then ((7, 0, (textT x).1 ++ y.2.2), 0) else ((0, 0, W.e0), (textT x).2) := by
  have e : textT y = (y.2.2, 0) := if_pos h
  unfold joinT
  rw [e, if_pos rfl]
set_option maxRecDepth 1000000 in
set_option maxHeartbeats 8000000 in
theorem joins_law (ka na : Int) (a b : Option Addr) (la ca lb cb : Nat) (l r : List Nat) (hl : ∀ u ∈ l, u < 65536) (hr : ∀ u ∈ r, u < 65536) (w : World) (hT : M.Tb w) (h1 : W.Nums .u16 w a la l) (h2 : W.Nums .u16 w b lb r) :
    Calls Tryd.prog 7 #[seedV ka na a la ca, .slice b lb cb] w fun e w' => e = .returned (.bool true) ∧ Below w.heap.size w w' := by
  obtain ⟨W0, hW0⟩ : ∃ W, W = w.alloc (.cells #[.int .i64 ka, .int .i64 na, .slice a la ca] 24) := ⟨_, rfl⟩
  have hB : Below w.heap.size w W0 := by rw [hW0]; exact (Below.refl _ _).alloc (Nat.le_refl _) _
  have b1 : Box W0 w.heap.size 24 #[.int .i64 ka, .int .i64 na, .slice a la ca] := by rw [hW0]; exact Box.new _ _ _
  have HW := Lib.hid hW0.symm
  clear hW0
  have HT := Veil.mk (hT.on hB)
  clear hT
  by_cases ha : 2000 < la
  · have hai : (2000 : Int) < (la : Int) := by omega
    clear h1 h2
    go_enter Tryd.func7, Tryd.ntmps7
    go_upto_region 1 with (fail)
    rw [HW.out]
    go_wp2_with (first | (go_at_call 10; ((with_reducible refine (W.fit_any _).mono ?_); rintro e w1 ⟨rfl, hb1⟩; have sA := b1.on hb1 b1.lt; have c0 : w1.cell? ⟨w.heap.size, 0, none⟩ = some (.int .i64 ka) := sA.at_ 0; have c1 : w1.cell? ⟨w.heap.size, 1, none⟩ = some (.int .i64 na) := sA.at_ 1; have c2 : w1.cell? ⟨w.heap.size, 2, none⟩ = some (.slice a la ca) := sA.at_ 2)))
    go_ret
    exact ⟨rfl, hB.trans (hb1.mono hB.size)⟩
  by_cases hb : 2000 < lb
  · have hai : ¬ (2000 : Int) < (la : Int) := by omega
    have hbi : (2000 : Int) < (lb : Int) := by omega
    clear h1 h2
    go_enter Tryd.func7, Tryd.ntmps7
    go_upto_region 1 with (fail)
    rw [HW.out]
    go_wp2_with (first | (go_at_call 10; ((with_reducible refine (W.fit_any _).mono ?_); rintro e w1 ⟨rfl, hb1⟩; have sA := b1.on hb1 b1.lt; have c0 : w1.cell? ⟨w.heap.size, 0, none⟩ = some (.int .i64 ka) := sA.at_ 0; have c1 : w1.cell? ⟨w.heap.size, 1, none⟩ = some (.int .i64 na) := sA.at_ 1; have c2 : w1.cell? ⟨w.heap.size, 2, none⟩ = some (.slice a la ca) := sA.at_ 2)))
    go_ret
    exact ⟨rfl, hB.trans (hb1.mono hB.size)⟩
  have hai : ¬ (2000 : Int) < (la : Int) := by omega
  have hbi : ¬ (2000 : Int) < (lb : Int) := by omega
  have HL := Veil.mk hl
  have HR := Veil.mk hr
  have N1 := Veil.mk h1
  have N2 := Veil.mk (h2.on hB)
  clear hl hr h1 h2 ha
  go_enter Tryd.func7, Tryd.ntmps7
  go_upto_region 1 with (fail)
  rw [HW.out]
  go_upto_region 5 with (first | (go_at_call 10; ((with_reducible refine (W.fit_any _).mono ?_); rintro e w1 ⟨rfl, hb1⟩; have sA := b1.on hb1 b1.lt; have c0 : w1.cell? ⟨w.heap.size, 0, none⟩ = some (.int .i64 ka) := sA.at_ 0; have c1 : w1.cell? ⟨w.heap.size, 1, none⟩ = some (.int .i64 na) := sA.at_ 1; have c2 : w1.cell? ⟨w.heap.size, 2, none⟩ = some (.slice a la ca) := sA.at_ 2)))
  have va := Veil.mk (seed_val ka na a la ca l (by omega) HL.out w1 ((N1.out.on hB).on hb1))
  have HB1 := Veil.mk (hB.trans (hb1.mono hB.size))
  have HT1 := Veil.mk (HT.out.on hb1)
  have N3 := Veil.mk (N2.out.on hb1)
  clear sA b1 hB hb1 hai hbi HT N2
  go_cut [5] (fun s3 wx => ∃ (g3 : Nat) (x : Vt), s3 = .pointer (some ⟨g3, 0, none⟩) ∧ WV x.1 x.2.1 x.2.2 ∧ Box wx g3 27 #[.int .i64 x.1, .int .i64 x.2.1, .string x.2.2] ∧ Below w1.heap.size w1 wx)
  case first =>
    go_wp2_with (first | (go_at_call 11; ((with_reducible refine (va.out).mono ?_); intro e w2 hp; obtain ⟨k1, n1, s1, wv1, rfl, hb2⟩ := hp)))
    go_meet
    exact ⟨w2.heap.size, (k1, n1, s1), rfl, wv1, Box.new _ _ _, hb2.alloc hb2.size _⟩
  case rest =>
  obtain ⟨g3, x, rfl, hx, bx, hb5⟩ := hcut
  obtain ⟨w5, hw5⟩ : ∃ w5, w5 = wc := ⟨_, rfl⟩
  rw [← hw5] at bx hb5 ⊢
  clear hw5
  have HB5 := Veil.mk (HB1.out.trans (hb5.mono HB1.out.size))
  have HT5 := Veil.mk (HT1.out.on hb5)
  have N5 := Veil.mk (N3.out.on hb5)
  have BX := Veil.mk bx
  have HX := Veil.mk hx
  clear va HL N1 HW HB1 HT1 hb5 c0 c1 c2 N3 bx hx
  obtain ⟨i0, hi, hz0, hz1, hz2⟩ := info_parts W.Tryd.info3
  go_wp2
  go_loopw [6, 31] (fun v i wr => ∃ k : Nat, k ≤ lb ∧ i = .int .i64 (k : Int) ∧ wr.ownsRow w5.heap.size 3 1 v k (W.numC (r.take k)) ∧ Below w5.heap.size w5 wr) (fun _ i _ => lb - (intOf i).toNat)
  case atStart => exact ⟨0, by omega, rfl, World.ownsRow_nil _ _ _ _, Below.refl _ _⟩
  case round =>
    obtain ⟨k, hk, rfl, hown, hbw⟩ := hrel
    have hw := hbw.size
    by_cases hp : k < lb
    · obtain ⟨b0, o, rfl, hbl, hc⟩ := N5.out.2 (by omega)
      have hll := N5.out.1
      have hcell : wr.cell? ⟨b0, o + k, none⟩ = some (.int .u16 ((r[k]?.getD 0 : Nat) : Int)) := cell_later hbw (hc k hp) (Nat.le_refl _)
      have hu : r[k]?.getD 0 < 65536 := by rw [List.getElem?_eq_getElem (by omega)]; exact HR.out _ (List.getElem_mem _)
      have htk : r.take (k + 1) = r.take k ++ [r[k]?.getD 0] := by
        rw [List.take_add_one, List.getElem?_eq_getElem (by omega)]; simp
      obtain ⟨u, hud⟩ : ∃ u, u = r[k]?.getD 0 := ⟨_, rfl⟩
      rw [← hud] at hcell hu htk
      have HTK := Veil.mk htk
      have hlti : (k : Int) < (lb : Int) := by omega
      have hk0 : (0 : Int) ≤ (k : Int) := by omega
      have hui : (u : Int) < 65536 := by omega
      have hu0 : (0 : Int) ≤ (u : Int) := by omega
      clear hud htk hc
      go_wp2_with (at_builtin; refine wpList_append_own _ rfl _ _ 43 rfl w5.heap.size 3 i0 (.int .i64 0) 1 8 Tryd.underlying43 hi hz0 hz1 hz2 rfl (by decide) _ _ _ rfl (hown.alloc _) ⟨wr.heap.size, 0, none⟩ 1 1 [_] rfl rfl (cells_new _ _ _) (fun x hx => by simp at hx; rcases hx with rfl; rfl) (by unfold maxLen; omega) (by omega) (by simp; omega) ?_; intro v' w3 hown' hgrow3 hnil3; refine Hid.out ?_)
      have hown3 : w3.ownsRow w5.heap.size 3 1 v' (k + 1) (W.numC (r.take (k + 1))) := by rw [HTK.out, W.numC_append]; exact hown'
      have hbw3 : Below w5.heap.size w5 w3 := Below.grown (hbw.alloc hw _) hgrow3 (by simp; omega) (fun j hj => (hown.lt _ hj).1)
      clear hown' hgrow3 hnil3
      refine Lib.hid ?_
      go_wp2
      go_roundw
      case rel => exact ⟨k + 1, by omega, by go_num, hown3, hbw3⟩
      case measure => simp [intOf]; omega
    · have hlti : ¬ (k : Int) < (lb : Int) := by omega
      have hll := N5.out.1
      have hkl : k = r.length := by omega
      have htk : r.take k = r := List.take_of_length_le (by omega)
      rw [htk, hkl] at hown
      obtain ⟨a2, cap2, rfl, hnm⟩ := W.own_nums hown
      have hS := Veil.mk (W.str_any a2 r.length cap2 r (by omega) HR.out wr hnm)
      obtain ⟨ys, hys⟩ : ∃ v : ByteArray, v = ⟨(r.flatMap W.u2).toArray⟩ := ⟨_, rfl⟩
      have hyz : ys.size ≤ 4000 := by
        rw [hys]
        show (r.flatMap W.u2).toArray.size ≤ _
        rw [List.size_toArray, W.flat_length]
        omega
      have HY : Veil (WV 7 0 ys) := ⟨.inr (.inr (.inr (.inl ⟨rfl, rfl, r, HR.out, by omega, hys⟩)))⟩
      rw [← hys] at hS
      have hB8 := HB5.out.trans (hbw.mono HB5.out.size)
      have HB8 := Veil.mk hB8
      have HT8 := Veil.mk (HT5.out.on hbw)
      have BX8 := Veil.mk (BX.out.on hbw BX.out.lt)
      clear hll hkl htk hnm hys hown hB8 N5 HB5 HT5 BX hbw hw HR
      go_upto_region 12 with (fail)
      go_cut [9] (fun s9 wx => ∃ g : Nat, s9 = .pointer (some ⟨g, 0, none⟩) ∧ Box wx g 27 #[.int .i64 7, .int .i64 0, .string ys] ∧ Below wr.heap.size wr wx)
      case first =>
        go_wp2_with (first | (go_at_call 28; ((with_reducible refine (hS.out).mono ?_); rintro e w2 ⟨rfl, hb2⟩)))
        go_meet
        exact ⟨w2.heap.size, rfl, Box.new _ _ _, hb2.alloc hb2.size _⟩
      case rest =>
      obtain ⟨g9, rfl, by9, hb9⟩ := hcut
      obtain ⟨w9, hw9⟩ : ∃ v, v = wc := ⟨_, rfl⟩
      rw [← hw9] at by9 hb9 ⊢
      clear hw9
      have HB9 := Veil.mk (HB8.out.trans (hb9.mono HB8.out.size))
      have HT9 := Veil.mk (HT8.out.on hb9)
      replace BX8 := Veil.mk (BX8.out.on hb9 BX8.out.lt)
      have BY := Veil.mk by9
      have C1 := Veil.mk (fun wx => text_any x HX.out wx)
      have J1 := Veil.mk (fun wx => binary_join (7, 0, ys) x HY.out HX.out (.inl rfl) wx)
      have J2 := Veil.mk (fun wx => binary_join x (7, 0, ys) HX.out HY.out (.inr rfl) wx)
      have tz := textT_size HX.out
      have E1 : Hid (joinT (7, 0, ys) x = if (textT x).2 = 0 then ((7, 0, ys ++ (textT x).1), 0) else ((0, 0, W.e0), (textT x).2)) := joinT_left rfl
      have E2 : Hid (joinT x (7, 0, ys) = if (textT x).2 = 0 then ((7, 0, (textT x).1 ++ ys), 0) else ((0, 0, W.e0), (textT x).2)) := joinT_right rfl
      obtain ⟨t, ht⟩ : ∃ t, t = textT x := ⟨_, rfl⟩
      obtain ⟨p, hp⟩ : ∃ p, p = joinT (7, 0, ys) x := ⟨_, rfl⟩
      obtain ⟨q, hq⟩ : ∃ p, p = joinT x (7, 0, ys) := ⟨_, rfl⟩
      rw [← ht] at C1 E1 E2 tz
      rw [← hp] at J1 E1
      rw [← hq] at J2 E2
      clear ht hp hq hb9 by9 HB8 HT8 HX HY hS
      obtain ⟨ts, tn⟩ := t
      obtain ⟨⟨pk, pn, ps⟩, pt⟩ := p
      obtain ⟨⟨qk, qn, qs⟩, qt⟩ := q
      obtain ⟨xk, xn, xs⟩ := x
      simp only at C1 J1 J2 E1 E2 tz

      have p0 : w9.cell? ⟨g3, 0, none⟩ = some (.int .i64 xk) := BX8.out.at_ 0
      have p1 : w9.cell? ⟨g3, 1, none⟩ = some (.int .i64 xn) := BX8.out.at_ 1
      have p2 : w9.cell? ⟨g3, 2, none⟩ = some (.string xs) := BX8.out.at_ 2
      have q0 : w9.cell? ⟨g9, 0, none⟩ = some (.int .i64 7) := BY.out.at_ 0
      have q1 : w9.cell? ⟨g9, 1, none⟩ = some (.int .i64 0) := BY.out.at_ 1
      have q2 : w9.cell? ⟨g9, 2, none⟩ = some (.string ys) := BY.out.at_ 2
      go_upto_region 13 with (fail)
      go_cut [10, 11] (fun sa sb wx => sa = .string ts ∧ sb = .int .i64 tn ∧ Below w9.heap.size w9 wx)
      case first =>
        go_wp2_with (first | (go_at_call 23; ((with_reducible refine (C1.out _ HT9.out).mono ?_); rintro e w2 ⟨rfl, hb2⟩)))
        go_meet
        exact ⟨rfl, rfl, hb2⟩
      case rest =>
      obtain ⟨rfl, rfl, hbr⟩ := hcut
      obtain ⟨w13, hw13⟩ : ∃ v, v = wc := ⟨_, rfl⟩
      rw [← hw13] at hbr ⊢
      clear hw13
      replace BX8 := Veil.mk (BX8.out.on hbr BX8.out.lt)
      replace BY := Veil.mk (BY.out.on hbr BY.out.lt)
      have HB13 := Veil.mk (HB9.out.trans (hbr.mono HB9.out.size))
      have HT13 := Veil.mk (HT9.out.on hbr)
      clear HB9 HT9 hbr C1 p0 p1 p2 q0 q1 q2
      have p0 : w13.cell? ⟨g3, 0, none⟩ = some (.int .i64 xk) := BX8.out.at_ 0
      have p1 : w13.cell? ⟨g3, 1, none⟩ = some (.int .i64 xn) := BX8.out.at_ 1
      have p2 : w13.cell? ⟨g3, 2, none⟩ = some (.string xs) := BX8.out.at_ 2
      have q0 : w13.cell? ⟨g9, 0, none⟩ = some (.int .i64 7) := BY.out.at_ 0
      have q1 : w13.cell? ⟨g9, 1, none⟩ = some (.int .i64 0) := BY.out.at_ 1
      have q2 : w13.cell? ⟨g9, 2, none⟩ = some (.string ys) := BY.out.at_ 2
      go_upto_region 14 with (fail)
      go_cut [12, 13] (fun sa sb wx => ∃ g : Nat, sa = .pointer (some ⟨g, 0, none⟩) ∧ sb = .int .i64 pt ∧ Box wx g 27 #[.int .i64 pk, .int .i64 pn, .string ps] ∧ Below w13.heap.size w13 wx)
      case first =>
        go_wp2_with (first | (go_at_call 12; ((with_reducible refine (J1.out _ HT13.out).mono ?_); rintro e w2 ⟨rfl, hb2⟩)))
        go_meet
        exact ⟨w2.heap.size, rfl, rfl, Box.new _ _ _, hb2.alloc hb2.size _⟩
      case rest =>
      obtain ⟨g12, rfl, rfl, bq12, hbr⟩ := hcut
      obtain ⟨w14, hw14⟩ : ∃ v, v = wc := ⟨_, rfl⟩
      rw [← hw14] at hbr bq12 ⊢
      clear hw14
      replace BX8 := Veil.mk (BX8.out.on hbr BX8.out.lt)
      replace BY := Veil.mk (BY.out.on hbr BY.out.lt)
      have Q12 := Veil.mk bq12
      clear bq12
      have HB14 := Veil.mk (HB13.out.trans (hbr.mono HB13.out.size))
      have HT14 := Veil.mk (HT13.out.on hbr)
      clear HB13 HT13 hbr J1 p0 p1 p2 q0 q1 q2
      have p0 : w14.cell? ⟨g3, 0, none⟩ = some (.int .i64 xk) := BX8.out.at_ 0
      have p1 : w14.cell? ⟨g3, 1, none⟩ = some (.int .i64 xn) := BX8.out.at_ 1
      have p2 : w14.cell? ⟨g3, 2, none⟩ = some (.string xs) := BX8.out.at_ 2
      have q0 : w14.cell? ⟨g9, 0, none⟩ = some (.int .i64 7) := BY.out.at_ 0
      have q1 : w14.cell? ⟨g9, 1, none⟩ = some (.int .i64 0) := BY.out.at_ 1
      have q2 : w14.cell? ⟨g9, 2, none⟩ = some (.string ys) := BY.out.at_ 2
      go_upto_region 15 with (fail)
      go_cut [14, 15] (fun sa sb wx => ∃ g : Nat, sa = .pointer (some ⟨g, 0, none⟩) ∧ sb = .int .i64 qt ∧ Box wx g 27 #[.int .i64 qk, .int .i64 qn, .string qs] ∧ Below w14.heap.size w14 wx)
      case first =>
        go_wp2_with (first | (go_at_call 12; ((with_reducible refine (J2.out _ HT14.out).mono ?_); rintro e w2 ⟨rfl, hb2⟩)))
        go_meet
        exact ⟨w2.heap.size, rfl, rfl, Box.new _ _ _, hb2.alloc hb2.size _⟩
      case rest =>
      obtain ⟨g14, rfl, rfl, bq14, hbr⟩ := hcut
      obtain ⟨w15, hw15⟩ : ∃ v, v = wc := ⟨_, rfl⟩
      rw [← hw15] at hbr bq14 ⊢
      clear hw15
      replace BX8 := Veil.mk (BX8.out.on hbr BX8.out.lt)
      replace BY := Veil.mk (BY.out.on hbr BY.out.lt)
      replace Q12 := Veil.mk (Q12.out.on hbr Q12.out.lt)
      have Q14 := Veil.mk bq14
      clear bq14
      have HB15 := Veil.mk (HB14.out.trans (hbr.mono HB14.out.size))
      have HT15 := Veil.mk (HT14.out.on hbr)
      clear HB14 HT14 hbr J2 p0 p1 p2 q0 q1 q2
      have p0 : w15.cell? ⟨g3, 0, none⟩ = some (.int .i64 xk) := BX8.out.at_ 0
      have p1 : w15.cell? ⟨g3, 1, none⟩ = some (.int .i64 xn) := BX8.out.at_ 1
      have p2 : w15.cell? ⟨g3, 2, none⟩ = some (.string xs) := BX8.out.at_ 2
      have q0 : w15.cell? ⟨g9, 0, none⟩ = some (.int .i64 7) := BY.out.at_ 0
      have q1 : w15.cell? ⟨g9, 1, none⟩ = some (.int .i64 0) := BY.out.at_ 1
      have q2 : w15.cell? ⟨g9, 2, none⟩ = some (.string ys) := BY.out.at_ 2
      have m1 : ¬ 9223372036854775807 < ys.size + ts.size := by omega
      have m2 : ¬ 9223372036854775807 < ts.size + ys.size := by omega
      by_cases h0 : tn = 0
      · subst h0
        have e1 := E1.out
        have e2 := E2.out
        rw [if_pos rfl] at e1 e2
        simp only [Prod.mk.injEq] at e1 e2
        obtain ⟨⟨rfl, rfl, rfl⟩, rfl⟩ := e1
        obtain ⟨⟨rfl, rfl, rfl⟩, rfl⟩ := e2
        clear E1 E2 HT15
        have r0 : w15.cell? ⟨g12, 0, none⟩ = some (.int .i64 7) := Q12.out.at_ 0
        have r1 : w15.cell? ⟨g12, 1, none⟩ = some (.int .i64 0) := Q12.out.at_ 1
        have r2 : w15.cell? ⟨g12, 2, none⟩ = some (.string (ys ++ ts)) := Q12.out.at_ 2
        have s0 : w15.cell? ⟨g14, 0, none⟩ = some (.int .i64 7) := Q14.out.at_ 0
        have s1 : w15.cell? ⟨g14, 1, none⟩ = some (.int .i64 0) := Q14.out.at_ 1
        have s2 : w15.cell? ⟨g14, 2, none⟩ = some (.string (ts ++ ys)) := Q14.out.at_ 2
        go_wp2
        go_ret
        exact ⟨rfl, HB15.out⟩
      · have e1 := E1.out
        have e2 := E2.out
        rw [if_neg h0] at e1 e2
        simp only [Prod.mk.injEq] at e1 e2
        obtain ⟨⟨rfl, rfl, rfl⟩, rfl⟩ := e1
        obtain ⟨⟨rfl, rfl, rfl⟩, rfl⟩ := e2
        have h0b : (qt != 0) = true := by simpa using h0
        have h0c : (qt == 0) = false := by simpa using h0
        clear E1 E2 h0 HT15
        go_wp2
        go_ret
        exact ⟨rfl, HB15.out⟩
end Go.Proofs.YtbkgophgclpijaaDoor
