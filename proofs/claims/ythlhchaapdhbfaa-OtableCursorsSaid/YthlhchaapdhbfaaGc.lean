/- OtableCursors: the law's walk. -/
import Derived.Test.YthlhchaapdhbfaaGb
import Derived.Deep.DeepCutAuto
namespace Go.Proofs.Ythlhchaapdhbfaa
open Go Go.RowKit

set_option maxRecDepth 100000 in
theorem ckey_any (n : Int) (w : World) : Calls Try.prog 48 #[.int .i64 n] w fun e w' => e = .returned (.agg #[.int .i64 3, .int .i64 n, .string ⟨#[]⟩]) ∧ Below w.heap.size w w' := by
  have hZ := Box.new w 82 #[.int .i64 0, .int .i64 0, .string ⟨#[]⟩]
  obtain ⟨W, hW⟩ : ∃ W, W = w.alloc (.cells #[.int .i64 0, .int .i64 0, .string ⟨#[]⟩] 82) := ⟨_, rfl⟩
  have hBW : Below w.heap.size w W := by rw [hW]; exact (Below.refl _ _).alloc (Nat.le_refl _) _
  rw [← hW] at hZ
  have z0 : W.cell? ⟨w.heap.size, 0, none⟩ = some (.int .i64 0) := hZ.at_ 0
  have z1 : W.cell? ⟨w.heap.size, 1, none⟩ = some (.int .i64 0) := hZ.at_ 1
  have z2 : W.cell? ⟨w.heap.size, 2, none⟩ = some (.string ⟨#[]⟩) := hZ.at_ 2
  have g0 := hZ.free 0
  have g1 := hZ.free 1
  have g2 := hZ.free 2
  have HW := Veil.mk hW
  clear hW
  go_enter Try.func48, Try.ntmps48
  go_upto_region 1 with (fail)
  rw [← HW.out]
  go_wp2
  have hb := ((hBW.setCell (p := ⟨w.heap.size, 0, none⟩) (Nat.le_refl _) (.int .i64 3)).setCell (p := ⟨w.heap.size, 1, none⟩) (Nat.le_refl _) (.int .i64 n)).setCell (p := ⟨w.heap.size, 2, none⟩) (Nat.le_refl _) (.string ⟨#[]⟩)
  have hZ2 := ((hZ.put 0 (.int .i64 3)).put 1 (.int .i64 n)).put 2 (.string ⟨#[]⟩)
  have y0 := hZ2.at_ 0
  have y1 := hZ2.at_ 1
  have y2 := hZ2.at_ 2
  exact bodyPost_ret (v := .agg #[.int .i64 3, .int .i64 n, .string ⟨#[]⟩]) (by simp [results, Try.results48, go_sem, y0, y1, y2]) rfl ⟨rfl, hb⟩
/-- The first loop. -/
def C1 (B t n : Nat) (w : World) (i : Value) (wr : World) : Prop := ∃ k : Nat, ∃ F, k ≤ n ∧ i = .int .i64 (k : Int) ∧ Tf B t F (eG noG 0 k, []) wr ∧ Below B w wr
/-- What the second loop keeps: cursors cs, each with its place. -/
def C2 (B t n j : Nat) (w : World) (vc va : Value) (wr : World) : Prop := ∃ F, ∃ cs : List (Nat × Nat), cs.length = j ∧ (∀ x ∈ cs, x.2 ≤ n) ∧ Tf B t F (eG noG 0 n, cs.map fun x => (x.1, eG noG x.2 (n - x.2))) wr ∧ RW B F cs vc va wr ∧ Below B w wr
/-- .. while a new cursor goes on. -/
def C3 (B t n c i : Nat) (cs : List (Nat × Nat)) (w : World) (vc va : Value) (wr : World) : Prop := ∃ F, Tf B t F (eG noG 0 n, (cs ++ [(c, i)]).map fun x => (x.1, eG noG x.2 (n - x.2))) wr ∧ RW B F cs vc va wr ∧ Below B w wr

/-- The cursors, with what each has left when the keys of G are deleted. -/
def curL (G : Nat → Bool) (n : Nat) (cs : List (Nat × Nat)) : List (Nat × List En) := cs.map fun x => (x.1, eG G x.2 (n - x.2))
/-- What the deletions keep. -/
def C4 (B t n j : Nat) (w : World) (vc va : Value) (G : Nat → Bool) (wr : World) : Prop := ∃ F, ∃ cs : List (Nat × Nat), cs.length = j ∧ (∀ x ∈ cs, x.2 ≤ n) ∧ Tf B t F (eG G 0 n, curL G n cs) wr ∧ RW B F cs vc va wr ∧ Below B w wr
/-- What the last loop keeps: the cursors from the i-th on are the table's. -/
def C6 (B t n : Nat) (cs : List (Nat × Nat)) (w : World) (vc va : Value) (G : Nat → Bool) (i : Nat) (wr : World) : Prop := ∃ F, ∃ L : List (Nat × List En), Tf B t F (eG G 0 n, L) wr ∧ L.Perm (curL G n (cs.drop i)) ∧ RW B F cs vc va wr ∧ Below B w wr
/-- .. while the i-th goes on from k. -/
def C7 (B t n c k : Nat) (cs : List (Nat × Nat)) (i : Nat) (w : World) (vc va : Value) (G : Nat → Bool) (wr : World) : Prop := ∃ F, ∃ L : List (Nat × List En), Tf B t F (eG G 0 n, L) wr ∧ L.Perm ((c, eG G k (n - k)) :: curL G n (cs.drop (i + 1))) ∧ RW B F cs vc va wr ∧ Below B w wr
theorem C7.on {B t n c k : Nat} {cs : List (Nat × Nat)} {i : Nat} {w : World} {vc va : Value} {G : Nat → Bool} {wr w1 : World} (h : C7 B t n c k cs i w vc va G wr) (hb1 : Below wr.heap.size wr w1) : C7 B t n c k cs i w vc va G w1 := by
  obtain ⟨F, L, hT, hP, hR, hb⟩ := h
  exact ⟨F, L, hT.on hb1, hP, hR.on hb1, hb.trans (hb1.mono hT.le)⟩
theorem curL_del (G : Nat → Bool) (n k : Nat) (cs : List (Nat × Nat)) : delO (eG G 0 n, curL G n cs) (keyT (kN (k : Int))) = (eG (setG G k) 0 n, curL (setG G k) n cs) := by
  unfold delO curL
  rw [show keyT (kN (k : Int)) = kN (k : Int) by simp [keyT], eG_drop, List.map_map]
  congr 1
  apply List.map_congr_left
  intro x _
  simp only [Function.comp, eG_drop]
theorem litI (k : Nat) (h : k < 100) : (Lit.int .i64 (k : Int)).wf = true := WalkArith.wf_i64 ⟨by omega, by omega⟩
theorem GS.put {w w1 : World} {b m n k : Nat} {G : Nat → Bool} {D : DataW Unit} (h1 : w.ownsMap Try.prog 3 (plainElem Try.prog 4) b m D) (h2 : ∀ i : Nat, ∀ z, D.atKey (.int .i64 (i : Int)) z = if G i then .lit (.bool true) else z) (h3 : Maps.size D = cntG G n) (hk : k < n)
    (hown : w1.ownsMap Try.prog 3 (plainElem Try.prog 4) b (m + 1) (D.put (.int .i64 (k : Int)) (.lit (.bool true)))) : GS w1 b (m + 1) (setG G k) n := by
  refine ⟨_, hown, fun i z => ?_, ?_⟩
  · unfold setG
    by_cases e : i = k
    · subst e
      rw [if_pos rfl, Maps.atKey_put_same h1.isMap (by simp [WideAt.IsKeyLit])]
      rfl
    · rw [if_neg e, Maps.atKey_put_other (fun e2 => by injection e2 with _ e2; omega)]
      exact h2 i z
  · rw [Maps.size_put (h1.tidy Try.lawI), cntG_set G k n hk]
    cases hg : G k with
    | true =>
      rw [Maps.has_true_of_atKey (y := .lit (.bool true)) (fun z => by rw [h2, hg]; rfl)]
      simp [h3]
    | false =>
      rw [Maps.has_false_of_atKey (fun z => by rw [h2, hg]; rfl)]
      simp [h3]
theorem C4.touch {B t n j : Nat} {w : World} {vc va : Value} {G : Nat → Bool} {wr w1 : World} {b m : Nat} (h : C4 B t n j w vc va G wr) (hg : GS wr b m G n) (hB : B ≤ b) (ht : Touch (fun k => k = b) wr w1) : C4 B t n j w vc va G w1 := by
  obtain ⟨F, cs, e, hle, hT, hR, hb⟩ := h
  have hlab : ∀ k T, Lab wr k T → ¬ k = b := fun k T hl e => by subst e; exact hg.no_lab hl
  exact ⟨F, cs, e, hle, hT.touch ht (fun k hk e => hg.not_own hT (by rw [← e]; exact hk)), ⟨own_touch hR.rc ht (fun k hk => hlab k _ (own_lab hR.rc k hk)), own_touch hR.ra ht (fun k hk => hlab k _ (own_lab hR.ra k hk)), hR.ac, hR.aa⟩, hb.trans (ht.below hT.le (fun k hk => by rw [hk]; exact hB))⟩
theorem C4.on {B t n j : Nat} {w : World} {vc va : Value} {G : Nat → Bool} {wr w1 : World} (h : C4 B t n j w vc va G wr) (hb1 : Below wr.heap.size wr w1) : C4 B t n j w vc va G w1 := by
  obtain ⟨F, cs, e, hle, hT, hR, hb⟩ := h
  exact ⟨F, cs, e, hle, hT.on hb1, hR.on hb1, hb.trans (hb1.mono hT.le)⟩
theorem below_map (w : World) : Below w.heap.size w (w.alloc (.map #[] 0)) := (Below.refl _ _).alloc (Nat.le_refl _) _
theorem snoc_at (cs : List (Nat × Nat)) (c i n : Nat) (h : i < n) : ((cs ++ [(c, i)]).map fun x => (x.1, eG noG x.2 (n - x.2)))[cs.length]? = some (c, eC i :: eG noG (i + 1) (n - (i + 1))) := by
  rw [List.map_append, List.getElem?_append_right (by simp)]
  simp only [List.length_map, Nat.sub_self, List.map_cons, List.map_nil, List.getElem?_cons_zero]
  rw [show n - i = n - (i + 1) + 1 by omega, eG_take noG i _ rfl]
theorem snoc_set (cs : List (Nat × Nat)) (c i n : Nat) : ((cs ++ [(c, i)]).map fun x => (x.1, eG noG x.2 (n - x.2))).set cs.length (c, eG noG (i + 1) (n - (i + 1))) = (cs ++ [(c, i + 1)]).map fun x => (x.1, eG noG x.2 (n - x.2)) := by
  rw [List.map_append, List.set_append_right _ _ (by simp), List.map_append]
  simp
set_option maxHeartbeats 1000000 in
set_option maxRecDepth 100000 in
theorem cursors_any (n0 : Int) (a : Option Addr) (la ca : Nat) (ls : List Int) (d : Option Addr) (ld cd : Nat) (lr : List Int) (w : World) (h1 : Ints w a la ls) (h2 : Ints w d ld lr) :
    Calls Try.prog 12 #[.int .i64 n0, .slice a la ca, .slice d ld cd] w fun e w' => e = .returned (.bool true) ∧ Below w.heap.size w w' := by
  obtain ⟨r, hr, hx1, hx2, hx3, hx4⟩ := rem_nat n0 60 (by omega)
  rw [show ((60 : Nat) : Int) = 60 from rfl] at hx1 hx2 hx3 hx4
  obtain ⟨n, hn⟩ : ∃ n, n = r + 1 := ⟨_, rfl⟩
  have hne : (r : Int) + 1 = (n : Int) := by omega
  have hn1 : 1 ≤ n := by omega
  have hn2 : n ≤ 60 := by omega
  have HNE := Veil.mk hne
  have HF := Veil.mk fit_any
  have HK := Veil.mk ckey_any
  have H1 := Veil.mk h1
  have H2 := Veil.mk h2
  clear hn hne h1 h2
  by_cases hlen : la ≤ 20 ∧ ld ≤ 200
  · obtain ⟨hl1, hl2⟩ := hlen
    have hl1' : ¬ (20 : Int) < (la : Int) := by omega
    have hl2' : ¬ (200 : Int) < (ld : Int) := by omega
    go_enter Try.func12, Try.ntmps12
    go_upto_region 3 with (first | (go_at_call 32; ((with_reducible refine (HF.out _).mono ?_); rintro e w1 ⟨rfl, hb1⟩)))
    go_upto_region 4 with (fail)
    rw [HNE.out]
    clear hx1 hx2 hx3 hx4 hr
    have hB1 := hb1.size
    go_upto_region 7 with (first | (go_at_call 34; ((with_reducible refine (new_tf (B := w.heap.size) hB1).mono ?_); rintro e w2 ⟨rfl, hTf, hb2⟩)))
    have hbw := hb1.trans (hb2.mono hB1)
    generalize w1.heap.size = t at hTf ⊢
    generalize (fun k => k = t) = F0 at hTf
    clear hb1 hb2 hl1' hl2' hB1
    go_wp2
    go_loopw [47] (fun i wr => C1 w.heap.size t n w i wr) (fun i _ => n - (intOf i).toNat)
    case atStart => exact ⟨0, F0, Nat.zero_le _, rfl, hTf, hbw⟩
    case round =>
      obtain ⟨k, F1, hk, rfl, hT, hb⟩ := hrel
      clear hTf hbw
      by_cases hlt : k < n
      · have hl : (eG noG 0 k).length < 40000 := by have := eG_le noG 0 k; omega
        have HP := Veil.mk (fun w' (h : Below wr.heap.size wr w') => put_tf (hT.on h) hl (Nat.zero_lt_succ _) (kN (k : Int)) (kN (-(k : Int))) 0 (Nat.zero_le _))
        have HT := Veil.mk hT
        have hlt' : (k : Int) < (n : Int) := by omega
        have s1 : IntKind.i64.wrap (-(k : Int)) = -(k : Int) := IntWalk.i64_in _ (by omega)
        have HB := Veil.mk hb
        have hch := Below.refl wr.heap.size wr
        clear hT hl hb
        go_upto_region 12 with (first | (go_at_call 48; ((with_reducible refine (HK.out _ _).mono ?_); rintro e wk ⟨rfl, hbk⟩; replace hch := blw2 hch hbk; clear hbk)) | (go_at_call 39; ((with_reducible refine (HP.out _ hch).mono ?_); rintro e w4 ⟨rfl, F2, hT2, hFs2⟩)))
        have HR : Veil (C1 w.heap.size t n w (.int .i64 ((k : Int) + 1)) w4) := ⟨⟨k + 1, F2, by omega, by go_num, by rw [eG_put] at hT2; exact hT2, (HB.out.trans (hch.mono HB.out.size)).trans (hFs2.below (HT.out.on hch))⟩⟩
        clear hT2 hFs2 hch s1
        go_wp2
        go_roundw
        case rel => exact HR.out
        case measure => simp [intOf]; omega
      · have hlt' : ¬ (k : Int) < (n : Int) := by omega
        obtain rfl : n = k := by omega
        clear hlt hlt' hk
        have HE := Veil.mk (show C2 w.heap.size t n 0 w noRow noRow wr from ⟨F1, [], rfl, by simp, hT, RW.nil _ _ _, hb⟩)
        clear hT hb
        obtain ⟨i0, hi, hz0, hz1, hz2⟩ := info_parts Try.infoC
        obtain ⟨i1, ki, kz0, kz1, kz2⟩ := info_parts Try.infoI
        go_upto_region 16 with (fail)
        go_loopw [10, 11, 62] (fun vc va i wr => ∃ j : Nat, j ≤ la ∧ i = .int .i64 (j : Int) ∧ C2 w.heap.size t n j w vc va wr) (fun _ _ i _ => la - (intOf i).toNat)
        case atStart => exact ⟨0, Nat.zero_le _, rfl, HE.out⟩
        case round =>
          obtain ⟨j, hj, rfl, F2, cs, hcs, hle, hT, hR, hb⟩ := hrel
          clear HE
          by_cases hlt : j < la
          · have hlt' : (j : Int) < (la : Int) := by omega
            have hj0 : (0 : Int) ≤ (j : Int) := by omega
            obtain ⟨b, o, rfl, hbl, hcell⟩ := H1.out.2 (by omega)
            have c0 : wr.cell? ⟨b, o + j, none⟩ = some (.int .i64 (ls[j]?.getD 0)) := (hb.cell (p := ⟨b, o + j, none⟩) hbl).trans (hcell j hlt)
            clear hcell
            generalize ls[j]?.getD 0 = s at c0
            obtain ⟨q, hq, hx1, hx2, hx3, hx4⟩ := rem_nat s n (by omega)
            go_upto_region 18 with (fail)
            have hlc : (cs.map fun x => (x.1, eG noG x.2 (n - x.2))).length < 100000 := by rw [List.length_map]; omega
            have HC := Veil.mk (cursor_tf hT hlc)
            have hlc : (cs.map fun x => (x.1, eG noG x.2 (n - x.2))).length < 100000 := by rw [List.length_map]; omega
            have HC := Veil.mk (cursor_tf hT hlc)
            have HT := Veil.mk hT
            have HR := Veil.mk hR
            have HB := Veil.mk hb
            have HCS := Veil.mk hcs
            have HLE := Veil.mk hle
            clear hT hR hb hcs hle hlc c0
            go_upto_region 19 with (first | (go_at_call 38; ((with_reducible refine HC.out.mono ?_); rintro e w3 ⟨rfl, F3, hT3, hFs3⟩)))
            have HE : Veil (C3 w.heap.size t n wr.heap.size 0 cs w u10 u11 w3) := ⟨⟨F3, by rw [List.map_append]; exact hT3, HR.out.fs hFs3, HB.out.trans (hFs3.below HT.out)⟩⟩
            clear hT3 hFs3 HC HT HR HB
            generalize wr.heap.size = c at HE ⊢
            go_upto_region 20 with (fail)
            clear hx1 hx2 hx3 hx4
            go_wp2
            go_loopw [76] (fun i wr => ∃ k : Nat, k ≤ q ∧ i = .int .i64 (k : Int) ∧ C3 w.heap.size t n c k cs w u10 u11 wr) (fun i _ => q - (intOf i).toNat)
            case atStart => exact ⟨0, Nat.zero_le _, rfl, HE.out⟩
            case round =>
              obtain ⟨k, hk, rfl, F4, hT, hR, hb⟩ := hrel
              clear HE
              by_cases hkq : k < q
              · have hkq' : (k : Int) < (q : Int) := by omega
                have HN := Veil.mk (next_tf hT (by have := eG_le noG 0 n; show (eG noG 0 n).length < _; omega) cs.length c (eC k) (eG noG (k + 1) (n - (k + 1))) (snoc_at cs c k n (by omega)))
                have HT := Veil.mk hT
                have HR := Veil.mk hR
                have HB := Veil.mk hb
                clear hT hR hb
                go_upto_region 23 with (first | (go_at_call 42; ((with_reducible refine HN.out.mono ?_); rintro e w4 ⟨rfl, hT4, ht4⟩)))
                have HE : Veil (C3 w.heap.size t n c (k + 1) cs w u10 u11 w4) := ⟨⟨F4, by rw [← snoc_set]; exact hT4, HR.out.touch ht4, HB.out.trans (ht4.below HT.out.le (fun k hk => (HT.out.lt k hk).1))⟩⟩
                clear hT4 ht4 HN
                go_wp2
                go_roundw
                case rel => exact ⟨k + 1, by omega, by go_num, HE.out⟩
                case measure => simp [intOf]; omega
              · have hkq' : ¬ (k : Int) < (q : Int) := by omega
                obtain rfl : q = k := by omega
                obtain ⟨cc, cl, rfl, hcl, hgc, hmc⟩ := slice_own hR.rc
                obtain ⟨ac, al, rfl, hal, hga, hma⟩ := slice_own hR.ra
                have hcl20 : cs.length ≤ 20 := by rw [HCS.out]; omega
                have HT := Veil.mk hT
                have HR := Veil.mk hR
                have HB := Veil.mk hb
                have hrc := hR.rc
                have hBs := hb.size
                clear hT hR hb hgc hga hmc hma
                go_upto_region 24 with (fail)
                go_wp2_with (at_builtin; refine wpList_append_lies _ rfl _ _ 71 rfl w.heap.size 88 i0 (.pointer none) 1 8 Try.underlying71 hi hz0 hz1 hz2 rfl (by decide) _ _ _ rfl (hrc.alloc _) ⟨wr.heap.size, 0, none⟩ 1 1 [.pointer (some ⟨c, 0, none⟩)] rfl rfl (news_at _ _ rfl _ _) (by simp [Value.oneCell']) (by decide) (by unfold maxLen; omega) (by omega) (by simp; omega) _ rfl ?_; intro g cap' w3 hown' hgrow3 hblk hg3; refine Hid.out ?_)
                have ht : Touch (fun k => (Value.slice cc cs.length cl).ownBlock = some k) wr w3 := (Touch.of_below ((Below.refl wr.heap.size wr).alloc (Nat.le_refl _) (.cells #[.pointer (some ⟨c, 0, none⟩)] 88))).trans (Touch.of_grown hgrow3 (fun k hk => hk))
                have hT3 := HT.out.touch ht (fun k hk e => HR.out.ac k e hk)
                have hra3 := own_touch HR.out.ra ht (fun k hk e => ((own_lab HR.out.ra k hk).ne (own_lab HR.out.rc k e) (by decide)) rfl)
                have hac3 : ∀ k, (Value.slice (some ⟨g, 0, none⟩) (cs.length + 1) cap').ownBlock = some k → ¬ F4 k := fun k hk hf => by
                  cases hk
                  rcases hblk with h | h
                  · exact HR.out.ac g h hf
                  · have := (HT.out.lt g hf).2
                    rw [h, World.size_alloc] at this
                    omega
                have hb3 := HB.out.trans (ht.below HT.out.le (fun k hk => (own_lt HR.out.rc k hk).1))
                have hown3 : w3.ownsRow w.heap.size 88 1 (.slice (some ⟨g, 0, none⟩) (cs.length + 1) cap') (cs.length + 1) (curV (cs ++ [(c, q)])) := by
                  rw [show curV (cs ++ [(c, q)]) = curV cs ++ [.pointer (some ⟨c, 0, none⟩)] by simp [curV]]
                  exact hown'
                have HT3 := Veil.mk hT3
                have HOC := Veil.mk hown3
                have HAC := Veil.mk hac3
                have HB3 := Veil.mk hb3
                have hBs3 := hb3.size
                clear hT3 hown3 hac3 hb3 hown' hgrow3 hblk hg3 ht hrc hBs HT HB
                refine Lib.hid ?_
                go_wp2_with (at_builtin; refine wpList_append_lies _ rfl _ _ 22 rfl w.heap.size 3 i1 (.int .i64 0) 1 8 Try.underlying22 ki kz0 kz1 kz2 rfl (by decide) _ _ _ rfl (hra3.alloc _) ⟨w3.heap.size, 0, none⟩ 1 1 [.int .i64 (q : Int)] rfl rfl (news_at _ _ rfl _ _) (by simp [Value.oneCell']) (by decide) (by unfold maxLen; omega) (by omega) (by simp; omega) _ rfl ?_; intro g5 cap5 w5 hown' hgrow3 hblk hg3; refine Hid.out ?_)
                have ht : Touch (fun k => (Value.slice ac cs.length al).ownBlock = some k) w3 w5 := (Touch.of_below ((Below.refl w3.heap.size w3).alloc (Nat.le_refl _) (.cells #[.int .i64 (q : Int)] 3))).trans (Touch.of_grown hgrow3 (fun k hk => hk))
                have hT5 := HT3.out.touch ht (fun k hk e => HR.out.aa k e hk)
                have hrc5 := own_touch HOC.out ht (fun k hk e => ((own_lab HOC.out k hk).ne (own_lab hra3 k e) (by decide)) rfl)
                have haa5 : ∀ k, (Value.slice (some ⟨g5, 0, none⟩) (cs.length + 1) cap5).ownBlock = some k → ¬ F4 k := fun k hk hf => by
                  cases hk
                  rcases hblk with h | h
                  · exact HR.out.aa g5 h hf
                  · have := (HT3.out.lt g5 hf).2
                    rw [h, World.size_alloc] at this
                    omega
                have hb5 := HB3.out.trans (ht.below HT3.out.le (fun k hk => (own_lt hra3 k hk).1))
                have hown5 : w5.ownsRow w.heap.size 3 1 (.slice (some ⟨g5, 0, none⟩) (cs.length + 1) cap5) (cs.length + 1) (atV (cs ++ [(c, q)])) := by
                  rw [show atV (cs ++ [(c, q)]) = atV cs ++ [.int .i64 (q : Int)] by simp [atV]]
                  exact hown'
                have HE : Veil (C2 w.heap.size t n (j + 1) w (.slice (some ⟨g, 0, none⟩) (cs.length + 1) cap') (.slice (some ⟨g5, 0, none⟩) (cs.length + 1) cap5) w5) := ⟨⟨F4, cs ++ [(c, q)], by simp [HCS.out], fun x hx => by
                  rcases List.mem_append.1 hx with h | h
                  · exact HLE.out x h
                  · cases List.mem_singleton.1 h
                    exact Nat.le_of_lt hq, hT5, ⟨by rw [List.length_append]; exact hrc5, by rw [List.length_append]; exact hown5, HAC.out, haa5⟩, hb5⟩⟩
                clear hT5 hrc5 haa5 hb5 hown5 hown' hgrow3 hblk hg3 ht hra3 hBs3 HT3 HOC HAC HB3 HR
                refine Lib.hid ?_
                go_wp2
                go_roundw
                case rel => exact ⟨j + 1, by omega, by go_num, HE.out⟩
                case measure => simp [intOf]; omega
          · have hlt' : ¬ (j : Int) < (la : Int) := by omega
            obtain rfl : la = j := by omega
            have HE := Veil.mk (show C4 w.heap.size t n la w u10 u11 noG wr from ⟨F2, cs, hcs, hle, hT, hR, hb⟩)
            clear hT hR hb hcs hle
            have hmm := @run_makeMap Try.prog
            go_upto_region 27 with (fail)
            have HC := Veil.mk (HE.out.on (below_map wr))
            have HG := Veil.mk (GS.made wr n)
            have hbm : w.heap.size ≤ wr.heap.size := by
              obtain ⟨_, _, _, _, hT, _⟩ := HE.out
              exact hT.le
            generalize wr.heap.size = bm at HG hbm ⊢
            generalize wr.alloc (.map #[] 0) = wm at HC HG ⊢
            clear hmm HE
            go_upto_region 28 with (fail)
            go_loopw [93] (fun i wr => ∃ j : Nat, ∃ G, j ≤ ld ∧ i = .int .i64 (j : Int) ∧ C4 w.heap.size t n la w u10 u11 G wr ∧ GS wr bm j G n) (fun i _ => ld - (intOf i).toNat)
            case atStart => exact ⟨0, noG, Nat.zero_le _, rfl, HC.out, HG.out⟩
            case round =>
              obtain ⟨j, G, hj, rfl, hC, hG⟩ := hrel
              clear HC HG
              by_cases hlt : j < ld
              · have hlt' : (j : Int) < (ld : Int) := by omega
                have hj0 : (0 : Int) ≤ (j : Int) := by omega
                obtain ⟨b, o, rfl, hbl, hcell⟩ := H2.out.2 (by omega)
                obtain ⟨F2, cs, hcs, hle, hT, hR, hb⟩ := id hC
                have c0 : wr.cell? ⟨b, o + j, none⟩ = some (.int .i64 (lr[j]?.getD 0)) := (hb.cell (p := ⟨b, o + j, none⟩) hbl).trans (hcell j hlt)
                clear hcell hT hR hb hcs hle
                generalize lr[j]?.getD 0 = s at c0
                obtain ⟨q, hq, hx1, hx2, hx3, hx4⟩ := rem_nat s n (by omega)
                have HC := Veil.mk hC
                have HG := Veil.mk hG
                obtain ⟨D, hown, hat, hsz⟩ := id hG
                have HAT := Veil.mk hat
                have HSZ := Veil.mk hsz
                have HOW := Veil.mk hown
                clear hC hG hat hsz
                go_upto_region 31 with (fail)
                clear hx1 hx2 hx3 hx4 c0
                have hkey := Maps.keyOf_int_mk (P := Try.prog) Try.underlying3 (litI q (by omega))
                go_upto_region 32 with (at_mapUpdate; refine wpList_mapUpdate_own _ rfl _ _ _ 100 rfl 3 4 Try.lawI Try.underlying100 _ bm j _ rfl hown (by unfold maxLen; omega) _ _ _ rfl rfl hkey _ [] (plainElem_bool Try.underlying4 true) ?_; intro w1 hown1 hgrow1)
                have hC1 := HC.out.touch HG.out hbm (Touch.of_grown hgrow1 (fun k hk => by cases hk; rfl))
                have HG1 := Veil.mk (GS.put HOW.out HAT.out HSZ.out hq hown1)
                clear hown hown1 hgrow1 hkey HAT HSZ HOW HC HG
                obtain ⟨F2, cs, hcs, hle, hT, hR, hb⟩ := hC1
                have hl : (eG G 0 n).length < 40000 := by have := eG_le G 0 n; omega
                have hl2 : (curL G n cs).length < 100000 := by unfold curL; rw [List.length_map]; omega
                have HD := Veil.mk (fun w' (h : Below w1.heap.size w1 w') => del_tf (hT.on h) hl hl2 (kN (q : Int)) (Nat.zero_le _))
                have hch := Below.refl w1.heap.size w1
                have HT := Veil.mk hT
                have HR := Veil.mk hR
                have HB := Veil.mk hb
                have HCS := Veil.mk hcs
                have HLE := Veil.mk hle
                clear hl hl2 hT hR hb hcs hle
                go_frame
                go_upto_region 33 with (first | (go_at_call 48; ((with_reducible refine (HK.out _ _).mono ?_); rintro e wk ⟨rfl, hbk⟩; replace hch := blw2 hch hbk; clear hbk)) | (go_at_call 40; ((with_reducible refine (HD.out _ hch).mono ?_); rintro e w4 ⟨rr, rfl, hrr, F3, hT3, hFs3⟩)))
                have HE : Veil (C4 w.heap.size t n la w u10 u11 (setG G q) w4 ∧ GS w4 bm (j + 1) (setG G q) n) := ⟨⟨F3, cs, HCS.out, HLE.out, by rw [← curL_del]; exact hT3, (HR.out.on hch).fs hFs3, (HB.out.trans (hch.mono HB.out.size)).trans (hFs3.below (HT.out.on hch))⟩, (HG1.out.on hch).touch hFs3.touch ((HG1.out.on hch).not_own (HT.out.on hch))⟩
                clear hrr hT3 hFs3 hch HD HT HR HB HCS HLE HG1
                go_wp2
                go_roundw
                case rel => exact ⟨j + 1, setG G q, by omega, by go_num, HE.out.1, HE.out.2⟩
                case measure => simp [intOf]; omega
              · have hlt' : ¬ (j : Int) < (ld : Int) := by omega
                obtain rfl : ld = j := by omega
                obtain ⟨F2, cs, hcs, hle, hT, hR, hb⟩ := hC
                have HE := Veil.mk (show C6 w.heap.size t n cs w u10 u11 G 0 wr from ⟨F2, curL G n cs, hT, List.Perm.refl _, hR, hb⟩)
                have HG := Veil.mk hG
                obtain ⟨cc, cl, rfl, hcl, hgc, hmc⟩ := slice_own hR.rc
                obtain ⟨ac, al, rfl, hal, hga, hma⟩ := slice_own hR.ra
                have HCS := Veil.mk hcs
                have HLE := Veil.mk hle
                clear hT hR hb hcs hle hG hmc hma
                go_upto_region 35 with (fail)
                rw [HCS.out]
                go_loopw [114] (fun x wr => ∃ i : Nat, i ≤ la ∧ x = .int .i64 (i : Int) ∧ C6 w.heap.size t n cs w (.slice cc cs.length cl) (.slice ac cs.length al) G i wr ∧ GS wr bm ld G n) (fun x _ => la - (intOf x).toNat)
                case atStart => exact ⟨0, Nat.zero_le _, rfl, HE.out, HG.out⟩
                case round =>
                  obtain ⟨i, hi2, rfl, ⟨F3, L, hT, hP, hR, hb⟩, hG⟩ := hrel
                  clear HE HG
                  by_cases hlt : i < la
                  · have hlt' : (i : Int) < (la : Int) := by omega
                    have hi0 : (0 : Int) ≤ (i : Int) := by omega
                    obtain ⟨gc, rfl⟩ := hgc (by rw [HCS.out]; omega)
                    obtain ⟨ga, rfl⟩ := hga (by rw [HCS.out]; omega)
                    obtain ⟨⟨c, p⟩, hci⟩ : ∃ x, cs[i]? = some x := ⟨_, List.getElem?_eq_getElem (by rw [HCS.out]; exact hlt)⟩
                    have hpn : p ≤ n := HLE.out (c, p) (List.mem_of_getElem? hci)
                    have x0 : wr.cell? ⟨ga, i, none⟩ = some (.int .i64 (p : Int)) := by
                      have := hR.ra.cells (g := ga) rfl i (.int .i64 (p : Int)) (by unfold atV; rw [List.getElem?_map, hci]; rfl)
                      rwa [add_off] at this
                    have HCI := Veil.mk hci
                    have HE := Veil.mk (show C7 w.heap.size t n c p cs i w (.slice (some ⟨gc, 0, none⟩) cs.length cl) (.slice (some ⟨ga, 0, none⟩) cs.length al) G wr from ⟨F3, L, hT, by
                      refine hP.trans ?_
                      rw [List.drop_eq_getElem_cons (by rw [HCS.out]; exact hlt)]
                      have : cs[i]'(by rw [HCS.out]; exact hlt) = (c, p) := by
                        have h := List.getElem?_eq_getElem (l := cs) (i := i) (by rw [HCS.out]; exact hlt)
                        rw [HCI.out] at h
                        injection h with h
                        exact h.symm
                      rw [this]
                      exact List.Perm.refl _, hR, hb⟩)
                    have HG := Veil.mk hG
                    clear hT hP hR hb hG hci
                    go_upto_region 38 with (fail)
                    clear x0
                    go_loopw [21] (fun x wr => ∃ k : Nat, k ≤ n ∧ x = .int .i64 (k : Int) ∧ C7 w.heap.size t n c k cs i w (.slice (some ⟨gc, 0, none⟩) cs.length cl) (.slice (some ⟨ga, 0, none⟩) cs.length al) G wr ∧ GS wr bm ld G n) (fun x _ => n - (intOf x).toNat)
                    case atStart => exact ⟨p, hpn, rfl, HE.out, HG.out⟩
                    case round =>
                      obtain ⟨k, hk, rfl, ⟨F4, L4, hT, hP, hR, hb⟩, hG⟩ := hrel
                      clear HE HG
                      by_cases hkn : k < n
                      · have hkn' : (k : Int) < (n : Int) := by omega
                        have hkey := Maps.keyOf_int_mk (P := Try.prog) Try.underlying3 (litI k (by omega))
                        obtain ⟨D, hown, hat, hsz⟩ := id hG
                        have hatk := hat k (.lit (.bool false))
                        have HATK := Veil.mk hatk
                        have HG := Veil.mk hG
                        have HT := Veil.mk hT
                        have HP := Veil.mk hP
                        have HR := Veil.mk hR
                        have HB := Veil.mk hb
                        clear hat hsz hatk hT hP hR hb hG
                        rcases hgk : G k with _ | _
                        · have HGK := Veil.mk hgk
                          clear hgk
                          go_upto_region 41 with (at_lookup; refine wpList_lookup_own_bool _ rfl _ _ 100 rfl 3 4 Try.lawI Try.underlying100 Try.underlying4 (Try.zeroB _) bm ld D rfl hown _ _ rfl hkey ?_; intro cc2 hcc2; obtain rfl : cc2 = false := (by have := hcc2.symm.trans HATK.out; rw [HGK.out] at this; simpa using this))
                          go_frame
                          have hmem : (c, eC k :: eG G (k + 1) (n - (k + 1))) ∈ L4 := HP.out.symm.subset (by
                            rw [show n - k = n - (k + 1) + 1 by omega, eG_take G k _ HGK.out]
                            exact List.mem_cons_self)
                          obtain ⟨ix, hix⟩ := List.mem_iff_getElem?.1 hmem
                          have HIX := Veil.mk hix
                          have HN := Veil.mk (next_tf HT.out (by have := eG_le G 0 n; show (eG G 0 n).length < _; omega) ix c (eC k) (eG G (k + 1) (n - (k + 1))) hix)
                          have x0 : wr.cell? ⟨gc, i, none⟩ = some (.pointer (some ⟨c, 0, none⟩)) := by
                            have := HR.out.rc.cells (g := gc) rfl i (.pointer (some ⟨c, 0, none⟩)) (by unfold curV; rw [List.getElem?_map, HCI.out]; rfl)
                            rwa [add_off] at this
                          have i1' : (i : Int) < (cs.length : Int) := by rw [HCS.out]; omega
                          clear hown hkey hmem hix
                          go_upto_region 42 with (first | (go_at_call 42; ((with_reducible refine HN.out.mono ?_); rintro e w5 ⟨rfl, hT5, ht5⟩)))
                          have bA := two_box w5 (#[.int .i64 (eC k).1.1, .int .i64 (eC k).1.2.1, .string (eC k).1.2.2]) (#[.int .i64 (eC k).2.1.1, .int .i64 (eC k).2.1.2.1, .string (eC k).2.1.2.2])
                          have bA2 : Box ((w5.alloc (.cells #[.int .i64 (eC k).1.1, .int .i64 (eC k).1.2.1, .string (eC k).1.2.2] 82)).alloc (.cells #[.int .i64 (eC k).2.1.1, .int .i64 (eC k).2.1.2.1, .string (eC k).2.1.2.2] 82)) (w5.heap.size + 1) 82 #[.int .i64 (eC k).2.1.1, .int .i64 (eC k).2.1.2.1, .string (eC k).2.1.2.2] := by
                            have := Box.new (w5.alloc (.cells #[.int .i64 (eC k).1.1, .int .i64 (eC k).1.2.1, .string (eC k).1.2.2] 82)) 82 #[.int .i64 (eC k).2.1.1, .int .i64 (eC k).2.1.2.1, .string (eC k).2.1.2.2]
                            rwa [World.size_alloc] at this
                          have lA0 := two_below w5 (#[.int .i64 (eC k).1.1, .int .i64 (eC k).1.2.1, .string (eC k).1.2.2]) (#[.int .i64 (eC k).2.1.1, .int .i64 (eC k).2.1.2.1, .string (eC k).2.1.2.2])
                          have hC7 : C7 w.heap.size t n c (k + 1) cs i w (.slice (some ⟨gc, 0, none⟩) cs.length cl) (.slice (some ⟨ga, 0, none⟩) cs.length al) G w5 := ⟨F4, _, hT5, by
                            have hp := HP.out
                            rw [show n - k = n - (k + 1) + 1 by omega, eG_take G k _ HGK.out] at hp
                            exact perm_set hp HIX.out, HR.out.touch ht5, HB.out.trans (ht5.below HT.out.le (fun k hk => (HT.out.lt k hk).1))⟩
                          have hG5 := HG.out.touch ht5 (HG.out.not_own HT.out)
                          replace hC7 := hC7.on lA0
                          replace hG5 := hG5.on lA0
                          clear hT5 ht5 HN x0 HT HP HR HB HG HIX
                          generalize w5.heap.size = gA at bA bA2 ⊢
                          generalize hgA2 : gA + 1 = gA2 at bA2 ⊢
                          generalize (w5.alloc _).alloc _ = A at bA bA2 lA0 hC7 hG5 ⊢
                          clear hgA2 lA0
                          have a0 : A.cell? ⟨gA, 0, none⟩ = some (.int .i64 3) := bA.at_ 0
                          have a1 : A.cell? ⟨gA, 1, none⟩ = some (.int .i64 (k : Int)) := bA.at_ 1
                          have a2 : A.cell? ⟨gA, 2, none⟩ = some (.string ⟨#[]⟩) := bA.at_ 2
                          have b0 : A.cell? ⟨gA2, 0, none⟩ = some (.int .i64 3) := bA2.at_ 0
                          have b1 : A.cell? ⟨gA2, 1, none⟩ = some (.int .i64 (-(k : Int))) := bA2.at_ 1
                          have b2 : A.cell? ⟨gA2, 2, none⟩ = some (.string ⟨#[]⟩) := bA2.at_ 2
                          have lA := bA.lt
                          have lA2 := bA2.lt
                          have hbD : Below A.heap.size A A.drew := (Below.refl _ _).drew
                          have s1 : IntKind.i64.wrap (-(k : Int)) = -(k : Int) := IntWalk.i64_in _ (by omega)
                          have HC7 := Veil.mk hC7
                          have HG5 := Veil.mk hG5
                          clear hC7 hG5 bA bA2
                          go_region_held3 (fun w' => w'.cell? ⟨gA, 0, none⟩ = some (.int .i64 3) ∧ w'.cell? ⟨gA, 1, none⟩ = some (.int .i64 (k : Int)) ∧ w'.cell? ⟨gA, 2, none⟩ = some (.string ⟨#[]⟩) ∧ w'.cell? ⟨gA2, 0, none⟩ = some (.int .i64 3) ∧ w'.cell? ⟨gA2, 1, none⟩ = some (.int .i64 (-(k : Int))) ∧ w'.cell? ⟨gA2, 2, none⟩ = some (.string ⟨#[]⟩)) (go_keep) (first | (go_at_call 48; ((with_reducible refine (HK.out _ _).mono ?_); rintro e w1 ⟨rfl, hb1⟩; replace hbD := blw2 hbD hb1; clear hb1; have y0 := (hbD.cell (p := ⟨gA, 0, none⟩) lA).trans a0; have y1 := (hbD.cell (p := ⟨gA, 1, none⟩) lA).trans a1; have y2 := (hbD.cell (p := ⟨gA, 2, none⟩) lA).trans a2; have y3 := (hbD.cell (p := ⟨gA2, 0, none⟩) lA2).trans b0; have y4 := (hbD.cell (p := ⟨gA2, 1, none⟩) lA2).trans b1; have y5 := (hbD.cell (p := ⟨gA2, 2, none⟩) lA2).trans b2)))
                          all_goals
                            have HE := Veil.mk (And.intro (HC7.out.on hbD) (HG5.out.on hbD))
                            clear HC7 HG5 s1
                            go_wp2
                            go_roundw
                            case rel => exact ⟨k + 1, by omega, by go_num, HE.out.1, HE.out.2⟩
                            case measure => simp [intOf]; omega
                        · have HGK := Veil.mk hgk
                          clear hgk
                          go_wp2_with (at_lookup; refine wpList_lookup_own_bool _ rfl _ _ 100 rfl 3 4 Try.lawI Try.underlying100 Try.underlying4 (Try.zeroB _) bm ld D rfl hown _ _ rfl hkey ?_; intro cc2 hcc2; obtain rfl : cc2 = true := (by have := hcc2.symm.trans HATK.out; rw [HGK.out] at this; simpa using this))
                          have HE : Veil (C7 w.heap.size t n c (k + 1) cs i w (.slice (some ⟨gc, 0, none⟩) cs.length cl) (.slice (some ⟨ga, 0, none⟩) cs.length al) G wr ∧ GS wr bm ld G n) := ⟨⟨F4, L4, HT.out, by
                            have hp := HP.out
                            rw [show n - k = n - (k + 1) + 1 by omega, eG_skip G k _ HGK.out] at hp
                            exact hp, HR.out, HB.out⟩, HG.out⟩
                          clear HT HP HR HB HG hown hkey
                          go_roundw
                          case rel => exact ⟨k + 1, by omega, by go_num, HE.out.1, HE.out.2⟩
                          case measure => simp [intOf]; omega
                      · have hkn' : ¬ (k : Int) < (n : Int) := by omega
                        obtain rfl : n = k := by omega
                        rw [Nat.sub_self, eG_zero] at hP
                        have HN := Veil.mk (end_tf hT (by have := eG_le G 0 n; show (eG G 0 n).length < _; omega) (by
                          have := hP.length_eq
                          show L4.length < _
                          rw [this]
                          unfold curL
                          simp only [List.length_cons, List.length_map, List.length_drop]
                          have := HCS.out
                          omega) c (hP.symm.subset List.mem_cons_self))
                        have x0 : wr.cell? ⟨gc, i, none⟩ = some (.pointer (some ⟨c, 0, none⟩)) := by
                          have := hR.rc.cells (g := gc) rfl i (.pointer (some ⟨c, 0, none⟩)) (by unfold curV; rw [List.getElem?_map, HCI.out]; rfl)
                          rwa [add_off] at this
                        have i1' : (i : Int) < (cs.length : Int) := by rw [HCS.out]; omega
                        have HG := Veil.mk hG
                        have HT := Veil.mk hT
                        have HP := Veil.mk hP
                        have HR := Veil.mk hR
                        have HB := Veil.mk hb
                        clear hT hP hR hb hG
                        go_upto_region 45 with (first | (go_at_call 42; ((with_reducible refine HN.out.mono ?_); rintro e w5 ⟨rfl, F5, L5, hT5, hFs5, hp5, zx, zy, hcl5⟩)))
                        have lA := two_below w5 (#[.int .i64 0, .int .i64 0, .string ⟨#[]⟩]) (#[.int .i64 0, .int .i64 0, .string ⟨#[]⟩])
                        have hR5 := (HR.out.fs hFs5).on lA
                        replace hcl5 := hcl5.on lA hcl5.lt
                        have hT6 := hT5.on lA
                        have hG6 := (HG.out.touch hFs5.touch (HG.out.not_own HT.out)).on lA
                        have hb6 := (HB.out.trans (hFs5.below HT.out)).trans (lA.mono hT5.le)
                        have hp6 := (hp5.trans HP.out).cons_inv
                        generalize (w5.alloc _).alloc _ = A at hR5 hcl5 hT6 hG6 hb6 ⊢
                        have y0 : A.cell? ⟨gc, i, none⟩ = some (.pointer (some ⟨c, 0, none⟩)) := by
                          have := hR5.rc.cells (g := gc) rfl i (.pointer (some ⟨c, 0, none⟩)) (by unfold curV; rw [List.getElem?_map, HCI.out]; rfl)
                          rwa [add_off] at this
                        have HO := Veil.mk (open_shut c zx zy A hcl5)
                        have HE : Veil (C6 w.heap.size t n cs w (.slice (some ⟨gc, 0, none⟩) cs.length cl) (.slice (some ⟨ga, 0, none⟩) cs.length al) G (i + 1) A ∧ GS A bm ld G n) := ⟨⟨F5, L5, hT6, hp6, hR5, hb6⟩, hG6⟩
                        clear lA hR5 hcl5 hT6 hG6 hb6 hp6 hT5 hFs5 hp5 x0 HN HT HP HR HB HG
                        go_wp2_with (first | (go_at_call 43; ((with_reducible refine HO.out.mono ?_); rintro e w8 ⟨rfl, rfl⟩)))
                        go_roundw
                        case rel => exact ⟨i + 1, by omega, by go_num, HE.out.1, HE.out.2⟩
                        case measure => simp [intOf]; omega
                  · have hlt' : ¬ (i : Int) < (la : Int) := by omega
                    obtain ⟨D, hown, hat, hsz⟩ := hG
                    have HL := Veil.mk (len_tb hT.tb)
                    have hcn := eG_count G n
                    have e1 : IntKind.i64.wrap ((n : Int) - ((Maps.size D : Nat) : Int)) = ((eG G 0 n).length : Int) := by
                      rw [hsz, show (n : Int) - ((cntG G n : Nat) : Int) = ((eG G 0 n).length : Int) by omega]
                      exact IntWalk.i64_in _ (by omega)
                    have HB := Veil.mk hb
                    obtain ⟨el, hel⟩ : ∃ m : Nat, (eG G 0 n).length = m := ⟨_, rfl⟩
                    rw [hel] at e1
                    have HL2 : Veil (Calls Try.prog 41 #[.pointer (some ⟨t, 0, none⟩)] wr fun e w' => e = .returned (.int .i64 (el : Int)) ∧ w' = wr) := ⟨by rw [← hel]; exact HL.out⟩
                    clear hat hsz hT hP hR hb hcn HL hel
                    go_wp2_with (first | (go_at_call 41; ((with_reducible refine HL2.out.mono ?_); rintro e w8 ⟨rfl, rfl⟩)) | (at_len; refine wpList_len_own _ rfl _ 100 rfl 3 4 Try.underlying100 _ bm ld D rfl hown ?_))
                    go_ret
                    exact ⟨rfl, HB.out⟩
  · clear hx1 hx2 hx3 hx4 hr
    have HLN := Veil.mk hlen
    by_cases h3 : (20 : Int) < (la : Int)
    · clear hlen
      go_enter Try.func12, Try.ntmps12
      go_wp2_with (first | (go_at_call 32; ((with_reducible refine (HF.out _).mono ?_); rintro e w1 ⟨rfl, hb1⟩)))
      go_ret
      exact ⟨rfl, hb1⟩
    · have h4 : (200 : Int) < (ld : Int) := by
        have := HLN.out
        omega
      clear hlen
      go_enter Try.func12, Try.ntmps12
      go_wp2_with (first | (go_at_call 32; ((with_reducible refine (HF.out _).mono ?_); rintro e w1 ⟨rfl, hb1⟩)))
      go_ret
      exact ⟨rfl, hb1⟩
end Go.Proofs.Ythlhchaapdhbfaa
